/- Contracts and pure facts that the proof needs, joined. -/
import Derived.Test.YtiibhccbbpgehaaGreatG6
import Derived.Test.YtiibhccbbpgehaaGreatG5
import Derived.Test.YtiibhccbbpgehaaGreatG1
import Derived.Test.YtiibhccbbpgehaaGreatG2
import Derived.Test.YtiibhccbbpgehaaGreatG3

/- What may be, of fields that were read without a fault, plainly. -/
namespace Go.Proofs.YtiibhccbbpgehaaGreat
open Go.RowKit

theorem lstR_each : ∀ (n : Nat) (l : List UInt8) (each k : Nat) (ts : List (List UInt8)), lstR n l each = (0, ts, k) → ∀ t ∈ ts, t.length ≤ each
  | 0, l, each, k, ts, h => by
    intro t ht
    have e : lstR 0 l each = (0, [], 0) := rfl
    rw [e] at h
    simp only [Prod.mk.injEq, true_and] at h
    rw [← h.1] at ht
    cases ht
  | n + 1, l, each, k, ts, h => by
    intro t ht
    rw [lstR_succ] at h
    split at h
    · rename_i g
      simp only [Prod.mk.injEq] at h
      exact absurd h.1 g
    · rename_i g
      split at h
      · rename_i g2
        simp only [Prod.mk.injEq] at h
        exact absurd h.1 g2
      · rename_i g2
        obtain ⟨E, s, k1, hs⟩ : ∃ E s k1, wtxt l each = (E, s, k1) := ⟨_, _, _, rfl⟩
        obtain ⟨E2, r, k2, hr⟩ : ∃ E s k1, lstR n (l.drop (wtxt l each).2.2) each = (E, s, k1) := ⟨_, _, _, rfl⟩
        have hE : E = 0 := by rw [hs] at g; simpa using g
        have hE2 : E2 = 0 := by rw [hr] at g2; simpa using g2
        subst hE hE2
        rw [hr, hs] at h
        simp only [Prod.mk.injEq, true_and] at h
        rw [← h.1] at ht
        rcases List.mem_cons.1 ht with rfl | ht
        · exact (txt_ok hs).2.2.1
        · exact lstR_each n _ each k2 r hr t ht
theorem l_bound (bs : List UInt8) (s : St) (h : (lS bs 8 4096 s).2.2.1 = 0) : (lS bs 8 4096 s).1.length ≤ 8 ∧ longA (lS bs 8 4096 s).1 = false := by
  by_cases h0 : s.2.1 = 0
  · obtain ⟨E, ts, k, hd⟩ : ∃ E n9 k, lst (bs.drop s.1) 8 4096 = (E, n9, k) := ⟨_, _, _, rfl⟩
    by_cases hE : E = 0
    · subst hE
      have e1 : (lS bs 8 4096 s).1 = ts := by
        unfold lS listF
        rw [if_neg (fun h9 => h9 h0), if_neg (by omega), show (8 : Int).toNat = 8 from rfl, show (4096 : Int).toNat = 4096 from rfl, hd, if_neg (fun h9 => h9 rfl)]
      rw [e1]
      unfold lst at hd
      obtain ⟨E3, n, k3, hu⟩ : ∃ E n k, upTo (bs.drop s.1) 8 11 = (E, n, k) := ⟨_, _, _, rfl⟩
      rw [hu] at hd
      simp only at hd
      by_cases hE3 : E3 = 0
      · subst hE3
        rw [if_neg (fun h9 => h9 rfl)] at hd
        obtain ⟨E4, r, k4, hr⟩ : ∃ E r k, lstR n ((bs.drop s.1).drop k3) 4096 = (E, r, k) := ⟨_, _, _, rfl⟩
        rw [hr] at hd
        simp only [Prod.mk.injEq] at hd
        obtain ⟨hE4, hts, _⟩ := hd
        subst hE4 hts
        have h8 := (upTo_ok (by decide) hu).2
        have h9 := (lstR_ok n _ 4096 k4 r hr).1
        refine ⟨by omega, ?_⟩
        unfold longA
        rw [List.any_eq_false]
        intro t ht
        have := lstR_each n _ 4096 k4 r hr t ht
        simp
        omega
      · rw [if_pos hE3] at hd
        simp only [Prod.mk.injEq] at hd
        exact absurd hd.1 hE3
    · exfalso
      unfold lS listF at h
      rw [if_neg (fun h9 => h9 h0), if_neg (by omega), show (8 : Int).toNat = 8 from rfl, show (4096 : Int).toNat = 4096 from rfl, hd, if_pos hE] at h
      have : (E : Int) = 0 := h
      omega
  · rw [over_l bs 8 4096 s h0] at h
    exact absurd h h0
/-- what the document asks of fields that were read: nothing but of a response -/
theorem may_fields (bs : List UInt8) (K : Nat) (s : St) (hK : 1 ≤ K ∧ K ≤ 6) (he : (eS bs (fieldsP bs (K : Int) s).2).1 = 0) :
    mayF (fieldsP bs (K : Int) s).1 = !decide (K = 3 ∧ (fieldsP bs (K : Int) s).1.status ≠ 1 ∧ (fieldsP bs (K : Int) s).1.body ≠ []) := by
  obtain ⟨e1, e2⟩ := e_form bs _ he
  have hc : K = 1 ∨ K = 2 ∨ K = 3 ∨ K = 4 ∨ K = 5 ∨ K = 6 := by omega
  rcases hc with rfl | rfl | rfl | rfl | rfl | rfl
  · rw [show ((1 : Nat) : Int) = 1 from rfl] at e1 ⊢
    rw [decide_eq_false (by omega), mayF_1 _ (fieldsP_kind bs 1 s (by omega)), fieldsP_1]
    rw [fieldsP_1] at e1
    obtain ⟨a1, a2, a3⟩ := r_form bs _ e1
    obtain ⟨b1, b2, b3⟩ := o_form bs 64 _ (by omega) a1
    obtain ⟨c1, c2, c3⟩ := o_form bs 1 _ (by omega) b1
    have d1 := oS_le bs 1 s (by omega)
    have d2 := oS_le bs 64 (oS bs 1 s).2 (by omega)
    refine decide_eq_true ⟨?_, ?_, ?_⟩
    · show ((oS bs 1 s).1 : Int) = 1
      omega
    · show (1 : Int) ≤ ((oS bs 64 (oS bs 1 s).2).1 : Int)
      omega
    · show ((oS bs 64 (oS bs 1 s).2).1 : Int) ≤ 64
      omega
  · rw [show ((2 : Nat) : Int) = 2 from rfl] at e1 ⊢
    rw [decide_eq_false (by omega), mayF_2 _ (fieldsP_kind bs 2 s (by omega)), fieldsP_2]
    rw [fieldsP_2] at e1
    obtain ⟨a1, a2⟩ := t_form bs 2097152 _ (by omega) e1
    obtain ⟨l1, l2⟩ := l_bound bs _ a1
    refine decide_eq_true ⟨?_, ?_, ?_, l1, l2⟩
    · simp [reqF]
    · simp [reqF]
    · simp [reqF]
  · rw [show ((3 : Nat) : Int) = 3 from rfl] at e1 ⊢
    rw [mayF_3 _ (fieldsP_kind bs 3 s (by omega)), fieldsP_3]
    rw [fieldsP_3] at e1
    obtain ⟨a1, a2⟩ := t_form bs 2097152 _ (by omega) e1
    obtain ⟨b1, b2, b3⟩ := o_form bs 3 _ (by omega) a1
    have d1 := oS_le bs 3 (uS bs s).2 (by omega)
    unfold mayResP
    simp only [resF]
    generalize (oS bs 3 (uS bs s).2).1 = X at *
    generalize (tS bs 2097152 (oS bs 3 (uS bs s).2).2).1 = Y at *
    by_cases hY : Y = []
    · have : X = 1 ∨ X = 2 ∨ X = 3 := by omega
      rcases this with rfl | rfl | rfl <;> simp [hY]
    · have : X = 1 ∨ X = 2 ∨ X = 3 := by omega
      rcases this with rfl | rfl | rfl <;> simp [hY]
  · rw [show ((4 : Nat) : Int) = 4 from rfl] at e1 ⊢
    rw [decide_eq_false (by omega), mayF_4 _ (fieldsP_kind bs 4 s (by omega))]
    rfl
  · rw [show ((5 : Nat) : Int) = 5 from rfl] at e1 ⊢
    rw [decide_eq_false (by omega), mayF_5 _ (fieldsP_kind bs 5 s (by omega))]
    rfl
  · rw [show ((6 : Nat) : Int) = 6 from rfl] at e1 ⊢
    rw [decide_eq_false (by omega), mayF_6 _ (fieldsP_kind bs 6 s (by omega))]
    rfl
end Go.Proofs.YtiibhccbbpgehaaGreat

/- The document's Need. -/
namespace Go.Proofs.YtiibhccbbpgehaaGreat
open Go.RowKit Go.BigFrame

set_option maxRecDepth 100000 in
set_option maxHeartbeats 2000000 in
theorem qnew_any (v0 : Value) (bs : List UInt8) (w : World) (hs : Src w v0 bs) :
    Calls Tryz.prog 33 #[v0] w fun e w' => ∃ v', e = .returned (.agg #[v', .int .i64 0, .int .i64 0, .int .i64 0]) ∧ OwnB w' w.heap.size v' bs ∧ Below w.heap.size w w' := by
  have HS := hid (hs.below (below_walk w (.cells #[.slice none 0 0, .int .i64 0, .int .i64 0, .int .i64 0] 88)))
  have hl := hs.1
  clear hs
  go_enter Tryz.func33, Tryz.ntmps33
  go_wp2_with (at_builtin; refine app_src rfl _ _ rfl (w.heap.size + 1) _ _ rfl (OwnB.nil _ _) _ _ rfl HS.out ?c1 ?c2 ?_)
  case c1 => simpa using hl
  case c2 => simp
  intro v1 w1 ho1 hg1
  have HO1 := hid (by simpa using ho1 : OwnB w1 (w.heap.size + 1) v1 bs)
  have HB1 := hid ((below_walk w _).trans ((gb_below hg1).mono (by simp)))
  have n0 : w1.cell? ⟨w.heap.size, 0, none⟩ = some (.slice none 0 0) := by rw [(gb_below hg1).cell (p := ⟨w.heap.size, 0, none⟩) (by simp)]; simp
  have n1 : w1.cell? ⟨w.heap.size, 1, none⟩ = some (.int .i64 0) := by rw [(gb_below hg1).cell (p := ⟨w.heap.size, 1, none⟩) (by simp)]; simp
  have n2 : w1.cell? ⟨w.heap.size, 2, none⟩ = some (.int .i64 0) := by rw [(gb_below hg1).cell (p := ⟨w.heap.size, 2, none⟩) (by simp)]; simp
  have n3 : w1.cell? ⟨w.heap.size, 3, none⟩ = some (.int .i64 0) := by rw [(gb_below hg1).cell (p := ⟨w.heap.size, 3, none⟩) (by simp)]; simp
  have f0 : ∀ i, w1.frozen? ⟨w.heap.size, i, none⟩ = false := by intro i; rw [(gb_below hg1).frozen (p := ⟨w.heap.size, i, none⟩) (by simp)]; simp
  have f1 := f0 0
  have f2 := f0 1
  have f3 := f0 2
  have f4 := f0 3
  clear ho1 hg1 f0
  obtain ⟨ad, cap, rfl⟩ := HO1.out.shape
  go_wp2_with fail
  have hg : w1.grownBy ((((w1.setCell ⟨w.heap.size, 0, none⟩ (.slice ad bs.length cap)).setCell ⟨w.heap.size, 1, none⟩ (.int .i64 0)).setCell ⟨w.heap.size, 2, none⟩ (.int .i64 0)).setCell ⟨w.heap.size, 3, none⟩ (.int .i64 0)) (some w.heap.size) :=
    gb_trans (gb_trans (gb_trans (gb_set _ _ _) (gb_set _ _ _)) (gb_set _ _ _)) (gb_set _ _ _)
  exact bodyPost_ret (v := .agg #[.slice ad bs.length cap, .int .i64 0, .int .i64 0, .int .i64 0]) (by simp [results, Tryz.results33, go_sem, n0, n1, n2, n3]) rfl ⟨_, rfl, (HO1.out.kept hg (by right; intro e; have := (HO1.out.lt _ e).1; omega)).le (by omega), Below.of_gb HB1.out hg (Nat.le_refl _)⟩

set_option maxRecDepth 100000 in
set_option maxHeartbeats 4000000 in
theorem rneed_any (v : Value) (bs : List UInt8) (w : World) (hs : Src w v bs) :
    Calls Tryz.prog 31 #[v] w fun e w' => e = .returned (.tuple #[.int .i64 (needP bs).1, .int .i64 (needP bs).2.1, .int .i64 (needP bs).2.2]) ∧ Below w.heap.size w w' := by
  obtain ⟨av, cv, rfl⟩ := src_shape hs
  have hsl := hs.1
  have HN := hid (qnew_any _ bs w hs)
  obtain ⟨E, N, K, hdec⟩ : ∃ E N K, dec bs 0 0 = (E, N, K) := ⟨_, _, _, rfl⟩
  have HU : Hid (uintF bs 0 0 0 = (N, K, (E : Int), watOf E 0 0)) := hid (by unfold uintF; rw [if_neg (by simp), List.drop_zero, hdec]; simp)
  have HLE := hid (dec_le bs hdec)
  have HTEN : Hid (K ≤ 10) := hid (by have h1 := dec_head bs; rw [hdec] at h1; have := (dec_le _ h1).1; rw [List.length_take] at this; omega)
  have HP : Hid (needP bs = if E = 4 then (0, 0, 0) else if E ≠ 0 then (0, 0, E) else if 2097152 < N then (0, 0, 3) else if N = 0 then (0, 0, 70) else (K + N + 4, K, 0)) := hid (by unfold needP; rw [hdec])
  clear hdec hs
  go_enter Tryz.func31, Tryz.ntmps31
  go_wp2_with fail
  refine HN.out.mono ?_
  rintro e w1 ⟨v1, rfl, ho1, hb1⟩
  obtain ⟨a1, c1, e1⟩ := src_shape (ho1.src (by omega))
  subst e1
  have HB1 := hid (below_then hb1 (below_walk w1 (.cells #[.slice a1 bs.length c1, .int .i64 0, .int .i64 0, .int .i64 0] 88)))
  have HQ1 : Hid (Qd (w1.alloc (.cells #[.slice a1 bs.length c1, .int .i64 0, .int .i64 0, .int .i64 0] 88)) w.heap.size w1.heap.size (.slice a1 bs.length c1) bs 0 0 0) := hid ⟨hb1.size, hp_new w1 _, ho1.below (below_walk w1 _), fun e => by have := (ho1.lt _ e).2; omega, Nat.zero_le _⟩
  clear ho1 hb1 HN
  go_wp2_with fail
  obtain ⟨B, HBN⟩ : ∃ b : Nat, Hid (w1.heap.size = b) := ⟨_, rfl⟩
  rw [HBN.out] at HQ1 ⊢
  generalize w1.alloc (.cells #[.slice a1 bs.length c1, .int .i64 0, .int .i64 0, .int .i64 0] 88) = w2 at HB1 HQ1 ⊢
  have HUI := hid (quint_R (h := HQ1.out))
  rw [HU.out] at HUI
  refine HUI.out.mono ?_
  rintro e w3 ⟨rfl, hq3, hg3⟩
  have HQ3 := hid hq3
  have HB3 := hid (Below.of_gb HB1.out hg3 hq3.lo)
  have x1 : w3.cell? ⟨B, 1, none⟩ = some (.int .i64 K) := by rw [cell_of_row w3 B 1 _ _ _ hq3.blk]; rfl
  have x2 : w3.cell? ⟨B, 2, none⟩ = some (.int .i64 E) := by rw [cell_of_row w3 B 2 _ _ _ hq3.blk]; rfl
  clear hq3 hg3 HUI HB1 HQ1
  by_cases h4 : E = 4
  · have HV := hid (show needP bs = (0, 0, 0) by rw [HP.out, if_pos h4])
    have q1 : ((E : Int) == 4) = true := by simp [h4]
    have q2 : (E : Int) = 4 := by omega
    clear h4
    go_wp2
    go_ret3
    rw [HV.out]
    exact ⟨rfl, HB3.out⟩
  · have q1 : ((E : Int) == 4) = false := by simp; omega
    have q2 : ¬ (E : Int) = 4 := by omega
    by_cases h0 : E = 0
    · have q3 : ((E : Int) != 0) = false := by simp [h0]
      have q4 : (E : Int) = 0 := by omega
      by_cases hN : 2097152 < N
      · have HV := hid (show needP bs = (0, 0, 3) by rw [HP.out, if_neg h4, if_neg (by simpa using h0), if_pos hN])
        have q5 : (2097152 : Int) < (N : Int) := by omega
        have q6 : decide ((2097152 : Int) < (N : Int)) = true := by simpa using q5
        clear h4 h0 hN
        go_wp2
        go_ret3
        rw [HV.out]
        exact ⟨rfl, HB3.out⟩
      · have q5 : ¬ (2097152 : Int) < (N : Int) := by omega
        have q6 : decide ((2097152 : Int) < (N : Int)) = false := by simpa using q5
        by_cases hz : N = 0
        · have HV := hid (show needP bs = (0, 0, 70) by rw [HP.out, if_neg h4, if_neg (by simpa using h0), if_neg hN, if_pos hz])
          have q7 : ((N : Int) == 0) = true := by simp [hz]
          have q8 : (N : Int) = 0 := by omega
          clear h4 h0 hN hz
          go_wp2
          go_ret3
          rw [HV.out]
          exact ⟨rfl, HB3.out⟩
        · have HV := hid (show needP bs = (K + N + 4, K, 0) by rw [HP.out, if_neg h4, if_neg (by simpa using h0), if_neg hN, if_neg hz])
          have q7 : ((N : Int) == 0) = false := by simp; omega
          have q8 : ¬ (N : Int) = 0 := by omega
          have wa : IntKind.i64.wrap (N : Int) = (N : Int) := by rw [IntKind.wrap_i64]; omega
          have wb : IntKind.i64.wrap ((K : Int) + (N : Int)) = (K : Int) + (N : Int) := by rw [IntKind.wrap_i64]; have := HTEN.out; omega
          have wc : IntKind.i64.wrap ((K : Int) + (N : Int) + 4) = (K : Int) + (N : Int) + 4 := by rw [IntKind.wrap_i64]; have := HTEN.out; omega
          clear h4 h0 hN hz
          go_wp2_with fail
          go_quiet (fail)
          go_wp2
          go_ret3
          rw [HV.out]
          exact ⟨by simp, below_then HB3.out ⟨rfl, rfl, rfl, Nat.le_refl _, fun _ _ => rfl⟩⟩
    · have HV := hid (show needP bs = (0, 0, E) by rw [HP.out, if_neg h4, if_pos h0])
      have q3 : ((E : Int) != 0) = true := by simp; omega
      have q4 : ¬ (E : Int) = 0 := by omega
      clear h4 h0
      go_wp2_with fail
      go_quiet (fail)
      go_wp2
      go_ret3
      rw [HV.out]
      exact ⟨rfl, below_then HB3.out ⟨rfl, rfl, rfl, Nat.le_refl _, fun _ _ => rfl⟩⟩

end Go.Proofs.YtiibhccbbpgehaaGreat

/- Toward the document's Decode. -/
namespace Go.Proofs.YtiibhccbbpgehaaGreat
open Go.RowKit Go.BigFrame

def fldP (bs : List UInt8) (s : St) : Fr × St := if (oS bs 6 s).1 = 0 then (kF 0, (oS bs 6 s).2) else fieldsP bs ((oS bs 6 s).1 : Int) (oS bs 6 s).2
theorem rfields_any (base b : Nat) (v : Value) (bs : List UInt8) (s : St) (w : World) (hbl : bs.length ≤ 1099511627776) (h : Qs w base b v bs s) :
    Calls Tryz.prog 34 #[.pointer (some ⟨b, 0, none⟩)] w fun e w' => ∃ va, e = .returned (.agg (fcells (fldP bs s).1 va).toArray) ∧ WOwnS w' w.heap.size va (fldP bs s).1.args ∧ Qs w' base b v bs (fldP bs s).2 ∧ w.grownBy w' (some b) := by
  have hle := oS_le bs 6 s (by omega)
  have hc : (oS bs 6 s).1 = 0 ∨ (oS bs 6 s).1 = 1 ∨ (oS bs 6 s).1 = 2 ∨ (oS bs 6 s).1 = 3 ∨ (oS bs 6 s).1 = 4 ∨ (oS bs 6 s).1 = 5 ∨ (oS bs 6 s).1 = 6 := by omega
  unfold fldP
  rcases hc with k | k | k | k | k | k | k
  · rw [if_pos k]
    exact rfields_0 base b v bs s w hbl h k
  · rw [if_neg (by omega), k, show ((1 : Nat) : Int) = 1 from rfl]
    exact rfields_1 base b v bs s w hbl h k
  · rw [if_neg (by omega), k, show ((2 : Nat) : Int) = 2 from rfl]
    exact rfields_2 base b v bs s w hbl h k
  · rw [if_neg (by omega), k, show ((3 : Nat) : Int) = 3 from rfl]
    exact rfields_3 base b v bs s w hbl h k
  · rw [if_neg (by omega), k, show ((4 : Nat) : Int) = 4 from rfl]
    exact rfields_4 base b v bs s w hbl h k
  · rw [if_neg (by omega), k, show ((5 : Nat) : Int) = 5 from rfl]
    exact rfields_5 base b v bs s w hbl h k
  · rw [if_neg (by omega), k, show ((6 : Nat) : Int) = 6 from rfl]
    exact rfields_6 base b v bs s w hbl h k
/-- the fault at the end, and the frame -/
theorem frameP_fld (bs : List UInt8) (head : Nat) : frameP bs head = if (eS bs (fldP bs (head, 0, 0)).2).1 ≠ 0 then (zF, eS bs (fldP bs (head, 0, 0)).2) else if (fldP bs (head, 0, 0)).1.kind = 3 ∧ (fldP bs (head, 0, 0)).1.status ≠ 1 ∧ (fldP bs (head, 0, 0)).1.body ≠ [] then (zF, 70, (head : Int)) else ((fldP bs (head, 0, 0)).1, 0, 0) := by
  have hle := oS_le bs 6 (head, 0, 0) (by omega)
  unfold fldP
  by_cases h0 : (oS bs 6 (head, 0, 0)).1 = 0
  · rw [if_pos h0, frameP_zero bs head h0]
    have h1 := oS_zero bs 6 _ h0
    rw [if_pos]
    intro h2
    exact h1 (e_form bs _ h2).1
  · rw [if_neg h0]
    obtain ⟨K, hK⟩ : ∃ K, (oS bs 6 (head, 0, 0)).1 = K := ⟨_, rfl⟩
    rw [hK] at h0 hle ⊢
    by_cases he : (eS bs (fieldsP bs (K : Int) (oS bs 6 (head, 0, 0)).2).2).1 = 0
    · rw [if_neg (fun h9 => h9 he)]
      have hm := may_fields bs K (oS bs 6 (head, 0, 0)).2 (by omega) he
      have hkd := fieldsP_kind bs (K : Int) (oS bs 6 (head, 0, 0)).2 (by omega)
      by_cases hb : K = 3 ∧ (fieldsP bs (K : Int) (oS bs 6 (head, 0, 0)).2).1.status ≠ 1 ∧ (fieldsP bs (K : Int) (oS bs 6 (head, 0, 0)).2).1.body ≠ []
      · rw [decide_eq_true hb] at hm
        rw [if_pos (by rw [hkd]; exact ⟨by omega, hb.2⟩), frameP_may bs head K hK h0 he hm]
      · rw [decide_eq_false hb] at hm
        rw [if_neg (by rw [hkd]; rintro ⟨h1, h2⟩; exact hb ⟨by omega, h2⟩), frameP_ok bs head K hK h0 he hm]
    · rw [if_pos he, frameP_bad bs head K hK h0 he]
theorem fldP_tool (bs : List UInt8) (s : St) : (fldP bs s).1.tool.length = 32 := by
  unfold fldP
  split
  · rfl
  · exact fieldsP_tool _ _ _
theorem qs_end (base b : Nat) (v : Value) (bs : List UInt8) (s : St) (w : World) (h : Qs w base b v bs s) :
    Calls Tryz.prog 35 #[.pointer (some ⟨b, 0, none⟩)] w fun e w' => e = .returned (.tuple #[.int .i64 (eS bs s).1, .int .i64 (eS bs s).2]) ∧ w.grownBy w' (some b) := by
  obtain ⟨a, why, wat⟩ := s
  by_cases hm : why = 0 ∧ a < bs.length
  · obtain ⟨rfl, hlt⟩ := hm
    have e : eS bs (a, 0, wat) = (6, (a : Int)) := by unfold eS; rw [if_neg (by simp), if_pos hlt]
    rw [e]
    exact (qend_more (h := h) (hlt := hlt)).mono fun _ _ ⟨h1, _, h3⟩ => ⟨h1, h3⟩
  · have hi : why ≠ 0 ∨ a = bs.length := by
      by_cases h9 : why = 0
      · have h8 : a ≤ bs.length := Qd.le h
        exact Or.inr (by have : ¬ a < bs.length := fun h => hm ⟨h9, h⟩; omega)
      · exact Or.inl h9
    have e : eS bs (a, why, wat) = (why, wat) := by
      unfold eS
      by_cases h9 : why = 0
      · rw [if_neg (by simpa using h9), if_neg (fun h => hm ⟨h9, h⟩)]
      · rw [if_pos h9]
    rw [e]
    exact (qend_idle (h := h) (hidle := hi)).mono fun _ _ ⟨h1, _, h3⟩ => ⟨h1, h3⟩

end Go.Proofs.YtiibhccbbpgehaaGreat

/- The document's Decode. -/
namespace Go.Proofs.YtiibhccbbpgehaaGreat
open Go.RowKit Go.BigFrame

set_option maxRecDepth 100000 in
set_option maxHeartbeats 8000000 in
theorem rdecode_any (v0 : Value) (bs : List UInt8) (w : World) (hs : Src w v0 bs) :
    Calls Tryz.prog 10 #[v0] w fun e w' => ∃ va, e = .returned (.tuple #[.agg (fcells (decP bs).1 va).toArray, .int .i64 (decP bs).2.1, .int .i64 (decP bs).2.2]) ∧ WOwnS w' w.heap.size va (decP bs).1.args ∧ Below w.heap.size w w' := by
  obtain ⟨av, cv, rfl⟩ := src_shape hs
  obtain ⟨A, HAA⟩ : ∃ n, Hid (w.heap.size = n) := ⟨_, rfl⟩
  have HBA := hid (below_walk w (.cells (fcells zF nS).toArray 30))
  have HNA := hid (hp_new w (.cells (fcells zF nS).toArray 30))
  have HSA : Hid ((w.alloc (.cells (fcells zF nS).toArray 30)).heap.size = w.heap.size + 1) := hid (by simp)
  have HSS := hid hs
  have HDU := hid (decP_uns bs)
  have hsl := hs.1
  obtain ⟨n, Hn⟩ : ∃ n, Hid ((needP bs).1 = n) := ⟨_, rfl⟩
  obtain ⟨hd, Hhd⟩ : ∃ n, Hid ((needP bs).2.1 = n) := ⟨_, rfl⟩
  obtain ⟨er, Her⟩ : ∃ n, Hid ((needP bs).2.2 = n) := ⟨_, rfl⟩
  obtain ⟨L, HL⟩ : ∃ n, Hid (bs.length = n) := ⟨_, rfl⟩
  have HUE : Hid (unsE bs = if er ≠ 0 then ((er : Int), 0) else if n = 0 ∨ L < n then (4, (L : Int)) else if n < L then (6, (n : Int)) else if cokP bs = true then (0, 0) else (71, (n : Int) - 4)) := hid (by unfold unsE; rw [Hn.out, Her.out, HL.out])
  have HIN : Hid (er = 0 → n ≠ 0 → L = n → (∃ N, uS (bs.take (bs.length - 4)) (0, 0, 0) = (N, hd, 0, 0)) ∧ 4 ≤ n ∧ n ≤ 3000000) := hid (by
    intro h1 h2 h3
    refine ⟨?_, ?_⟩
    · have := inner_head (b := bs) (by rw [Her.out]; exact h1) (by rw [Hn.out]; exact h2) (by rw [HL.out, Hn.out]; exact h3)
      rw [Hhd.out] at this
      exact this
    · obtain ⟨N, hd9, hN1, hN2, hn⟩ := need_ok (b := bs) (by rw [Her.out]; exact h1) (by rw [Hn.out]; exact h2)
      have := dec_ok_len hd9
      have h8 := sn_length_le N
      rw [Hn.out] at hn
      omega)
  rw [HL.out] at hsl
  clear hs
  go_enter Tryz.func10, Tryz.ntmps10
  go_upto_region 1 with (refine al_row (by rfl) 30 (by rfl) _ zeroFrame ?_)
  generalize w.alloc (.cells (fcells zF nS).toArray 30) = wA at HBA HNA HSA ⊢
  rw [HAA.out] at HNA HSA ⊢
  go_upto_region 2 with (first
    | (refine bd_row (by rfl) 30 #[] (by rfl) _ (by simp) _ built_zf ?_)
    | (refine al_row (by rfl) 30 (by rfl) _ zeroFrame ?_)
    | (refine st_new (by rfl) 30 _ _ (by rfl) (fcells zF nS) (by rfl) (by rfl) 30 _ (frame_size zF nS rfl) rfl (fcells_one zF nS rfl) ?_))
  have HW0 := hid (below_walk wA (.cells (fcells zF nS).toArray 30))
  have HNB0 := hid (bel_keep HW0.out HNA.out)
  have HNB1 := hid (hp_new wA (.cells (fcells zF nS).toArray 30))
  have HB0 := hid (below_then HBA.out HW0.out)
  have HS0 := hid (HSS.out.below HB0.out)
  rw [HSA.out] at HNB1 ⊢
  generalize wA.alloc (.cells (fcells zF nS).toArray 30) = w0 at HB0 HNB0 HNB1 HS0 HW0 ⊢
  have HNE := hid (rneed_any _ bs w0 HS0.out)
  rw [Hn.out, Hhd.out, Her.out, HL.out] at HNE
  rw [HL.out]
  clear HW0 HNA HBA HSA HSS
  go_wp2_with fail
  refine HNE.out.mono ?_
  rintro e w1 ⟨rfl, hb1⟩
  have HZ0 := hid (bel_keep hb1 HNB0.out)
  have HZ1 := hid (bel_keep hb1 HNB1.out)
  have HS1 := hid (HS0.out.below hb1)
  have HBB := hid (below_then HB0.out hb1)
  clear hb1 HNB0 HNB1 HS0 HB0 HNE
  by_cases h1 : er ≠ 0
  · as_aux_lemma =>
      have q1 : ((er : Int) != 0) = true := by simp; omega
      have q2 : ((er : Int) == 0) = false := by simp; omega
      rw [if_pos h1] at HUE
      have HDP := hid (show decP bs = (zF, (er : Int), 0) by rw [HDU.out, HUE.out, if_pos (by show (er : Int) ≠ 0; omega)])
      clear h1
      go_wp2_with (first
        | (refine ld_row (by rfl) 30 (.tmp 5) (by rfl) (A + 1) (by rfl) (fcells zF nS) 30 HZ1.out _ Tryz.underlying30 rfl (frame_size zF nS rfl) ?_)
        | (refine st_row (by rfl) 30 _ _ (by rfl) A (fcells zF nS) (by rfl) (by rfl) 30 _ HZ0.out (frame_size zF nS rfl) rfl (fcells_one zF nS rfl) ?_; intro wz hwz))
      refine ret_row3 2 3 4 30 rfl A rfl (fcells zF nS) 30 hwz.blk _ Tryz.underlying30 rfl (frame_size zF nS rfl) _ _ rfl rfl rfl ?_
      rw [HDP.out]
      exact ⟨nS, rfl, World.ownsRow_nil _ _ _ _, Below.of_gb HBB.out hwz.grown (by have := HAA.out; omega)⟩
  · obtain rfl : er = 0 := by omega
    rw [if_neg h1] at HUE
    clear h1
    by_cases h2 : n = 0 ∨ L < n
    · as_aux_lemma =>
        rw [if_pos h2] at HUE
        have HDP := hid (show decP bs = (zF, 4, (L : Int)) by rw [HDU.out, HUE.out, if_pos (by show (4 : Int) ≠ 0; decide)])
        by_cases h3 : n = 0
        · subst h3
          clear h2
          go_wp2_with (first
            | (refine ld_row (by rfl) 30 (.tmp 5) (by rfl) (A + 1) (by rfl) (fcells zF nS) 30 HZ1.out _ Tryz.underlying30 rfl (frame_size zF nS rfl) ?_)
            | (refine st_row (by rfl) 30 _ _ (by rfl) A (fcells zF nS) (by rfl) (by rfl) 30 _ HZ0.out (frame_size zF nS rfl) rfl (fcells_one zF nS rfl) ?_; intro wz hwz))
          refine ret_row3 2 3 4 30 rfl A rfl (fcells zF nS) 30 hwz.blk _ Tryz.underlying30 rfl (frame_size zF nS rfl) _ _ rfl rfl rfl ?_
          rw [HDP.out]
          exact ⟨nS, rfl, World.ownsRow_nil _ _ _ _, Below.of_gb HBB.out hwz.grown (by have := HAA.out; omega)⟩
        · have q1 : ((n : Int) == 0) = false := by simp; omega
          have q2 : ¬ (n : Int) = 0 := by omega
          have q3 : (L : Int) < (n : Int) := by omega
          have q4 : decide ((L : Int) < (n : Int)) = true := decide_eq_true q3
          clear h2 h3
          go_wp2_with (first
            | (refine ld_row (by rfl) 30 (.tmp 5) (by rfl) (A + 1) (by rfl) (fcells zF nS) 30 HZ1.out _ Tryz.underlying30 rfl (frame_size zF nS rfl) ?_)
            | (refine st_row (by rfl) 30 _ _ (by rfl) A (fcells zF nS) (by rfl) (by rfl) 30 _ HZ0.out (frame_size zF nS rfl) rfl (fcells_one zF nS rfl) ?_; intro wz hwz))
          refine ret_row3 2 3 4 30 rfl A rfl (fcells zF nS) 30 hwz.blk _ Tryz.underlying30 rfl (frame_size zF nS rfl) _ _ rfl rfl rfl ?_
          rw [HDP.out]
          exact ⟨nS, rfl, World.ownsRow_nil _ _ _ _, Below.of_gb HBB.out hwz.grown (by have := HAA.out; omega)⟩
    · rw [if_neg h2] at HUE
      have h3 : n ≠ 0 := fun h => h2 (Or.inl h)
      have h4 : ¬ L < n := fun h => h2 (Or.inr h)
      have q1 : ((n : Int) == 0) = false := by simp; omega
      have q2 : ¬ (n : Int) = 0 := by omega
      have q3 : ¬ (L : Int) < (n : Int) := by omega
      have q4 : decide ((L : Int) < (n : Int)) = false := decide_eq_false q3
      clear h2
      by_cases h6 : n < L
      · as_aux_lemma =>
          rw [if_pos h6] at HUE
          have HDP := hid (show decP bs = (zF, 6, (n : Int)) by rw [HDU.out, HUE.out, if_pos (by show (6 : Int) ≠ 0; decide)])
          have q5 : (n : Int) < (L : Int) := by omega
          have q6 : decide ((n : Int) < (L : Int)) = true := decide_eq_true q5
          clear h3 h4 h6
          go_wp2_with (first
            | (refine ld_row (by rfl) 30 (.tmp 5) (by rfl) (A + 1) (by rfl) (fcells zF nS) 30 HZ1.out _ Tryz.underlying30 rfl (frame_size zF nS rfl) ?_)
            | (refine st_row (by rfl) 30 _ _ (by rfl) A (fcells zF nS) (by rfl) (by rfl) 30 _ HZ0.out (frame_size zF nS rfl) rfl (fcells_one zF nS rfl) ?_; intro wz hwz))
          refine ret_row3 2 3 4 30 rfl A rfl (fcells zF nS) 30 hwz.blk _ Tryz.underlying30 rfl (frame_size zF nS rfl) _ _ rfl rfl rfl ?_
          rw [HDP.out]
          exact ⟨nS, rfl, World.ownsRow_nil _ _ _ _, Below.of_gb HBB.out hwz.grown (by have := HAA.out; omega)⟩
      · rw [if_neg h6] at HUE
        have q5 : ¬ (n : Int) < (L : Int) := by omega
        have q6 : decide ((n : Int) < (L : Int)) = false := decide_eq_false q5
        obtain ⟨⟨N, hu⟩, hn4, hn3⟩ := HIN.out rfl h3 (by omega)
        have HOP := hid (ropen_any w1 _ bs HS1.out (by rw [HL.out]; omega))
        rw [HL.out] at HOP
        obtain ⟨D, HD⟩ : ∃ d : Int, Hid ((n : Int) - 4 = d) := ⟨_, rfl⟩
        rw [HD.out] at HUE
        have wD : IntKind.i64.wrap ((n : Int) - 4) = D := by rw [IntKind.wrap_i64, ← HD.out]; omega
        have HLn : Hid (L = n) := hid (by omega)
        clear h3 h4 h6 hu
        go_wp2_with fail
        refine HOP.out.mono ?_
        rintro e w2 ⟨he, hb2⟩
        have HZ0b := hid (bel_keep hb2 HZ0.out)
        have HZ1b := hid (bel_keep hb2 HZ1.out)
        have HBb := hid (below_then HBB.out hb2)
        clear HZ0 HZ1 HBB
        have HZ0 := hid HZ0b.out
        have HZ1 := hid HZ1b.out
        have HBB := hid HBb.out
        clear HZ0b HZ1b HBb
        by_cases hc : cokP bs = true
        · rw [if_pos hc] at HUE
          rw [if_pos hc] at he
          obtain ⟨v', rfl, ho⟩ := he
          obtain ⟨P, HP⟩ : ∃ p, Hid (bs.take (bs.length - 4) = p) := ⟨_, rfl⟩
          have HDF := hid (show decP bs = frameP P hd by rw [HDU.out, HUE.out, if_neg (by simp), HP.out, Hhd.out])
          have HPL : Hid (P.length + 4 = n) := hid (by rw [← HP.out, List.length_take, HL.out]; have := HLn.out; omega)
          have HHD : Hid (hd ≤ P.length) := hid (by
            obtain ⟨N9, hd9, _, _, hn9⟩ := need_ok (b := bs) Her.out (by rw [Hn.out]; omega)
            rw [Hn.out, Hhd.out] at hn9
            have := HPL.out
            omega)
          rw [HP.out] at ho
          have hs2 := ho.src (by have := HPL.out; omega)
          obtain ⟨ao, no, co, eo⟩ := src_named hs2
          have HQN := hid (qnew_any _ P w2 hs2)
          subst eo
          clear hc ho hs2 hb2 HOP HDU HUE HIN HS1
          as_aux_lemma =>
            go_wp2_with fail
            refine HQN.out.mono ?_
            rintro e w3 ⟨vr, rfl, hor, hb3⟩
            obtain ⟨aR, cR, eR⟩ := hor.shape
            have HW3 := hid (below_walk w3 (.cells #[vr, .int .i64 0, .int .i64 0, .int .i64 0] 88))
            have HB3 := hid (below_then HBB.out hb3)
            have HLr : Hid (w2.heap.size ≤ w3.heap.size) := hid hb3.size
            have HZ0b := hid (bel_keep HW3.out (bel_keep hb3 HZ0.out))
            have HZ1b := hid (bel_keep HW3.out (bel_keep hb3 HZ1.out))
            have HQ0 := hid (show Qd (w3.alloc (.cells #[vr, .int .i64 0, .int .i64 0, .int .i64 0] 88)) w2.heap.size w3.heap.size vr P 0 0 0 from ⟨HLr.out, hp_new w3 _, hor.below HW3.out, fun e => by have := (hor.lt _ e).2; omega, Nat.zero_le _⟩)
            have HB4 := hid (below_then HB3.out HW3.out)
            have HLA : Hid (A + 2 ≤ w3.heap.size) := hid (by have := hp_lt HZ1.out; have := HLr.out; omega)
            subst eR
            obtain ⟨LP, HLP⟩ : ∃ n, Hid (P.length = n) := ⟨_, rfl⟩
            rw [HLP.out] at HQ0 HW3 HZ0b HZ1b HB4 ⊢
            clear hor hb3 HQN HZ0 HZ1 HBB HB3
            go_upto_region 13 with fail
            obtain ⟨rb, HRb⟩ : ∃ n, Hid (w3.heap.size = n) := ⟨_, rfl⟩
            rw [HRb.out] at HQ0 HLA HLr ⊢
            generalize w3.alloc (.cells #[.slice aR LP cR, .int .i64 0, .int .i64 0, .int .i64 0] 88) = w4 at HQ0 HW3 HZ0b HZ1b HB4 ⊢
            have c1 := Qd.c1 HQ0.out
            have f1 := Qd.fz HQ0.out 1
            go_upto_region 14 with fail
            have HQ1 := hid (show Qs (w4.setCell ⟨rb, 1, none⟩ (.int .i64 (hd : Nat))) w2.heap.size rb (.slice aR LP cR) P (hd, 0, 0) from Qd.setAt HQ0.out hd HHD.out)
            have HG5 := hid (show w4.grownBy (w4.setCell ⟨rb, 1, none⟩ (.int .i64 (hd : Nat))) (some rb) from gb_set w4 ⟨rb, 1, none⟩ (.int .i64 (hd : Nat)))
            generalize w4.setCell ⟨rb, 1, none⟩ (.int .i64 (hd : Nat)) = w5 at HQ1 HG5 ⊢
            have HZ0c := hid (gb_keep HG5.out HZ0b.out (by have := HLA.out; omega))
            have HZ1c := hid (gb_keep HG5.out HZ1b.out (by have := HLA.out; omega))
            have HB5 := hid (Below.of_gb HB4.out HG5.out (by have := HLA.out; have := HAA.out; omega))
            clear c1 f1 HQ0 HZ0b HZ1b HB4 HG5 HW3
            go_wp2_with fail
            refine (rfields_any w2.heap.size rb _ P (hd, 0, 0) w5 (by rw [HLP.out]; have := HPL.out; rw [HLP.out] at this; omega) HQ1.out).mono ?_
            rintro e w6 ⟨va, rfl, hoa, hq6, hg6⟩
            have HZ0d := hid (gb_keep hg6 HZ0c.out (by have := HLA.out; omega))
            have HZ1d := hid (gb_keep hg6 HZ1c.out (by have := HLA.out; omega))
            have HB6 := hid (Below.of_gb HB5.out hg6 (by have := HLA.out; have := HAA.out; omega))
            have HFF := hid (frameP_fld P hd)
            have HTL := hid (fldP_tool P (hd, 0, 0))
            obtain ⟨f, HF⟩ : ∃ x, Hid ((fldP P (hd, 0, 0)).1 = x) := ⟨_, rfl⟩
            obtain ⟨S2, HS2⟩ : ∃ x, Hid ((fldP P (hd, 0, 0)).2 = x) := ⟨_, rfl⟩
            obtain ⟨E1, HE1⟩ : ∃ x, Hid ((eS P S2).1 = x) := ⟨_, rfl⟩
            obtain ⟨E2, HE2⟩ : ∃ x, Hid ((eS P S2).2 = x) := ⟨_, rfl⟩
            rw [HF.out, HS2.out] at HFF
            rw [HF.out] at hoa HTL
            rw [HS2.out] at hq6
            have HQ6 := hid hq6
            obtain ⟨aV, cV, eV⟩ := wowns_shape hoa
            have HOA := hid hoa
            have HSZ := hid (frame_size f va HTL.out)
            have HON := hid (fcells_one f va (by rw [eV]; rfl))
            have HOS := hid (show (fcells zF nS).toArray.size = (fcells f va).length by rw [fcells_length _ _ HTL.out]; rfl)
            rw [HF.out]
            obtain ⟨GG, HGG⟩ : ∃ L, Hid (fcells f va = L) := ⟨_, rfl⟩
            have HGK := hid (fun (W : World) (g9 : Nat) (h9 : W.heap[g9]? = some (.cells GG.toArray 30 (0, 0))) => Fb.of (f := f) (va := va) (by rw [HGG.out]; exact h9) HTL.out)
            rw [HGG.out] at HSZ HON HOS ⊢
            have HL6 : Hid (rb < w6.heap.size) := hid (Qs.lt hq6)
            have HRW : Hid (rb < w5.heap.size) := hid (Qs.lt HQ1.out)
            have HW5 : Hid (A + 2 ≤ w5.heap.size) := hid (by have := Qs.lt HQ1.out; have := HLA.out; omega)
            clear hoa hq6 hg6 HZ0c HZ1c HB5 HQ1 eV
            go_upto_region 15 with (first
              | (refine al_row (by rfl) 30 (by rfl) _ zeroFrame ?_)
              | (refine st_new (by rfl) 30 _ _ (by rfl) GG (by rfl) (by rfl) 30 _ HSZ.out HOS.out HON.out ?_))
            have HW6 := hid (below_walk w6 (.cells GG.toArray 30))
            have HZ0e := hid (bel_keep HW6.out HZ0d.out)
            have HZ1e := hid (bel_keep HW6.out HZ1d.out)
            have HB7 := hid (below_then HB6.out HW6.out)
            have HQ7 := hid (HQ6.out.below HW6.out)
            have HOA7 := hid (HOA.out.alloc (.cells GG.toArray 30))
            have HG7 := hid (hp_new w6 (.cells GG.toArray 30))
            obtain ⟨gb, HGb⟩ : ∃ n, Hid (w6.heap.size = n) := ⟨_, rfl⟩
            rw [HGb.out] at HG7 HL6 ⊢
            generalize w6.alloc (.cells GG.toArray 30) = w7 at HZ0e HZ1e HB7 HQ7 HOA7 HG7 ⊢
            clear HZ0d HZ1d HB6 HQ6 HOA HW6
            have HEN := hid (qs_end _ _ _ _ _ w7 HQ7.out)
            rw [HE1.out, HE2.out] at HEN
            go_wp2_with fail
            refine HEN.out.mono ?_
            rintro e w8 ⟨rfl, hg8⟩
            have HZ0 := hid (gb_keep hg8 HZ0e.out (by have := HLA.out; omega))
            have HZ1 := hid (gb_keep hg8 HZ1e.out (by have := HLA.out; omega))
            have HBB := hid (Below.of_gb HB7.out hg8 (by have := HLA.out; have := HAA.out; omega))
            have HG8 := hid (gb_keep hg8 HG7.out (by have := HL6.out; omega))
            have HOA8 := hid (WOwnS.far HOA7.out hg8 (fun j e => by injection e with e; have := HRW.out; omega))
            have HFB := hid (HGK.out w8 gb HG8.out)
            have k0 := HFB.out.k
            have k5 := HFB.out.st
            have k8 := HFB.out.bd
            have HEE := hid (show eS P S2 = (E1, E2) by rw [← HE1.out, ← HE2.out])
            rw [HEE.out] at HFF
            clear hg8 HZ0e HZ1e HB7 HQ7 HOA7 HG7 HEN HFB HGK
            by_cases hE : E1 = 0
            · subst hE
              rw [if_neg (by simp)] at HFF
              by_cases hbad : f.kind = 3 ∧ f.status ≠ 1 ∧ f.body ≠ []
              · as_aux_lemma =>
                  rw [if_pos hbad] at HFF
                  have HDP := hid (HDF.out.trans HFF.out)
                  obtain ⟨b1, b2, b3⟩ := hbad
                  rw [b1] at k0
                  have q7 : (f.status != 1) = true := by simpa using b2
                  have q8 : (f.status == 1) = false := by simpa using b2
                  have e4 : ¬ (mk f.body).toList = [] := fun h => b3 ((bl_mk f.body).symm.trans h)
                  have e5 : ((mk f.body).toList == []) = false := by simpa using e4
                  have e7 : ((mk f.body).toList != []) = true := by simpa using e4
                  have e8 : (mk f.body).toList.isEmpty = false := by rw [List.isEmpty_eq_false_iff]; exact e4
                  have b2' := b2
                  clear b1 b3 HFF b2'
                  go_wp2_with (first
                    | (refine ld_row (by rfl) 30 (.tmp 5) (by rfl) (A + 1) (by rfl) (fcells zF nS) 30 HZ1.out _ Tryz.underlying30 rfl (frame_size zF nS rfl) ?_)
                    | (refine st_row (by rfl) 30 _ _ (by rfl) A (fcells zF nS) (by rfl) (by rfl) 30 _ HZ0.out (frame_size zF nS rfl) rfl (fcells_one zF nS rfl) ?_; intro wz hwz))
                  refine ret_row3 2 3 4 30 rfl A rfl (fcells zF nS) 30 hwz.blk _ Tryz.underlying30 rfl (frame_size zF nS rfl) _ _ rfl rfl rfl ?_
                  rw [HDP.out]
                  exact ⟨nS, rfl, World.ownsRow_nil _ _ _ _, Below.of_gb HBB.out hwz.grown (by have := HAA.out; omega)⟩
              · rw [if_neg hbad] at HFF
                have HDP := hid (HDF.out.trans HFF.out)
                have hbad' := hbad
                clear hbad
                by_cases b1 : f.kind = 3
                · rw [b1] at k0
                  by_cases b2 : f.status = 1
                  · as_aux_lemma =>
                      rw [b2] at k5
                      clear b1 b2 hbad' HFF
                      go_wp2_with (first
                        | (refine ld_row (by rfl) 30 (.tmp 11) (by rfl) gb (by rfl) GG 30 HG8.out _ Tryz.underlying30 rfl HSZ.out ?_)
                        | (refine st_row (by rfl) 30 _ _ (by rfl) A GG (by rfl) (by rfl) 30 _ HZ0.out HSZ.out HOS.out HON.out ?_; intro wz hwz))
                      refine ret_row3 2 3 4 30 rfl A rfl GG 30 hwz.blk _ Tryz.underlying30 rfl HSZ.out _ _ rfl rfl rfl ?_
                      rw [HDP.out]
                      refine ⟨va, by rw [← HGG.out]; rfl, ?_, Below.of_gb HBB.out hwz.grown (by have := HAA.out; omega)⟩
                      exact (WOwnS.far HOA8.out hwz.grown (fun j e => by injection e with e; have := HW5.out; omega)).le (by have := HW5.out; have := HAA.out; omega)
                  · as_aux_lemma =>
                      have b3 : f.body = [] := by
                        by_cases h9 : f.body = []
                        · exact h9
                        · exact absurd ⟨b1, b2, h9⟩ hbad'
                      have q7 : (f.status != 1) = true := by simpa using b2
                      have q8 : (f.status == 1) = false := by simpa using b2
                      have e4 : (mk f.body).toList = [] := (bl_mk f.body).trans b3
                      have e5 : ((mk f.body).toList == []) = true := by rw [e4]; rfl
                      have e7 : ((mk f.body).toList != []) = false := by rw [e4]; rfl
                      clear b1 b3 hbad' HFF
                      go_wp2_with (first
                        | (refine ld_row (by rfl) 30 (.tmp 11) (by rfl) gb (by rfl) GG 30 HG8.out _ Tryz.underlying30 rfl HSZ.out ?_)
                        | (refine st_row (by rfl) 30 _ _ (by rfl) A GG (by rfl) (by rfl) 30 _ HZ0.out HSZ.out HOS.out HON.out ?_; intro wz hwz))
                      refine ret_row3 2 3 4 30 rfl A rfl GG 30 hwz.blk _ Tryz.underlying30 rfl HSZ.out _ _ rfl rfl rfl ?_
                      rw [HDP.out]
                      refine ⟨va, by rw [← HGG.out]; rfl, ?_, Below.of_gb HBB.out hwz.grown (by have := HAA.out; omega)⟩
                      exact (WOwnS.far HOA8.out hwz.grown (fun j e => by injection e with e; have := HW5.out; omega)).le (by have := HW5.out; have := HAA.out; omega)
                · as_aux_lemma =>
                    have q7 : (f.kind == 3) = false := by simpa using b1
                    clear hbad' HFF
                    go_wp2_with (first
                      | (refine ld_row (by rfl) 30 (.tmp 11) (by rfl) gb (by rfl) GG 30 HG8.out _ Tryz.underlying30 rfl HSZ.out ?_)
                      | (refine st_row (by rfl) 30 _ _ (by rfl) A GG (by rfl) (by rfl) 30 _ HZ0.out HSZ.out HOS.out HON.out ?_; intro wz hwz))
                    refine ret_row3 2 3 4 30 rfl A rfl GG 30 hwz.blk _ Tryz.underlying30 rfl HSZ.out _ _ rfl rfl rfl ?_
                    rw [HDP.out]
                    refine ⟨va, by rw [← HGG.out]; rfl, ?_, Below.of_gb HBB.out hwz.grown (by have := HAA.out; omega)⟩
                    exact (WOwnS.far HOA8.out hwz.grown (fun j e => by injection e with e; have := HW5.out; omega)).le (by have := HW5.out; have := HAA.out; omega)
            · as_aux_lemma =>
                have q7 : (E1 != 0) = true := by simpa using hE
                have q8 : (E1 == 0) = false := by simpa using hE
                rw [if_pos (by simpa using hE)] at HFF
                have HDP := hid (HDF.out.trans HFF.out)
                clear hE HFF
                go_wp2_with (first
                  | (refine ld_row (by rfl) 30 (.tmp 5) (by rfl) (A + 1) (by rfl) (fcells zF nS) 30 HZ1.out _ Tryz.underlying30 rfl (frame_size zF nS rfl) ?_)
                  | (refine st_row (by rfl) 30 _ _ (by rfl) A (fcells zF nS) (by rfl) (by rfl) 30 _ HZ0.out (frame_size zF nS rfl) rfl (fcells_one zF nS rfl) ?_; intro wz hwz))
                refine ret_row3 2 3 4 30 rfl A rfl (fcells zF nS) 30 hwz.blk _ Tryz.underlying30 rfl (frame_size zF nS rfl) _ _ rfl rfl rfl ?_
                rw [HDP.out]
                exact ⟨nS, rfl, World.ownsRow_nil _ _ _ _, Below.of_gb HBB.out hwz.grown (by have := HAA.out; omega)⟩
        · as_aux_lemma =>
            rw [if_neg hc] at HUE
            rw [if_neg hc] at he
            subst he
            have HDP := hid (show decP bs = (zF, 71, D) by rw [HDU.out, HUE.out, if_pos (by show (71 : Int) ≠ 0; decide)])
            clear hc hb2
            go_wp2_with (first
              | (refine ld_row (by rfl) 30 (.tmp 5) (by rfl) (A + 1) (by rfl) (fcells zF nS) 30 HZ1.out _ Tryz.underlying30 rfl (frame_size zF nS rfl) ?_)
              | (refine st_row (by rfl) 30 _ _ (by rfl) A (fcells zF nS) (by rfl) (by rfl) 30 _ HZ0.out (frame_size zF nS rfl) rfl (fcells_one zF nS rfl) ?_; intro wz hwz))
            refine ret_row3 2 3 4 30 rfl A rfl (fcells zF nS) 30 hwz.blk _ Tryz.underlying30 rfl (frame_size zF nS rfl) _ _ rfl rfl rfl ?_
            rw [HDP.out]
            exact ⟨nS, rfl, World.ownsRow_nil _ _ _ _, Below.of_gb HBB.out hwz.grown (by have := HAA.out; omega)⟩
end Go.Proofs.YtiibhccbbpgehaaGreat

/- Whether all fields of two frames are the same. -/
namespace Go.Proofs.YtiibhccbbpgehaaGreat
open Go.RowKit

set_option maxRecDepth 100000 in
set_option maxHeartbeats 4000000 in
theorem rsame_any (f g : Fr) (va vb : Value) (w : World) (hf : f.tool.length = 32) (hg : g.tool.length = 32) (ha : Strs w va f.args) (hb : Strs w vb g.args) (hn : f.args.length ≤ 9223372036854775807) :
    Calls Tryz.prog 11 #[.agg (fcells f va).toArray, .agg (fcells g vb).toArray] w fun e w' => e = .returned (.bool (sameP f g)) ∧ Below w.heap.size w w' := by
  have HNA := hid (hp_two w (.cells (fcells f va).toArray 30) (.cells (fcells g vb).toArray 30))
  have HBL := hid (below_walk2 w (.cells (fcells f va).toArray 30) (.cells (fcells g vb).toArray 30))
  have HSA := hid ha
  have HSB := hid hb
  have HN := hid hn
  have HF := hid hf
  have HG := hid hg
  clear ha hb hn hf hg
  go_enter Tryz.func11, Tryz.ntmps11
  go_upto_region 1 with fail
  generalize (w.alloc (.cells (fcells f va).toArray 30)).alloc (.cells (fcells g vb).toArray 30) = w2 at HNA HBL ⊢
  have HA := hid (Fb.of HNA.out.1 HF.out)
  have HB := hid (Fb.of HNA.out.2 HG.out)
  clear HNA
  have HSA2 := hid (HSA.out.below HBL.out)
  have HSB2 := hid (HSB.out.below HBL.out)
  clear HSA HSB
  have hlg := limG
  have hdg := digG
  have HEQ := hid (wsame_any va vb f.args g.args w2 HSA2.out HSB2.out HN.out)
  obtain ⟨fk, fi, fv, fs, ft, fst, fl, fa, fb⟩ := f
  obtain ⟨gk, gi, gv, gs, gt, gst, gl, ga, gb⟩ := g
  obtain ⟨fl1, fl2, fl3⟩ := fl
  obtain ⟨gl1, gl2, gl3⟩ := gl
  obtain ⟨B2, HB2⟩ : ∃ b : Nat, Hid (w.heap.size + 1 = b) := ⟨_, rfl⟩
  obtain ⟨B1, HB1⟩ : ∃ b : Nat, Hid (w.heap.size = b) := ⟨_, rfl⟩
  rw [HB2.out] at HB ⊢
  rw [HB1.out] at HA ⊢
  clear HB1 HB2
  by_cases hne : fk = gk
  · subst hne
    by_cases hne : fi = gi
    · subst hne
      by_cases hne : fv = gv
      · subst hne
        by_cases hne : fs = gs
        · subst hne
          by_cases hne : ft = gt
          · subst hne
            by_cases hne : fst = gst
            · subst hne
              by_cases hne : (fl1, fl2, fl3) = (gl1, gl2, gl3)
              · injection hne with h1 h2; injection h2 with h2 h3; subst h1; subst h2; subst h3
                by_cases hne : fa = ga
                · subst hne
                  by_cases hne : fb = gb
                  · subst hne
                    have HR : Hid (sameP ⟨fk, fi, fv, fs, ft, fst, (fl1, fl2, fl3), fa, fb⟩ ⟨fk, fi, fv, fs, ft, fst, (fl1, fl2, fl3), fa, fb⟩ = true) := hid (sameP_self _)
                    have a0 := HA.out.k
                    have b0 := HB.out.k
                    have a1 := HA.out.i
                    have b1 := HB.out.i
                    have a2 := HA.out.v
                    have b2 := HB.out.v
                    have a3 := HA.out.s
                    have b3 := HB.out.s
                    have a4 := hid HA.out.t
                    have b4 := hid HB.out.t
                    have HS1 := hid (tool_size ft HF.out)
                    have HS2 := hid (tool_size ft HG.out)
                    have a5 := HA.out.st
                    have b5 := HB.out.st
                    have a61 := HA.out.l1
                    have b61 := HB.out.l1
                    have a62 := HA.out.l2
                    have b62 := HB.out.l2
                    have a63 := HA.out.l3
                    have b63 := HB.out.l3
                    have a7 := HA.out.a
                    have b7 := HB.out.a
                    have e4 := dig_eql ft ft HF.out HF.out
                    rw [decide_eq_true rfl] at e4
                    have e6 := lim_eql fl1 fl2 fl3 fl1 fl2 fl3
                    rw [decide_eq_true rfl] at e6
                    have HE2 := hid HEQ.out
                    simp only [decide_true] at HE2
                    have HA8 := hid (fun n => (show (w2.drewN n).cell? ⟨B1, 41, none⟩ = _ from HA.out.bd))
                    have HB8 := hid (fun n => (show (w2.drewN n).cell? ⟨B2, 41, none⟩ = _ from HB.out.bd))
                    clear HA HB HEQ HF HG
                    go_wp2_with (first | (refine ld_gd (by rfl) 25 (.tmp 32) (by rfl) B1 4 (by rfl) _ _ a4.out Tryz.underlying25 rfl HS1.out ?_) | (refine ld_gd (by rfl) 25 (.tmp 34) (by rfl) B2 4 (by rfl) _ _ b4.out Tryz.underlying25 rfl HS2.out ?_))
                    refine HE2.out.mono ?_
                    rintro e w3 ⟨rfl, n, rfl⟩
                    have a8 := HA8.out n
                    have b8 := HB8.out n
                    clear HA8 HB8
                    clear HE2
                    go_wp2
                    go_ret
                    exact ⟨ret_eq HR.out.symm, HBL.out.trans ⟨rfl, rfl, rfl, Nat.le_refl _, fun _ _ => rfl⟩⟩
                  · have HR : Hid (sameP ⟨fk, fi, fv, fs, ft, fst, (fl1, fl2, fl3), fa, fb⟩ ⟨fk, fi, fv, fs, ft, fst, (fl1, fl2, fl3), fa, gb⟩ = false) := hid (decide_eq_false (fun h9 => hne (by exact h9.2.2.2.2.2.2.2.2)))
                    have a0 := HA.out.k
                    have b0 := HB.out.k
                    have a1 := HA.out.i
                    have b1 := HB.out.i
                    have a2 := HA.out.v
                    have b2 := HB.out.v
                    have a3 := HA.out.s
                    have b3 := HB.out.s
                    have a4 := hid HA.out.t
                    have b4 := hid HB.out.t
                    have HS1 := hid (tool_size ft HF.out)
                    have HS2 := hid (tool_size ft HG.out)
                    have a5 := HA.out.st
                    have b5 := HB.out.st
                    have a61 := HA.out.l1
                    have b61 := HB.out.l1
                    have a62 := HA.out.l2
                    have b62 := HB.out.l2
                    have a63 := HA.out.l3
                    have b63 := HB.out.l3
                    have a7 := HA.out.a
                    have b7 := HB.out.a
                    have e4 := dig_eql ft ft HF.out HF.out
                    rw [decide_eq_true rfl] at e4
                    have e6 := lim_eql fl1 fl2 fl3 fl1 fl2 fl3
                    rw [decide_eq_true rfl] at e6
                    have HE2 := hid HEQ.out
                    simp only [decide_true] at HE2
                    have HA8 := hid (fun n => (show (w2.drewN n).cell? ⟨B1, 41, none⟩ = _ from HA.out.bd))
                    have HB8 := hid (fun n => (show (w2.drewN n).cell? ⟨B2, 41, none⟩ = _ from HB.out.bd))
                    have t1 : ¬ (mk fb).toList = (mk gb).toList := fun h9 => hne ((bl_mk fb).symm.trans (h9.trans (bl_mk gb)))
                    have t2 : ((mk fb).toList == (mk gb).toList) = false := by simpa using t1
                    clear HA HB HEQ HF HG
                    clear hne
                    go_wp2_with (first | (refine ld_gd (by rfl) 25 (.tmp 32) (by rfl) B1 4 (by rfl) _ _ a4.out Tryz.underlying25 rfl HS1.out ?_) | (refine ld_gd (by rfl) 25 (.tmp 34) (by rfl) B2 4 (by rfl) _ _ b4.out Tryz.underlying25 rfl HS2.out ?_))
                    refine HE2.out.mono ?_
                    rintro e w3 ⟨rfl, n, rfl⟩
                    have a8 := HA8.out n
                    have b8 := HB8.out n
                    clear HA8 HB8
                    clear HE2
                    go_wp2
                    go_ret
                    exact ⟨ret_eq HR.out.symm, HBL.out.trans ⟨rfl, rfl, rfl, Nat.le_refl _, fun _ _ => rfl⟩⟩
                · have HR : Hid (sameP ⟨fk, fi, fv, fs, ft, fst, (fl1, fl2, fl3), fa, fb⟩ ⟨fk, fi, fv, fs, ft, fst, (fl1, fl2, fl3), ga, gb⟩ = false) := hid (decide_eq_false (fun h9 => hne (by exact h9.2.2.2.2.2.2.2.1)))
                  have a0 := HA.out.k
                  have b0 := HB.out.k
                  have a1 := HA.out.i
                  have b1 := HB.out.i
                  have a2 := HA.out.v
                  have b2 := HB.out.v
                  have a3 := HA.out.s
                  have b3 := HB.out.s
                  have a4 := hid HA.out.t
                  have b4 := hid HB.out.t
                  have HS1 := hid (tool_size ft HF.out)
                  have HS2 := hid (tool_size ft HG.out)
                  have a5 := HA.out.st
                  have b5 := HB.out.st
                  have a61 := HA.out.l1
                  have b61 := HB.out.l1
                  have a62 := HA.out.l2
                  have b62 := HB.out.l2
                  have a63 := HA.out.l3
                  have b63 := HB.out.l3
                  have a7 := HA.out.a
                  have b7 := HB.out.a
                  have e4 := dig_eql ft ft HF.out HF.out
                  rw [decide_eq_true rfl] at e4
                  have e6 := lim_eql fl1 fl2 fl3 fl1 fl2 fl3
                  rw [decide_eq_true rfl] at e6
                  have HE2 := hid HEQ.out
                  simp only [decide_eq_false hne] at HE2
                  clear HA HB HEQ HF HG
                  clear hne
                  go_wp2_with (first | (refine ld_gd (by rfl) 25 (.tmp 32) (by rfl) B1 4 (by rfl) _ _ a4.out Tryz.underlying25 rfl HS1.out ?_) | (refine ld_gd (by rfl) 25 (.tmp 34) (by rfl) B2 4 (by rfl) _ _ b4.out Tryz.underlying25 rfl HS2.out ?_))
                  refine HE2.out.mono ?_
                  rintro e w3 ⟨rfl, n, rfl⟩
                  clear HE2
                  go_wp2
                  go_ret
                  exact ⟨ret_eq HR.out.symm, HBL.out.trans ⟨rfl, rfl, rfl, Nat.le_refl _, fun _ _ => rfl⟩⟩
              · have HR : Hid (sameP ⟨fk, fi, fv, fs, ft, fst, (fl1, fl2, fl3), fa, fb⟩ ⟨fk, fi, fv, fs, ft, fst, (gl1, gl2, gl3), ga, gb⟩ = false) := hid (decide_eq_false (fun h9 => hne (by exact h9.2.2.2.2.2.2.1)))
                have a0 := HA.out.k
                have b0 := HB.out.k
                have a1 := HA.out.i
                have b1 := HB.out.i
                have a2 := HA.out.v
                have b2 := HB.out.v
                have a3 := HA.out.s
                have b3 := HB.out.s
                have a4 := hid HA.out.t
                have b4 := hid HB.out.t
                have HS1 := hid (tool_size ft HF.out)
                have HS2 := hid (tool_size ft HG.out)
                have a5 := HA.out.st
                have b5 := HB.out.st
                have a61 := HA.out.l1
                have b61 := HB.out.l1
                have a62 := HA.out.l2
                have b62 := HB.out.l2
                have a63 := HA.out.l3
                have b63 := HB.out.l3
                have e4 := dig_eql ft ft HF.out HF.out
                rw [decide_eq_true rfl] at e4
                have e6 := lim_eql fl1 fl2 fl3 gl1 gl2 gl3
                rw [decide_eq_false hne] at e6
                clear HA HB HEQ HF HG
                clear hne
                go_wp2_with (first | (refine ld_gd (by rfl) 25 (.tmp 32) (by rfl) B1 4 (by rfl) _ _ a4.out Tryz.underlying25 rfl HS1.out ?_) | (refine ld_gd (by rfl) 25 (.tmp 34) (by rfl) B2 4 (by rfl) _ _ b4.out Tryz.underlying25 rfl HS2.out ?_))
                go_ret
                exact ⟨ret_eq HR.out.symm, HBL.out⟩
            · have HR : Hid (sameP ⟨fk, fi, fv, fs, ft, fst, (fl1, fl2, fl3), fa, fb⟩ ⟨fk, fi, fv, fs, ft, gst, (gl1, gl2, gl3), ga, gb⟩ = false) := hid (decide_eq_false (fun h9 => hne (by exact h9.2.2.2.2.2.1)))
              have a0 := HA.out.k
              have b0 := HB.out.k
              have a1 := HA.out.i
              have b1 := HB.out.i
              have a2 := HA.out.v
              have b2 := HB.out.v
              have a3 := HA.out.s
              have b3 := HB.out.s
              have a4 := hid HA.out.t
              have b4 := hid HB.out.t
              have HS1 := hid (tool_size ft HF.out)
              have HS2 := hid (tool_size ft HG.out)
              have a5 := HA.out.st
              have b5 := HB.out.st
              have e4 := dig_eql ft ft HF.out HF.out
              rw [decide_eq_true rfl] at e4
              have q1 : (fst == gst) = false := by simpa using hne
              clear HA HB HEQ HF HG
              go_wp2_with (first | (refine ld_gd (by rfl) 25 (.tmp 32) (by rfl) B1 4 (by rfl) _ _ a4.out Tryz.underlying25 rfl HS1.out ?_) | (refine ld_gd (by rfl) 25 (.tmp 34) (by rfl) B2 4 (by rfl) _ _ b4.out Tryz.underlying25 rfl HS2.out ?_))
              go_ret
              exact ⟨ret_eq HR.out.symm, HBL.out⟩
          · have HR : Hid (sameP ⟨fk, fi, fv, fs, ft, fst, (fl1, fl2, fl3), fa, fb⟩ ⟨fk, fi, fv, fs, gt, gst, (gl1, gl2, gl3), ga, gb⟩ = false) := hid (decide_eq_false (fun h9 => hne (by exact h9.2.2.2.2.1)))
            have a0 := HA.out.k
            have b0 := HB.out.k
            have a1 := HA.out.i
            have b1 := HB.out.i
            have a2 := HA.out.v
            have b2 := HB.out.v
            have a3 := HA.out.s
            have b3 := HB.out.s
            have a4 := hid HA.out.t
            have b4 := hid HB.out.t
            have HS1 := hid (tool_size ft HF.out)
            have HS2 := hid (tool_size gt HG.out)
            have e4 := dig_eql ft gt HF.out HG.out
            rw [decide_eq_false hne] at e4
            clear HA HB HEQ HF HG
            clear hne
            go_wp2_with (first | (refine ld_gd (by rfl) 25 (.tmp 32) (by rfl) B1 4 (by rfl) _ _ a4.out Tryz.underlying25 rfl HS1.out ?_) | (refine ld_gd (by rfl) 25 (.tmp 34) (by rfl) B2 4 (by rfl) _ _ b4.out Tryz.underlying25 rfl HS2.out ?_))
            go_ret
            exact ⟨ret_eq HR.out.symm, HBL.out⟩
        · have HR : Hid (sameP ⟨fk, fi, fv, fs, ft, fst, (fl1, fl2, fl3), fa, fb⟩ ⟨fk, fi, fv, gs, gt, gst, (gl1, gl2, gl3), ga, gb⟩ = false) := hid (decide_eq_false (fun h9 => hne (by exact h9.2.2.2.1)))
          have a0 := HA.out.k
          have b0 := HB.out.k
          have a1 := HA.out.i
          have b1 := HB.out.i
          have a2 := HA.out.v
          have b2 := HB.out.v
          have a3 := HA.out.s
          have b3 := HB.out.s
          have q1 : (fs == gs) = false := by simpa using hne
          clear HA HB HEQ HF HG
          go_wp2
          go_ret
          exact ⟨ret_eq HR.out.symm, HBL.out⟩
      · have HR : Hid (sameP ⟨fk, fi, fv, fs, ft, fst, (fl1, fl2, fl3), fa, fb⟩ ⟨fk, fi, gv, gs, gt, gst, (gl1, gl2, gl3), ga, gb⟩ = false) := hid (decide_eq_false (fun h9 => hne (by exact h9.2.2.1)))
        have a0 := HA.out.k
        have b0 := HB.out.k
        have a1 := HA.out.i
        have b1 := HB.out.i
        have a2 := HA.out.v
        have b2 := HB.out.v
        have q1 : (fv == gv) = false := by simpa using hne
        clear HA HB HEQ HF HG
        go_wp2
        go_ret
        exact ⟨ret_eq HR.out.symm, HBL.out⟩
    · have HR : Hid (sameP ⟨fk, fi, fv, fs, ft, fst, (fl1, fl2, fl3), fa, fb⟩ ⟨fk, gi, gv, gs, gt, gst, (gl1, gl2, gl3), ga, gb⟩ = false) := hid (decide_eq_false (fun h9 => hne (by exact h9.2.1)))
      have a0 := HA.out.k
      have b0 := HB.out.k
      have a1 := HA.out.i
      have b1 := HB.out.i
      have q1 : (fi == gi) = false := by simpa using hne
      clear HA HB HEQ HF HG
      go_wp2
      go_ret
      exact ⟨ret_eq HR.out.symm, HBL.out⟩
  · have HR : Hid (sameP ⟨fk, fi, fv, fs, ft, fst, (fl1, fl2, fl3), fa, fb⟩ ⟨gk, gi, gv, gs, gt, gst, (gl1, gl2, gl3), ga, gb⟩ = false) := hid (decide_eq_false (fun h9 => hne (by exact h9.1)))
    have a0 := HA.out.k
    have b0 := HB.out.k
    have q1 : (fk == gk) = false := by simpa using hne
    clear HA HB HEQ HF HG
    go_wp2
    go_ret
    exact ⟨ret_eq HR.out.symm, HBL.out⟩

end Go.Proofs.YtiibhccbbpgehaaGreat

/- A Bye, written by the document. -/
namespace Go.Proofs.YtiibhccbbpgehaaGreat
open Go.RowKit Go.BigFrame

set_option maxRecDepth 100000 in
set_option maxHeartbeats 4000000 in
theorem onlyBye_any (w : World) :
    Calls Tryz.prog 90 #[.agg (fcells byeF nS).toArray] w fun e w' => e = .returned (.agg (fcells byeF nS).toArray) ∧ Below w.heap.size w w' := by
  have HNB := hid (hp_two w (.cells (fcells byeF nS).toArray 30) (.cells (fcells zF nS).toArray 30))
  have HBL := hid (below_walk2 w (.cells (fcells byeF nS).toArray 30) (.cells (fcells zF nS).toArray 30))
  have HZ : Hid ((w.alloc (.cells (fcells byeF nS).toArray 30)).heap.size = w.heap.size + 1) := hid (by simp)
  have HSZ := hid (frame_size byeF nS rfl)
  go_enter Tryz.func90, Tryz.ntmps90
  go_upto_region 1 with (refine al_row (by rfl) 30 (by rfl) _ zeroFrame ?_)
  try rw [HZ.out]
  generalize (w.alloc (.cells (fcells byeF nS).toArray 30)).alloc (.cells (fcells zF nS).toArray 30) = w2 at HNB HBL ⊢
  have x0 : w2.cell? ⟨w.heap.size, 0, none⟩ = some (.int .i64 5) := (Fb.of HNB.out.1 rfl).k
  have HL2 := hid (hp_lt HNB.out.2)
  go_upto_region 2 with (first
    | (refine bd_row (by rfl) 30 #[(0, .tmp 5)] (by rfl) _ (by simp [Act.eval]) _ built_bye ?_)
    | (refine al_row (by rfl) 30 (by rfl) _ zeroFrame ?_)
    | (refine st_new (by rfl) 30 _ _ (by rfl) (fcells byeF nS) (by rfl) (by rfl) 30 _ HSZ.out rfl (fcells_one byeF nS rfl) ?_))
  have HN1 := hid ((below_walk w2 (.cells (fcells byeF nS).toArray 30)).block _ (by have := HL2.out; omega) |>.trans HNB.out.1)
  have HN2 := hid ((below_walk w2 (.cells (fcells byeF nS).toArray 30)).block _ HL2.out |>.trans HNB.out.2)
  have HN3 := hid (hp_new w2 (.cells (fcells byeF nS).toArray 30))
  have HB3 := hid (below_then HBL.out (below_walk w2 (.cells (fcells byeF nS).toArray 30)))
  obtain ⟨B3, HE3⟩ : ∃ b : Nat, Hid (w2.heap.size = b) := ⟨_, rfl⟩
  rw [HE3.out] at HN3 ⊢
  generalize w2.alloc (.cells (fcells byeF nS).toArray 30) = w3 at HN1 HN2 HN3 HB3 ⊢
  clear x0 HNB HBL HL2
  have x1 : w3.cell? ⟨w.heap.size, 0, none⟩ = some (.int .i64 5) := (Fb.of HN1.out rfl).k
  go_wp2_with (first
    | (refine ld_row (by rfl) 30 (.tmp 3) (by rfl) B3 (by rfl) (fcells byeF nS) 30 HN3.out _ Tryz.underlying30 rfl HSZ.out ?_)
    | (refine st_row (by rfl) 30 _ _ (by rfl) (w.heap.size + 1) (fcells byeF nS) (by rfl) (by rfl) 30 _ HN2.out HSZ.out rfl (fcells_one byeF nS rfl) ?_; intro w4 hw4))
  refine ret_row 2 30 rfl (w.heap.size + 1) rfl (fcells byeF nS) 30 hw4.blk _ Tryz.underlying30 rfl HSZ.out rfl ⟨rfl, Below.of_gb HB3.out hw4.grown (by omega)⟩

theorem ruint_five (w : World) : Calls Tryz.prog 61 #[.int .u64 5] w fun e w' => ∃ ao c, e = .returned (.slice ao 1 c) ∧ OwnB w' w.heap.size (.slice ao 1 c) [5] ∧ Below w.heap.size w w' := by
  refine (refUint_any 5 w (by decide)).mono ?_
  rintro e w' ⟨v, rfl, ho, hb⟩
  have ho' : OwnB w' w.heap.size v [5] := ho
  obtain ⟨ao, c, rfl⟩ := src_shape (ho'.src (by simp))
  exact ⟨ao, c, rfl, ho', hb⟩
theorem ruint_one (w : World) : Calls Tryz.prog 61 #[.int .u64 1] w fun e w' => ∃ ao c, e = .returned (.slice ao 1 c) ∧ OwnB w' w.heap.size (.slice ao 1 c) [1] ∧ Below w.heap.size w w' := by
  refine (refUint_any 1 w (by decide)).mono ?_
  rintro e w' ⟨v, rfl, ho, hb⟩
  have ho' : OwnB w' w.heap.size v [1] := ho
  obtain ⟨ao, c, rfl⟩ := src_shape (ho'.src (by simp))
  exact ⟨ao, c, rfl, ho', hb⟩

set_option maxRecDepth 100000 in
set_option maxHeartbeats 4000000 in
theorem bodyBye_any (w : World) :
    Calls Tryz.prog 60 #[.agg (fcells byeF nS).toArray] w fun e w' => ∃ ao c, e = .returned (.slice ao 1 c) ∧ Src w' (.slice ao 1 c) [5] ∧ Below w.heap.size w w' := by
  have HNB := hid (hp_new w (.cells (fcells byeF nS).toArray 30))
  have HBL := hid (below_walk w (.cells (fcells byeF nS).toArray 30))
  go_enter Tryz.func60, Tryz.ntmps60
  go_upto_region 1 with fail
  generalize w.alloc (.cells (fcells byeF nS).toArray 30) = w1 at HNB HBL ⊢
  have x0 : w1.cell? ⟨w.heap.size, 0, none⟩ = some (.int .i64 5) := (Fb.of HNB.out rfl).k
  have hw5 : IntKind.u64.wrap 5 = 5 := rfl
  go_wp2_with fail
  refine (ruint_five w1).mono ?_
  rintro e w2 ⟨ao, c, rfl, ho2, hb2⟩
  have HS2 := hid (ho2.src (by simp))
  have HN2 := hid ((hb2.block _ (hp_lt HNB.out)).trans HNB.out)
  have HB2 := hid (below_then HBL.out hb2)
  have x1 : w2.cell? ⟨w.heap.size, 0, none⟩ = some (.int .i64 5) := (Fb.of HN2.out rfl).k
  clear x0 hw5 ho2 hb2 HNB HBL HN2
  go_wp2
  go_ret
  exact ⟨_, _, rfl, HS2.out, HB2.out⟩

theorem rsame_bye (w : World) : Calls Tryz.prog 11 #[.agg (fcells byeF nS).toArray, .agg (fcells byeF nS).toArray] w fun e w' => e = .returned (.bool true) ∧ Below w.heap.size w w' := by
  have := rsame_any byeF byeF nS nS w rfl rfl (strs_nil w) (strs_nil w) (by simp [byeF])
  rwa [sameP_self] at this

set_option maxRecDepth 100000 in
set_option maxHeartbeats 4000000 in
theorem checkBye_any (w : World) :
    Calls Tryz.prog 59 #[.agg (fcells byeF nS).toArray] w fun e w' => e = .returned (.int .i64 0) ∧ Below w.heap.size w w' := by
  have HNB := hid (hp_new w (.cells (fcells byeF nS).toArray 30))
  have HBL := hid (below_walk w (.cells (fcells byeF nS).toArray 30))
  have HSZ := hid (frame_size byeF nS rfl)
  go_enter Tryz.func59, Tryz.ntmps59
  go_upto_region 1 with fail
  generalize w.alloc (.cells (fcells byeF nS).toArray 30) = w1 at HNB HBL ⊢
  have HL := hid (hp_lt HNB.out)
  have x0 : w1.cell? ⟨w.heap.size, 0, none⟩ = some (.int .i64 5) := (Fb.of HNB.out rfl).k
  have x7 : w1.cell? ⟨w.heap.size, 40, none⟩ = some (.slice none 0 0) := (Fb.of HNB.out rfl).a
  have z0 := fun p : Bel w1 => p.cell x0 HL.out
  have z7 := fun p : Bel w1 => p.cell x7 HL.out
  have ib : Nonempty (Bel w1) := bel_some w1
  have HRA := hid (Bel.range (range_row HNB.out) HL.out)
  clear x0 x7
  refine wp_region_quiet_bel (by kernel_rfl) (by kernel_rfl) ?_
  go_big_quiet_step (fail)
  go_big_quiet_step (fail)
  go_big_quiet_step (fail)
  go_big_quiet_step (fail)
  go_big_quiet_step (fail)
  go_big_quiet_step (fail)
  go_big_quiet_step (fail)
  go_big_quiet_step (fail)
  go_big_quiet_step (fail)
  refine wpQuiet_want (by rfl) fun K hK => quiet_ld 30 (.tmp 1) (by rfl) w.heap.size 0 (by rfl) _ _ HRA.out Tryz.underlying30 rfl HSZ.out (hK _ ?_)
  simp only [Act.put, List.setIfInBounds_toArray, List.set_cons_succ, List.set_cons_zero]
  refine wpQuiet_want (by rfl) fun K hK => quiet_ld 30 (.tmp 1) (by rfl) w.heap.size 0 (by rfl) _ _ HRA.out Tryz.underlying30 rfl HSZ.out (hK _ ?_)
  simp only [Act.put, List.setIfInBounds_toArray, List.set_cons_succ, List.set_cons_zero]
  go_big_quiet_step (first | (go_at_call 90; exact bel_of (onlyBye_any _)))
  go_big_quiet_step (first | (go_at_call 11; exact bel_of (rsame_bye _)))
  go_big_quiet_step (fail)
  go_big_quiet_step (fail)
  go_big_quiet_step (fail)
  go_big_quiet_step (fail)
  go_big_quiet_step (fail)
  go_big_quiet_step (fail)
  go_big_quiet_step (fail)
  go_big_quiet_step (fail)
  go_big_quiet_step (fail)
  refine wpQuiet_nil ?_
  rintro w2 ⟨⟨w2', hb2⟩, hw2⟩
  obtain rfl : w2 = w2' := hw2
  have HN2 := hid ((hb2.block _ HL.out).trans HNB.out)
  have HB2 := hid (below_then HBL.out hb2)
  clear hb2 z0 z7 ib HRA HNB HBL HL
  have x0 : w2.cell? ⟨w.heap.size, 0, none⟩ = some (.int .i64 5) := (Fb.of HN2.out rfl).k
  have l1 : w2.cell? ⟨w.heap.size, 37, none⟩ = some (.int .i64 0) := (Fb.of HN2.out rfl).l1
  have l2 : w2.cell? ⟨w.heap.size, 38, none⟩ = some (.int .i64 0) := (Fb.of HN2.out rfl).l2
  have l3 : w2.cell? ⟨w.heap.size, 39, none⟩ = some (.int .i64 0) := (Fb.of HN2.out rfl).l3
  have x7 : w2.cell? ⟨w.heap.size, 40, none⟩ = some (.slice none 0 0) := (Fb.of HN2.out rfl).a
  have x8 : w2.cell? ⟨w.heap.size, 41, none⟩ = some (.string ⟨#[]⟩) := (Fb.of HN2.out rfl).bd
  go_wp2_with fail
  go_loopw [3, 4] (fun b i wr => b = .bool false ∧ i = .int .i64 0 ∧ wr = w2) (fun _ _ _ => 0)
  case atStart => exact ⟨rfl, rfl, rfl⟩
  case round =>
    obtain ⟨rfl, rfl, rfl⟩ := hrel
    have HRG := hid (range_row HN2.out)
    go_wp2_with (refine ld_gd (by rfl) 30 (.tmp 1) (by rfl) w.heap.size 0 (by rfl) _ _ HRG.out Tryz.underlying30 rfl HSZ.out ?_)
    refine (bodyBye_any wr).mono ?_
    rintro e w3 ⟨ao, c, rfl, hs3, hb3⟩
    have HB3 := hid (below_then HB2.out hb3)
    clear hs3 hb3 x0 l1 l2 l3 x7 x8 HN2 HB2
    go_wp2
    go_ret
    exact ⟨rfl, HB3.out⟩

set_option maxRecDepth 100000 in
set_option maxHeartbeats 4000000 in
theorem rencodeBye_any (w : World) :
    Calls Tryz.prog 28 #[.agg (fcells byeF nS).toArray] w fun e w' => ∃ v, e = .returned (.tuple #[v, .int .i64 0]) ∧ OwnB w' w.heap.size v (sealP [1, 5]) ∧ Below w.heap.size w w' := by
  have HNB := hid (hp_new w (.cells (fcells byeF nS).toArray 30))
  have HBL := hid (below_walk w (.cells (fcells byeF nS).toArray 30))
  have HSZ := hid (frame_size byeF nS rfl)
  go_enter Tryz.func28, Tryz.ntmps28
  go_upto_region 1 with fail
  generalize w.alloc (.cells (fcells byeF nS).toArray 30) = w1 at HNB HBL ⊢
  go_wp2_with (refine ld_row (by rfl) 30 (.tmp 1) (by rfl) w.heap.size (by rfl) (fcells byeF nS) 30 HNB.out _ Tryz.underlying30 rfl HSZ.out ?_)
  refine (checkBye_any w1).mono ?_
  rintro e w2 ⟨rfl, hb2⟩
  have HN2 := hid ((hb2.block _ (hp_lt HNB.out)).trans HNB.out)
  have HB2 := hid (below_then HBL.out hb2)
  clear hb2 HNB HBL
  go_wp2_with (refine ld_row (by rfl) 30 (.tmp 1) (by rfl) w.heap.size (by rfl) (fcells byeF nS) 30 HN2.out _ Tryz.underlying30 rfl HSZ.out ?_)
  refine (bodyBye_any w2).mono ?_
  rintro e w3 ⟨ao, c, rfl, hs3, hb3⟩
  have HS3 := hid hs3
  have HB3 := hid (below_then HB2.out hb3)
  have hw1 : IntKind.u64.wrap 1 = 1 := rfl
  clear hs3 hb3 HN2 HB2
  go_wp2_with fail
  refine (ruint_one w3).mono ?_
  rintro e w4 ⟨a4, c4, rfl, ho4, hb4⟩
  have HO4 := hid ho4
  have HS4 := hid (HS3.out.below hb4)
  have HB4 := hid (below_then HB3.out hb4)
  have HZ4 := hid hb4.size
  clear ho4 hb4 HS3
  go_wp2_with (at_builtin; refine app_src rfl _ _ rfl w3.heap.size _ [1] rfl HO4.out _ [5] rfl HS4.out (by simp) HZ4.out ?_)
  intro v5 w5 ho5 hg5
  have hs5 : Src w5 v5 [1, 5] := ho5.src (by simp)
  have HB5 := hid (show Below w.heap.size w w5 from below_tr HB4.out ⟨hg5.os, hg5.tape, hg5.output, hg5.size, fun k hk => hg5.block k (by have := HB3.out.size; have := HZ4.out; omega) (fun e => by have := (HO4.out.lt k e.symm).1; have := HB3.out.size; omega)⟩)
  have HSE := hid (rseal_any w5 v5 [1, 5] hs5 (by simp))
  obtain ⟨a5, c5, e5⟩ := src_shape hs5
  subst e5
  clear ho5 hg5 hs5 HB4 HB3 HZ4 HO4 HS4
  go_wp2_with fail
  refine HSE.out.mono ?_
  rintro e w6 ⟨v6, rfl, ho6, hb6⟩
  have HO6 := hid (ho6.le HB5.out.size)
  have HB7 := hid (below_then HB5.out hb6)
  obtain ⟨a6, c6, e6⟩ := src_shape (ho6.src (by rw [sealP_length]; simp))
  subst e6
  clear ho6 hb6
  go_wp2
  go_ret2
  exact ⟨_, rfl, HO6.out, HB7.out⟩

end Go.Proofs.YtiibhccbbpgehaaGreat

/- The law's alive answers true. -/
namespace Go.Proofs.YtiibhccbbpgehaaGreat
open Go.RowKit Go.BigFrame

set_option maxRecDepth 100000 in
set_option maxHeartbeats 4000000 in
theorem alive_any (w : World) :
    Calls Tryz.prog 12 #[] w fun e w' => e = .returned (.bool true) ∧ Below w.heap.size w w' := by
  have hl6 : (sealP [1, 5]).length = 6 := rfl
  go_enter Tryz.func12, Tryz.ntmps12
  go_wp2_with fail
  refine (bye_any w).mono ?_
  rintro e w1 ⟨rfl, hb1⟩
  have HB1 := hid hb1
  clear hb1
  go_wp2_with fail
  refine (encodeBye_any w1).mono ?_
  rintro e w2 ⟨v2, rfl, ho2, hb2⟩
  have HS2 := hid (ho2.src (by rw [sealP_length]; simp))
  have HB2 := hid (below_then HB1.out hb2)
  obtain ⟨a2, c2, e2⟩ := src_shape HS2.out
  rw [hl6] at e2
  subst e2
  clear ho2 hb2 HB1
  go_wp2_with (refine bd_row (by rfl) 30 #[(0, .const (.int .i64 5))] (by rfl) _ (by simp [Act.eval]) _ built_bye ?_)
  refine (rencodeBye_any w2).mono ?_
  rintro e w3 ⟨v3, rfl, ho3, hb3⟩
  have HS3 := hid (ho3.src (by rw [sealP_length]; simp))
  have HS2b := hid (HS2.out.below hb3)
  have HB3 := hid (below_then HB2.out hb3)
  obtain ⟨a3, c3, e3⟩ := src_shape HS3.out
  rw [hl6] at e3
  subst e3
  clear ho3 hb3 HB2 HS2
  go_wp2_with fail
  refine (equal_true _ _ _ w3 HS2b.out HS3.out).mono ?_
  rintro e w4 ⟨rfl, hw4⟩
  subst hw4
  go_wp2
  go_ret
  exact ⟨rfl, HB3.out⟩

end Go.Proofs.YtiibhccbbpgehaaGreat

/- FrameReads answers true. -/
namespace Go.Proofs.YtiibhccbbpgehaaGreat
open Go.RowKit Go.BigFrame

set_option maxRecDepth 100000 in
set_option maxHeartbeats 4000000 in
theorem lawReads7_any (v : Value) (bs : List UInt8) (w : World) (hs : Src w v bs) :
    Calls Tryz.prog 3 #[v] w fun e w' => e = .returned (.bool true) ∧ Below w.heap.size w w' := by
  obtain ⟨av, cv, rfl⟩ := src_shape hs
  have HDE := hid (decode_any _ bs w hs)
  have HRD := hid (fun W (hW : Src W (.slice av bs.length cv) bs) => rdecode_any _ bs W hW)
  have HS := hid hs
  have hsl := hs.1
  obtain ⟨f, HF⟩ : ∃ f, Hid ((decP bs).1 = f) := ⟨_, rfl⟩
  obtain ⟨E1, HE1⟩ : ∃ f, Hid ((decP bs).2.1 = f) := ⟨_, rfl⟩
  obtain ⟨E2, HE2⟩ : ∃ f, Hid ((decP bs).2.2 = f) := ⟨_, rfl⟩
  rw [HF.out, HE1.out, HE2.out] at HDE HRD
  obtain ⟨L, HL⟩ : ∃ n, Hid (bs.length = n) := ⟨_, rfl⟩
  rw [HL.out] at HDE HRD HS
  have q1 : (E1 == E1) = true := by simp
  have q2 : (E2 == E2) = true := by simp
  clear hs
  go_enter Tryz.func3, Tryz.ntmps3
  rw [HL.out]
  go_wp2_with fail
  refine HDE.out.mono ?_
  rintro e w1 ⟨va, rfl, hoa, hb1⟩
  have HRN := hid (show Rng f by rw [← HF.out]; exact dec_rng bs hsl (by rw [HF.out]; exact wowns_len hoa))
  have HST := hid (wowns_strs hoa)
  have HS1 := hid (HS.out.below hb1)
  have HB1 := hid hb1
  obtain ⟨aV, cV, eV⟩ := wowns_shape hoa
  have HSZ := hid (frame_size f va HRN.out.tool)
  have HON := hid (fcells_one f va (by rw [eV]; rfl))
  have HOS := hid (show (fcells zF nS).toArray.size = (fcells f va).length by rw [fcells_length _ _ HRN.out.tool]; rfl)
  have HSM := hid (fun vb W (hW : Strs W va f.args) (h2 : Strs W vb f.args) => rsame_any f f va vb W HRN.out.tool HRN.out.tool hW h2 HRN.out.many)
  rw [sameP_self] at HSM
  obtain ⟨FF, HFF⟩ : ∃ L, Hid (fcells f va = L) := ⟨_, rfl⟩
  rw [HFF.out] at HSZ HON HOS HSM ⊢
  clear hoa hb1 HDE HS eV
  go_upto_region 2 with (first
    | (refine al_row (by rfl) 30 (by rfl) _ zeroFrame ?_)
    | (refine st_row (by rfl) 30 _ _ (by rfl) w1.heap.size FF (by rfl) (by rfl) 30 _ (hp_two w1 _ _).1 HSZ.out HOS.out HON.out ?_; intro w2 hw2)
    | (refine st_row (by rfl) 33 _ _ (by rfl) (w1.heap.size + 1) [Value.int .i64 E1, .int .i64 E2] (by rfl) (by rfl) 33 _ (gb_keep hw2.grown (hp_two w1 _ _).2 (by omega)) faultSize rfl (fault_one _ _) ?_; intro w3 hw3))
  have HA := hid (gb_keep hw3.grown hw2.blk (by omega))
  have HT := hid hw3.blk
  have HQ3 := hid (Below.of_gb (Below.of_gb (below_walk2 w1 (.cells (fcells zF nS).toArray 30) (.cells #[.int .i64 0, .int .i64 0] 33)) hw2.grown (Nat.le_refl _)) hw3.grown (by omega))
  have HB3 := hid (below_then HB1.out HQ3.out)
  have HST3 := hid (HST.out.below HQ3.out)
  have HS3 := hid (HS1.out.below HQ3.out)
  obtain ⟨A, HAe⟩ : ∃ n, Hid (w1.heap.size = n) := ⟨_, rfl⟩
  rw [HAe.out] at HA HT ⊢
  clear hw2 hw3 HST HS1 HB1 HQ3
  go_wp2_with fail
  refine (HRD.out w3 HS3.out).mono ?_
  rintro e w4 ⟨vb, rfl, hob, hb4⟩
  have HSTb := hid (wowns_strs hob)
  have HST4 := hid (HST3.out.below hb4)
  have HA4 := hid (bel_keep hb4 HA.out)
  have HT4 := hid (bel_keep hb4 HT.out)
  have HB4 := hid (below_then HB3.out hb4)
  obtain ⟨aW, cW, eW⟩ := wowns_shape hob
  have HSZb := hid (frame_size f vb HRN.out.tool)
  have HONb := hid (fcells_one f vb (by rw [eW]; rfl))
  have HOSb := hid (show (fcells zF nS).toArray.size = (fcells f vb).length by rw [fcells_length _ _ HRN.out.tool]; rfl)
  have HSM2 := hid (HSM.out vb)
  obtain ⟨GG, HGG⟩ : ∃ L, Hid (fcells f vb = L) := ⟨_, rfl⟩
  rw [HGG.out] at HSZb HONb HOSb HSM2 ⊢
  clear hob hb4 HST3 HS3 HA HT HB3 eW HSM
  go_upto_region 3 with (first
    | (refine al_row (by rfl) 30 (by rfl) _ zeroFrame ?_)
    | (refine st_new (by rfl) 30 _ _ (by rfl) GG (by rfl) (by rfl) 30 _ HSZb.out HOSb.out HONb.out ?_))
  have HW4 := hid (below_walk w4 (.cells GG.toArray 30))
  have HST5 := hid (HST4.out.below HW4.out)
  have HSTc := hid (HSTb.out.below HW4.out)
  have HA5 := hid (bel_keep HW4.out HA4.out)
  have HT5 := hid (bel_keep HW4.out HT4.out)
  have HB5 := hid (below_then HB4.out HW4.out)
  have HG5 := hid (hp_new w4 (.cells GG.toArray 30))
  obtain ⟨B, HBe⟩ : ∃ n, Hid (w4.heap.size = n) := ⟨_, rfl⟩
  rw [HBe.out] at HG5 ⊢
  generalize w4.alloc (.cells GG.toArray 30) = w5 at HW4 HST5 HSTc HA5 HT5 HB5 HG5 ⊢
  clear HST4 HSTb HA4 HT4 HB4 HW4
  go_wp2_with (first
    | (refine ld_row (by rfl) 30 (.tmp 3) (by rfl) A (by rfl) FF 30 HA5.out _ Tryz.underlying30 rfl HSZ.out ?_)
    | (refine ld_row (by rfl) 30 (.tmp 5) (by rfl) B (by rfl) GG 30 HG5.out _ Tryz.underlying30 rfl HSZb.out ?_))
  refine (HSM2.out w5 HST5.out HSTc.out).mono ?_
  rintro e w6 ⟨rfl, hb6⟩
  have HT6 := hid (bel_keep hb6 HT5.out)
  have HB6 := hid (below_then HB5.out hb6)
  clear hb6 HT5 HB5 HA5 HG5
  have t0 : w6.cell? ⟨A + 1, 0, none⟩ = some (.int .i64 E1) := by simp [World.cell?, HT6.out]
  have t1 : w6.cell? ⟨A + 1, 1, none⟩ = some (.int .i64 E2) := by simp [World.cell?, HT6.out]
  go_wp2_with fail
  refine (alive_any w6).mono ?_
  rintro e w7 ⟨rfl, hb7⟩
  have HB7 := hid (below_then HB6.out hb7)
  clear hb7 HB6
  go_wp2
  go_ret
  exact ⟨rfl, HB7.out⟩
end Go.Proofs.YtiibhccbbpgehaaGreat
