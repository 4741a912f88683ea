/- Contracts and pure facts that the proof needs, joined. -/
import Derived.Test.YtgldmepmeampeabG2

/- TreeShuffles answers true. -/
namespace Go.Proofs.Ytgldmepmeampeab
open Go.RowKit Go.BigFrame

theorem sz_mem : ∀ {t : List Ent} {e : Ent}, e ∈ t → e.2.2.length ≤ szP t
  | x :: t, e, h => by
    have hc : szP (x :: t) = x.2.2.length + szP t := by simp [szP]
    rw [hc]
    rcases List.mem_cons.1 h with rfl | h
    · omega
    · have := sz_mem h; omega
theorem rgt_tre {t : List Ent} (h : Rgt t) : Tre t :=
  ⟨by have := h.many; omega, fun e he => by have h1 := okP_short (mayP_ok (h.may e he)); have h2 := sz_mem he; have h3 := h.big; unfold Shr; omega, by have := h.big; omega⟩
theorem chkP_nz {t : List Ent} (h : (chkP t).2 = 0) : (chkP t).1 = 0 := by
  have h1 := chkP_iff.1 h
  rw [chkP_ok h1.1 h1.2]

theorem one_ent3 (e : Ent) : #[Value.string (mk e.1), .int .i64 e.2.1, .string (mk e.2.2)].all (·.oneCell') = true :=
  all_oneCell_toArray (cs := entV e) (fun u hu => entsV_one [e] u (by simpa [entsV] using hu))
theorem info_ent3 (e : Ent) : (Try.prog.info? 35).map (·.size) = some #[Value.string (mk e.1), .int .i64 e.2.1, .string (mk e.2.2)].size := by
  have h := Try.infoEnt
  rw [Option.map_eq_some_iff] at h ⊢
  obtain ⟨i, h1, h2⟩ := h
  simp only [Prod.mk.injEq] at h2
  exact ⟨i, h1, h2.2.1⟩

set_option maxRecDepth 100000 in
set_option maxHeartbeats 4000000 in
theorem lawShuffles_any (v vo : Value) (t : List Ent) (ks : List Int) (w : World) (h : Ents w v t) (ho : Ints w vo ks) (hs : Short t) (hn : t.length ≤ 140737488355327) (hkl : ks.length ≤ 140737488355327) :
    Calls Try.prog 4 #[v, vo] w fun e w' => e = .returned (.bool true) ∧ Below w.heap.size w w' := by
  have H1 := hid (tcheck_any v t w h hs (by omega))
  have HAW := hid alive_any
  have H := hid h
  have HI := hid ho
  obtain ⟨ao, c, rfl⟩ := h.shape
  obtain ⟨bo, cb, rfl, hdrop⟩ := ho
  clear hdrop
  by_cases h0 : (chkP t).2 = 0
  · have HR := hid (rgt_iff.1 h0)
    have HTT := hid (rgt_tre HR.out)
    rw [chkP_nz h0, h0] at H1
    clear h hs h0
    have HLN := hid (show ([] : List Ent).length + t.length ≤ 3298534883328 by have := HTT.out.len; simp; omega)
    go_enter Try.func4, Try.ntmps4
    go_wp2_with fail
    refine H1.out.mono ?_
    rintro e w1 ⟨rfl, hb1⟩
    have HE1 := hid (H.out.below hb1)
    have HB1 := hid hb1
    have HI1 := hid (HI.out.below hb1)
    clear hb1 H1
    go_wp2_with (at_builtin; refine app_ent rfl _ _ rfl w1.heap.size _ [] rfl (OwnE.nil _ _) t _ rfl HE1.out HLN.out (Nat.le_refl _) ?_)
    intro v5 w5 ho5 hg5 _
    have HO5 := hid ho5.shf
    have HE5 := hid ho5.ents
    have HB5 := hid (gb_below hg5)
    obtain ⟨a5, c5, h5⟩ := ho5.ents.shape
    have HSH : Hid (t.length = 0 ∨ ∃ g, a5 = some ⟨g, 0, none⟩ ∧ w1.heap.size ≤ g ∧ t.length ≤ c5 ∧ Shf w5 g t) := by
      rcases ho5.shf with ⟨_, h⟩ | ⟨g, cap, hv, h1, h2, h3⟩
      · left; rw [h]; rfl
      · rw [h5] at hv
        injection hv with e1 _ e3
        subst e3
        exact Or.inr ⟨g, e1, h1, h2, h3⟩
    subst h5
    obtain ⟨T, HT⟩ : ∃ T : Nat, Hid (t.length = T) := ⟨_, rfl⟩
    have HBL := hid HTT.out.len
    rw [HT.out] at HE5 HE1 HSH HBL ⊢
    clear ho5 hg5 HO5 HLN
    go_wp2_with fail
    go_loopw [28] (fun i wr => ∃ k : Nat, i = .int .i64 k ∧ k ≤ ks.length ∧ ∃ l : List Ent, l.Perm t ∧ Ents wr (.slice a5 T c5) l ∧ (T = 0 ∨ ∃ g, a5 = some ⟨g, 0, none⟩ ∧ w1.heap.size ≤ g ∧ T ≤ c5 ∧ Shf wr g l) ∧ Below w1.heap.size w1 wr) (fun i _ => ks.length - (intOf i).toNat)
    case atStart => exact ⟨0, rfl, Nat.zero_le _, t, List.Perm.refl _, HE5.out, HSH.out, HB5.out⟩
    case round =>
      obtain ⟨k, rfl, hk, l, hp, hen, hsh, hbl⟩ := hrel
      have HP := hid hp
      have HEN := hid hen
      have HS := hid hsh
      have HB := hid hbl
      have HLT := hid (show l.length = T by rw [hp.length_eq, HT.out])
      clear hp hen hsh hbl HE5 HB5 HSH
      by_cases hlt : k < ks.length
      · have q2 : (k : Int) < (ks.length : Int) := by omega
        obtain ⟨bo', cb', e0, hcell⟩ := HI1.out.below HB.out
        obtain ⟨g1, o1, e1, hg1, c0⟩ := hcell k hlt
        injection e0 with e0 e0b e0c
        rw [← e0] at e1
        subst e1
        obtain ⟨K, HK⟩ : ∃ K : Int, Hid (ks.getD k 0 = K) := ⟨_, rfl⟩
        rw [HK.out] at c0
        clear hcell e0 e0b e0c hg1
        by_cases h1 : k < T
        · have q3 : (k : Int) < (T : Int) := by omega
          by_cases h2 : 0 ≤ K
          · by_cases h3 : K < (T : Int)
            · obtain ⟨m, rfl⟩ : ∃ m : Nat, K = (m : Int) := ⟨K.toNat, by omega⟩
              have hm : m < T := by omega
              obtain ⟨g, rfl, hgb, hcap, hshf⟩ := HS.out.resolve_left (by omega)
              have HSF := hid hshf
              obtain ⟨x0, x1, x2⟩ := hshf.ats k (by rw [HLT.out]; exact h1)
              obtain ⟨y0, y1, y2⟩ := hshf.ats m (by rw [HLT.out]; exact hm)
              obtain ⟨ek, HEK⟩ : ∃ e, Hid (l.getD k zE = e) := ⟨_, rfl⟩
              obtain ⟨em, HEM⟩ : ∃ e, Hid (l.getD m zE = e) := ⟨_, rfl⟩
              rw [HEK.out] at x0 x1 x2
              rw [HEM.out] at y0 y1 y2
              have HGL := hid hshf.lt
              have HK1 := hid (show k < l.length by rw [HLT.out]; exact h1)
              have HM1 := hid (show m < l.length by rw [HLT.out]; exact hm)
              have HPS := hid (show ((l.set k em).set m ek).Perm t from by
                have := swap_perm HK1.out HM1.out
                rw [HEK.out, HEM.out] at this
                exact this.trans HP.out)
              clear x0 x1 x2 y0 y1 y2 hshf HS HEN h2
              go_wp2_with fail
              obtain ⟨w3, HXE⟩ : ∃ X : World, Hid (X = { wr with drawn := wr.drawn + 1 }) := ⟨_, rfl⟩
              have hb3 : Below wr.heap.size wr w3 := by rw [HXE.out]; exact ⟨rfl, rfl, rfl, Nat.le_refl _, fun _ _ => rfl⟩
              refine wp_noPanic (wp_region_any (by kernel_rfl) ?_)
              rw [show ({ wr with drawn := wr.drawn + 1 } : World) = w3 from HXE.out.symm]
              have HS3 := hid (HSF.out.below hb3)
              have HB3 := hid (HB.out.trans (hb3.mono HB.out.size))
              have HR1 := hid (HS3.out.range k HK1.out ek HEK.out)
              have HR2 := hid (HS3.out.range m HM1.out em HEM.out)
              have hu := Try.underlying35
              have HSA := hid (fun e : Ent => info_ent3 e)
              have HOA := hid (fun e : Ent => one_ent3 e)
              refine any_yield 0 _ (.slice (some ⟨g, 0, none⟩) T c5) (by rfl) (by rfl) (by kernel_rfl) (by kernel_rfl) (by kernel_rfl) (fun _ => by rfl) ?_
              simp only [Act.put, List.getElem_toArray, List.getElem_cons_zero, List.setIfInBounds_toArray, List.set_cons_succ, List.set_cons_zero]
              refine any_yield 1 _ (.int .i64 k) (by rfl) (by rfl) (by kernel_rfl) (by kernel_rfl) (by kernel_rfl) (fun _ => by rfl) ?_
              simp only [Act.put, List.getElem_toArray, List.getElem_cons_zero, List.getElem_cons_succ, List.setIfInBounds_toArray, List.set_cons_succ, List.set_cons_zero]
              refine any_yield 2 _ (.slice (some ⟨g, 0, none⟩) T c5) (by rfl) (by rfl) (by kernel_rfl) (by kernel_rfl) (by kernel_rfl) (fun _ => by rfl) ?_
              simp only [Act.put, List.getElem_toArray, List.getElem_cons_zero, List.getElem_cons_succ, List.setIfInBounds_toArray, List.set_cons_succ, List.set_cons_zero]
              refine any_yield 3 _ (.int .i64 m) (by rfl) (by rfl) (by kernel_rfl) (by kernel_rfl) (by kernel_rfl) (fun _ => by rfl) ?_
              simp only [Act.put, List.getElem_toArray, List.getElem_cons_zero, List.getElem_cons_succ, List.setIfInBounds_toArray, List.set_cons_succ, List.set_cons_zero]
              refine any_yield 4 _ (.slice (some ⟨g, 0, none⟩) T c5) (by rfl) (by rfl) (by kernel_rfl) (by kernel_rfl) (by kernel_rfl) (fun _ => by rfl) ?_
              simp only [Act.put, List.getElem_toArray, List.getElem_cons_zero, List.getElem_cons_succ, List.setIfInBounds_toArray, List.set_cons_succ, List.set_cons_zero]
              refine any_yield 5 _ (.int .i64 m) (by rfl) (by rfl) (by kernel_rfl) (by kernel_rfl) (by kernel_rfl) (fun _ => by rfl) ?_
              simp only [Act.put, List.getElem_toArray, List.getElem_cons_zero, List.getElem_cons_succ, List.setIfInBounds_toArray, List.set_cons_succ, List.set_cons_zero]
              refine any_yield 6 _ (.pointer (some ⟨g, m * 3, none⟩)) (by rfl) (by rfl) (by kernel_rfl) (by kernel_rfl) (by kernel_rfl) (fun _ => by go_simp) ?_
              simp only [Act.put, List.getElem_toArray, List.getElem_cons_zero, List.getElem_cons_succ, List.setIfInBounds_toArray, List.set_cons_succ, List.set_cons_zero]
              refine any_yield 8 _ (.slice (some ⟨g, 0, none⟩) T c5) (by rfl) (by rfl) (by kernel_rfl) (by kernel_rfl) (by kernel_rfl) (fun _ => by rfl) ?_
              simp only [Act.put, List.getElem_toArray, List.getElem_cons_zero, List.getElem_cons_succ, List.setIfInBounds_toArray, List.set_cons_succ, List.set_cons_zero]
              refine any_yield 9 _ (.int .i64 k) (by rfl) (by rfl) (by kernel_rfl) (by kernel_rfl) (by kernel_rfl) (fun _ => by rfl) ?_
              simp only [Act.put, List.getElem_toArray, List.getElem_cons_zero, List.getElem_cons_succ, List.setIfInBounds_toArray, List.set_cons_succ, List.set_cons_zero]
              refine any_yield 10 _ (.pointer (some ⟨g, k * 3, none⟩)) (by rfl) (by rfl) (by kernel_rfl) (by kernel_rfl) (by kernel_rfl) (fun _ => by go_simp) ?_
              simp only [Act.put, List.getElem_toArray, List.getElem_cons_zero, List.getElem_cons_succ, List.setIfInBounds_toArray, List.set_cons_succ, List.set_cons_zero]
              refine any_two_loads 7 11 _ _ (by rfl) (by rfl) (by rfl) (by rfl) (by kernel_rfl) (by kernel_rfl) (by kernel_rfl) (by decide) 35 (.tmp 53) (by rfl) g (m * 3) (entV em) _ HR2.out hu rfl (HSA.out em) 35 (.tmp 57) (by rfl) g (k * 3) (entV ek) _ HR1.out hu rfl (HSA.out ek) (by kernel_rfl) (by kernel_rfl) (by kernel_rfl) (by kernel_rfl) (by kernel_rfl) ?_
              simp only [Act.put, List.getElem_toArray, List.getElem_cons_zero, List.getElem_cons_succ, List.setIfInBounds_toArray, List.set_cons_succ, List.set_cons_zero]
              refine any_tail 12 (by rfl) (by kernel_rfl) ?_
              clear hu
              simp only [List.drop_succ_cons, List.drop_zero, entV]
              have HT1 : Hid (w3.there g (k * 3) #[Value.string (mk em.1), .int .i64 em.2.1, .string (mk em.2.2)].size) := HS3.out.th k HK1.out
              have HT2 : Hid ((w3.setCells g (k * 3) #[Value.string (mk em.1), .int .i64 em.2.1, .string (mk em.2.2)].toList).there g (m * 3) #[Value.string (mk ek.1), .int .i64 ek.2.1, .string (mk ek.2.2)].size) := World.there_setCells (HS3.out.th m HM1.out) g (k * 3) (entV em)
              have HS4 := hid ((HS3.out.set HK1.out em).set (i := m) (by rw [List.length_set]; exact HM1.out) ek)
              have HB4 := hid (below_cells hgb (entV ek) (m * 3) _ (below_cells hgb (entV em) (k * 3) _ HB3.out))
              have HE4 := hid (HS4.out.ents c5 (by rw [List.length_set, List.length_set, HLT.out]; exact hcap))
              rw [List.length_set, List.length_set, HLT.out] at HE4
              clear hb3
              clear HSF
              go_wp2_with (first | (refine wpList_store_mid (by rfl) 35 (.tmp 59) (.tmp 54) (by rfl) g (k * 3) #[.string (mk em.1), .int .i64 em.2.1, .string (mk em.2.2)] (by rfl) (by rfl) HT1.out (HSA.out em) (HOA.out em) ?_; clear HT1) | (refine wpList_store_mid (by rfl) 35 (.tmp 60) (.tmp 58) (by rfl) g (m * 3) #[.string (mk ek.1), .int .i64 ek.2.1, .string (mk ek.2.2)] (by rfl) (by rfl) HT2.out (HSA.out ek) (HOA.out ek) ?_; clear HT2))
              simp only [noPanic]
              go_wp2
              exact ⟨⟨k + 1, by simp, by omega, _, HPS.out, HE4.out, Or.inr ⟨g, rfl, hgb, hcap, HS4.out⟩, HB4.out⟩, by simp [intOf]; omega⟩
            · have q5 : ¬ K < (T : Int) := h3
              clear h3
              go_wp2
              exact ⟨⟨k + 1, by simp, by omega, l, HP.out, HEN.out, HS.out, HB.out⟩, by simp [intOf]; omega⟩
          · have q4 : ¬ (0 : Int) ≤ K := h2
            clear h2
            go_wp2
            exact ⟨⟨k + 1, by simp, by omega, l, HP.out, HEN.out, HS.out, HB.out⟩, by simp [intOf]; omega⟩
        · have q3 : ¬ (k : Int) < (T : Int) := by omega
          clear h1
          go_wp2
          exact ⟨⟨k + 1, by simp, by omega, l, HP.out, HEN.out, HS.out, HB.out⟩, by simp [intOf]; omega⟩
      · have q2 : ¬ (k : Int) < (ks.length : Int) := by omega
        have HTR := hid (show Tre l from ⟨by rw [HLT.out]; have := HBL.out; omega, fun e he => HTT.out.shr e (HP.out.mem_iff.1 he), by rw [szP_perm HP.out]; exact HTT.out.sz⟩)
        have HMK := hid (make_any _ l wr HEN.out HTR.out)
        rw [mkP_right HR.out HP.out] at HMK
        go_wp2_with fail
        refine HMK.out.mono ?_
        rintro e w6 ⟨⟨v6, rfl, ho6⟩, hb6⟩
        have HB6 := hid (HB1.out.trans ((HB.out.trans (hb6.mono HB.out.size)).mono HB1.out.size))
        have HSM := hid (rsame_any _ _ t t w6 ho6.ents (HE1.out.below (HB.out.trans (hb6.mono HB.out.size))) (by rw [HT.out]; have := HBL.out; omega))
        rw [decide_eq_true rfl] at HSM
        obtain ⟨a6, c6, h6⟩ := ho6.ents.shape
        subst h6
        generalize t.length = T6 at HSM ⊢
        clear ho6 hb6 HMK HEN HS HB
        go_wp2_with (first | (go_at_call 11; refine HSM.out.mono ?_; rintro r w7 ⟨rfl, q7, rfl⟩) | (go_at_call 9; refine (HAW.out _).mono ?_; rintro r w8 ⟨rfl, hb8⟩))
        go_ret
        exact ⟨rfl, below_then (below_n HB6.out _) hb8⟩
  · obtain ⟨n, HN⟩ : ∃ n : Nat, Hid ((chkP t).1 = n) := ⟨_, rfl⟩
    obtain ⟨E, HE⟩ : ∃ E : Int, Hid ((chkP t).2 = E) := ⟨_, rfl⟩
    rw [HE.out] at h0
    rw [HN.out, HE.out] at H1
    have e1 : (E == 0) = false := by simpa using h0
    clear h hs
    by_cases hn0 : n = 0
    · subst hn0
      go_enter Try.func4, Try.ntmps4
      go_wp2_with (first | (go_at_call 7; refine H1.out.mono ?_; rintro r w1 ⟨rfl, hb1⟩) | (go_at_call 9; refine (HAW.out _).mono ?_; rintro r w8 ⟨rfl, hb8⟩))
      go_ret
      exact ⟨rfl, below_then hb1 hb8⟩
    · have e2 : ((n : Int) == 0) = false := by simp; omega
      have e3 : ¬ (n : Int) = 0 := by omega
      go_enter Try.func4, Try.ntmps4
      go_wp2_with (first | (go_at_call 7; refine H1.out.mono ?_; rintro r w1 ⟨rfl, hb1⟩) | (go_at_call 9; refine (HAW.out _).mono ?_; rintro r w8 ⟨rfl, hb8⟩))
      go_ret
      exact ⟨rfl, below_then hb1 hb8⟩

end Go.Proofs.Ytgldmepmeampeab
