/- PathCommons: paths begin with what they should in common. -/
import Derived.Test.YtoehopigjmmagaaDoorPSl
import Derived.Test.YtoehopigjmmagaaDoorPPieces
namespace Go.Proofs.YtoehopigjmmagaaDoor
open Go.RowKit

/-- names that all of them begin with -/
def comF : List (List UInt8) → List (List UInt8) → List (List UInt8)
  | l, [] => l
  | l, p :: r => comF (l.take (comL l (nms p))) r
def commP (ts : List (List UInt8)) : Except Int (List UInt8) :=
  if ts.all okP = true then .ok (txt (comF (nms (ts.headD [])) (ts.drop 1))) else .error 45
theorem comF_sub : ∀ {r l : List (List UInt8)}, pathL l → pathL (comF l r)
  | [], _, h => h
  | _ :: r, l, h => comF_sub (r := r) ⟨fun q hq => h.1 q (List.mem_of_mem_take hq), by have := h.2; rw [List.length_take]; omega⟩
theorem comL_self : ∀ (x : List (List UInt8)), comL x x = x.length
  | [] => rfl
  | x :: a => by simp [comL, comL_self a]
theorem all_at {ts : List (List UInt8)} (h : ts.all okP = true) (k : Nat) (hk : k < ts.length) : okP (ts.getD k []) = true := by
  rw [List.getD_eq_getElem?_getD, List.getElem?_eq_getElem hk]
  exact List.all_eq_true.1 h _ (List.getElem_mem hk)

set_option maxRecDepth 100000 in
set_option maxHeartbeats 1000000 in
theorem common_any (v : Value) (ts : List (List UInt8)) (w : World) (h : Strs w v ts) (hb : ∀ t ∈ ts, t.length ≤ 1048576) (hn : ts.length ≤ 1048576) :
    Calls Tryd.prog 34 #[v] w fun e w' => e = .returned (.tuple #[.string (mk (aS (commP ts))), .int .i64 (aN (commP ts))]) ∧ Below w.heap.size w w' := by
  have HC := hid (checkAll_any v ts w h (fun t ht => by have := hb t ht; omega) (by omega))
  have HS := hid h
  obtain ⟨ao, c, rfl⟩ := h.shape
  clear h hb
  cases hall : ts.all okP with
  | false =>
    have hca : caN ts = 45 := by unfold caN; rw [hall]; rfl
    rw [hca] at HC
    have HR := hid (show commP ts = .error 45 by unfold commP; rw [hall]; rfl)
    clear hall hca
    go_enter Tryd.func34, Tryd.ntmps34
    go_wp2_with (go_at_call 45; refine HC.out.mono ?_; rintro e w' ⟨rfl, n, rfl⟩)
    go_ret2
    exact ⟨ret_si (by rw [HR.out]; rfl) (by rw [HR.out]; rfl), ⟨rfl, rfl, rfl, Nat.le_refl _, fun _ _ => rfl⟩⟩
  | true =>
    have hca : caN ts = 0 := by unfold caN; rw [hall]; rfl
    rw [hca] at HC
    have HALL := hid hall
    have HR := hid (show commP ts = .ok (txt (comF (nms (ts.headD [])) (ts.drop 1))) by unfold commP; rw [hall, if_pos rfl])
    clear hall hca
    by_cases h0 : ts = []
    · subst h0
      go_enter Tryd.func34, Tryd.ntmps34
      go_wp2_with (go_at_call 45; refine HC.out.mono ?_; rintro e w' ⟨rfl, n, rfl⟩)
      go_ret2
      exact ⟨ret_si (by rw [HR.out]; rfl) (by rw [HR.out]; rfl), ⟨rfl, rfl, rfl, Nat.le_refl _, fun _ _ => rfl⟩⟩
    · have hpos : 0 < ts.length := List.length_pos_iff.2 h0
      have q0 : ¬ (ts.length : Int) = 0 := by omega
      have q0' : ((ts.length : Int) == 0) = false := by simp; exact h0
      have q0p : (0 : Int) < (ts.length : Int) := by omega
      obtain ⟨g, o, rfl, hc0⟩ := HS.out.at 0 hpos
      rw [Nat.add_zero] at hc0
      have ok0 := all_at HALL.out 0 hpos
      have sh0 := okP_short ok0
      have eh : ts.headD [] = ts.getD 0 [] := by cases ts <;> rfl
      have HNO := hid (namesOf_any (mk (ts.getD 0 [])) · (by rw [mk_size]; omega))
      rw [bl_mk] at HNO
      have HPL := hid ((okP_iff _).1 ok0)
      obtain ⟨vx, hvx, hsl⟩ := cut_from HS.out 1 (by omega)
      have hsl' : ∀ W, (Instr.slice 22 (.slice (some ⟨g, o, none⟩) ts.length c) (some (.int .i64 1)) none none).run Tryd.prog W = .ok vx W := hsl
      have HVX := hid hvx
      obtain ⟨a2, c2, rfl⟩ := hvx.shape
      have hdl : (ts.drop 1).length = ts.length - 1 := by simp
      rw [eh] at HR
      generalize mk (ts.getD 0 []) = s0 at *
      generalize ts.getD 0 [] = p0 at *
      have HOKD := hid (fun k (hk : k < (ts.drop 1).length) => (by
        have := all_at HALL.out (k + 1) (by omega)
        rw [List.getD_eq_getElem?_getD, List.getElem?_drop, Nat.add_comm 1 k, ← List.getD_eq_getElem?_getD]
        exact this : okP ((ts.drop 1).getD k []) = true))
      generalize ts.drop 1 = R at *
      clear h0 hsl hvx ok0 sh0 eh
      go_enter Tryd.func34, Tryd.ntmps34
      go_wp2_with (first | (go_at_call 45; refine HC.out.mono ?_; rintro e w' ⟨rfl, n, rfl⟩) | fail)
      refine (HNO.out (w.drewN n)).mono ?_
      rintro e w1 ⟨v1, rfl, ho1, hb1⟩
      have HO1 := hid ho1.strs
      have HB1 := hid (below_d hb1)
      obtain ⟨a1, c1, rfl⟩ := ho1.strs.shape
      clear ho1 hb1 HC HNO
      go_wp2
      go_loopw [5, 25] (fun x i wr => ∃ (k : Nat) (m : List (List UInt8)), k ≤ R.length ∧ i = .int .i64 k ∧ Strs wr x m ∧ Below w.heap.size w wr ∧ Hid (comF m (R.drop k) = comF (nms p0) R ∧ pathL m)) (fun _ i _ => R.length - (intOf i).toNat)
      case atStart => exact ⟨0, _, by omega, rfl, HO1.out, HB1.out, by rw [List.drop_zero]; exact ⟨rfl, HPL.out⟩⟩
      case round =>
        obtain ⟨k, m, hk, rfl, hx, hbr, HW⟩ := hrel
        have HX := hid hx
        have HBR := hid hbr
        have hle := hbr.size
        have hml := HW.out.2.2
        have HVR := hid (HVX.out.below hbr)
        obtain ⟨ax, cx, rfl⟩ := hx.shape
        clear hx hbr HO1 HB1
        by_cases hlt : k < R.length
        · have q1 : (k : Int) < (R.length : Int) := by omega
          obtain ⟨g3, o3, rfl, hc⟩ := HVR.out.at k hlt
          have HD := hid (drop_cons hlt)
          have okk := HOKD.out k hlt
          obtain ⟨pc, HPK⟩ : ∃ pc, Hid (R.getD k [] = pc) := ⟨_, rfl⟩
          rw [HPK.out] at hc HD okk
          have shk := okP_short okk
          have HN2 := hid (namesOf_any (mk pc) wr (by rw [mk_size]; omega))
          rw [bl_mk] at HN2
          have hpl := ((okP_iff _).1 okk).2
          clear okk shk
          go_wp2_with fail
          refine HN2.out.mono ?_
          rintro e w2 ⟨v2, rfl, ho2, hb2⟩
          have HSH := hid (shared_any _ v2 m (nms pc) w2 (HX.out.below hb2) ho2.strs (by omega) (by omega))
          have HX2 := hid (HX.out.below hb2)
          have HB2 := hid (below_tr HBR.out (below_le hb2 hle))
          obtain ⟨hc1, _, _⟩ := comL_le m (nms pc)
          obtain ⟨vz, hvz, hsz⟩ := cut_to HX2.out (comL m (nms pc)) hc1
          have HVZ := hid hvz
          have HW2 : Hid (comF (m.take (comL m (nms pc))) (R.drop (k + 1)) = comF (nms p0) R ∧ pathL (m.take (comL m (nms pc)))) :=
            ⟨by rw [← HW.out.1, HD.out]; rfl, ⟨fun q hq => HW.out.2.1 q (List.mem_of_mem_take hq), by rw [List.length_take]; omega⟩⟩
          obtain ⟨az, cz, hzz⟩ := hvz.shape
          subst hzz
          obtain ⟨ay, cy, rfl⟩ := ho2.strs.shape
          generalize comL m (nms pc) = cc at *
          have hlc : (m.take cc).length = cc := by rw [List.length_take]; omega
          rw [hlc] at HVZ hsz
          clear hvz ho2 hb2 hc1 hlc
          go_wp2_with (go_at_call 49; refine HSH.out.mono ?_; rintro e w' ⟨rfl, n2, rfl⟩)
          refine ⟨⟨k + 1, m.take cc, by omega, by simp, HVZ.out, ⟨HB2.out.os, HB2.out.tape, HB2.out.output, HB2.out.size, HB2.out.block⟩, HW2⟩, by simp [intOf]; omega⟩
        · have q1 : ¬ (k : Int) < (R.length : Int) := by omega
          obtain rfl : k = R.length := by omega
          have HE := hid (show comF (nms p0) R = m by have := HW.out.1; rw [List.drop_length] at this; exact this.symm)
          have HPO := hid (pathOf_any _ m wr HX.out HW.out.2.1 (by omega))
          have he : endP m = .ok (txt m) := by unfold endP; rw [if_neg (by omega)]
          rw [he] at HPO
          go_wp2_with (go_at_call 40; refine HPO.out.mono ?_; rintro e w2 ⟨rfl, hb2⟩)
          go_ret2
          exact ⟨ret_si (by rw [HR.out, HE.out]) (by rw [HR.out]; rfl), below_tr HBR.out (below_le hb2 hle)⟩

theorem commP_bad {ts : List (List UInt8)} {k : Nat} (hk : k < ts.length) (hn : okP (ts.getD k []) = false) : commP ts = .error 45 := by
  have := caN_bad hk hn
  unfold caN at this
  unfold commP
  split at this
  · cases this
  · rename_i h; rw [if_neg h]
theorem commP_ok {ts : List (List UInt8)} (h : okTo ts ts.length) : commP ts = .ok (txt (comF (nms (ts.headD [])) (ts.drop 1))) := by
  have := okTo_all h
  unfold caN at this
  unfold commP
  split at this
  · rename_i h; rw [if_pos h]
  · cases this

/-- how the document's Common stands -/
def Rst (ts : List (List UInt8)) (k : Nat) (m : List (List UInt8)) : Prop :=
  okTo ts k ∧ pathL m ∧ (k = 0 ∧ m = [] ∨ 0 < k ∧ comF m (ts.drop k) = comF (nms (ts.headD [])) (ts.drop 1))
theorem Rst.first {ts : List (List UInt8)} (hk : 0 < ts.length) (ok : okP (ts.getD 0 []) = true) : Rst ts 1 ((nms (ts.getD 0 [])).take (comL (nms (ts.getD 0 [])) (nms (ts.getD 0 [])))) := by
  refine ⟨fun j hj => by obtain rfl : j = 0 := by omega
                         exact ok, ?_, Or.inr ⟨by omega, ?_⟩⟩
  · rw [comL_self, List.take_length]; exact (okP_iff _).1 ok
  · rw [comL_self, List.take_length]
    congr 1
    cases ts <;> rfl
theorem Rst.next {ts m : List (List UInt8)} {k : Nat} (h : Rst ts k m) (h0 : 0 < k) (hk : k < ts.length) (ok : okP (ts.getD k []) = true) : Rst ts (k + 1) (m.take (comL m (nms (ts.getD k [])))) := by
  obtain ⟨h1, h2, ⟨h3, _⟩ | ⟨_, h3⟩⟩ := h
  · omega
  · refine ⟨okTo_next h1 ok, ⟨fun q hq => h2.1 q (List.mem_of_mem_take hq), by have := h2.2; rw [List.length_take]; omega⟩, Or.inr ⟨by omega, ?_⟩⟩
    rw [← h3, drop_cons hk]
    rfl

set_option maxRecDepth 100000 in
set_option maxHeartbeats 2000000 in
theorem rcommons_any (v : Value) (ts : List (List UInt8)) (w : World) (h : Strs w v ts) (hb : ∀ t ∈ ts, t.length ≤ 1048576) (hn : ts.length ≤ 1048576) :
    Calls Tryd.prog 35 #[v] w fun e w' => e = .returned (.tuple #[.string (mk (aS (commP ts))), .int .i64 (aN (commP ts))]) ∧ Below w.heap.size w w' := by
  have HS := hid h
  have HBT := hid hb
  obtain ⟨ao, c, rfl⟩ := h.shape
  clear h hb
  go_enter Tryd.func35, Tryd.ntmps35
  go_wp2
  go_loopw [4, 5] (fun x i wr => ∃ (k : Nat) (m : List (List UInt8)), k ≤ ts.length ∧ i = .int .i64 k ∧ Strs wr x m ∧ Below w.heap.size w wr ∧ Rst ts k m) (fun _ i _ => ts.length - (intOf i).toNat)
  case atStart => exact ⟨0, [], by omega, rfl, Or.inl ⟨_, _, rfl, rfl, fun _ => rfl⟩, Below.refl _ _, fun j hj => by omega, ⟨fun p hp => (by cases hp), by simp⟩, Or.inl ⟨rfl, rfl⟩⟩
  case round =>
    obtain ⟨k, m, hk, rfl, hx, hbr, hst⟩ := hrel
    have HX := hid hx
    have HBR := hid hbr
    have HST := hid hst
    have hle := hbr.size
    have hml := hst.2.1.2
    have HVR := hid (HS.out.below hbr)
    obtain ⟨ax, cx, rfl⟩ := hx.shape
    clear hx hbr hst
    by_cases hlt : k < ts.length
    · have q1 : (k : Int) < (ts.length : Int) := by omega
      obtain ⟨g, o, rfl, hc⟩ := HVR.out.at k hlt
      have hbk : (ts.getD k []).length ≤ 1048576 := HBT.out _ (by rw [List.getD_eq_getElem?_getD, List.getElem?_eq_getElem hlt]; exact List.getElem_mem hlt)
      have HN := hid (rnames_any (mk (ts.getD k [])) wr (by rw [bl_mk]; omega))
      rw [bl_mk] at HN
      have HF : Hid (k = 0 → okP (ts.getD k []) = true → Rst ts (k + 1) ((nms (ts.getD k [])).take (comL (nms (ts.getD k [])) (nms (ts.getD k []))))) := fun h0 ok => by subst h0; exact Rst.first hlt ok
      have HNX := hid (fun h0 ok => HST.out.next h0 hlt ok)
      have HBD := hid (fun h => commP_bad hlt h)
      generalize mk (ts.getD k []) = s0 at *
      generalize ts.getD k [] = p0 at *
      go_wp2_with fail
      refine HN.out.mono ?_
      rintro e w2 ⟨⟨hok, v2, rfl, ho2⟩ | ⟨hok, rfl⟩, hb2⟩
      · have HB2 := hid (below_tr HBR.out (below_le hb2 hle))
        have HO2 := hid ho2.strs
        have HX2 := hid (HX.out.below hb2)
        have hpl := ((okP_iff _).1 hok).2
        have HOK := hid hok
        obtain ⟨a2, c2, rfl⟩ := ho2.strs.shape
        clear hok ho2 hb2 HN
        by_cases h0 : k = 0
        · have hz : ((k : Int) == 0) = true := by simp [h0]
          have hz' : (k : Int) = 0 := by omega
          have HSH := hid (rcommon_any _ _ (nms p0) (nms p0) w2 HO2.out HO2.out (by omega) (by omega))
          obtain ⟨hc1, _, _⟩ := comL_le (nms p0) (nms p0)
          obtain ⟨vz, hvz, hsz⟩ := cut_to HO2.out (comL (nms p0) (nms p0)) hc1
          have HVZ := hid hvz
          have HR := hid (HF.out h0 HOK.out)
          obtain ⟨az, cz, hzz⟩ := hvz.shape
          subst hzz
          generalize comL (nms p0) (nms p0) = cc at *
          have hlc : ((nms p0).take cc).length = cc := by rw [List.length_take]; omega
          rw [hlc] at HVZ hsz
          subst h0
          clear hvz hc1 hlc hz'
          go_wp2_with (go_at_call 47; refine HSH.out.mono ?_; rintro e w' ⟨rfl, n2, rfl⟩)
          refine ⟨⟨1, (nms p0).take cc, by omega, by simp, HVZ.out, ⟨HB2.out.os, HB2.out.tape, HB2.out.output, HB2.out.size, HB2.out.block⟩, HR.out⟩, by simp [intOf]; omega⟩
        · have hz : ((k : Int) == 0) = false := by simp; omega
          have hz' : ¬ (k : Int) = 0 := by omega
          have HSH := hid (rcommon_any _ _ m (nms p0) w2 HX2.out HO2.out (by omega) (by omega))
          obtain ⟨hc1, _, _⟩ := comL_le m (nms p0)
          obtain ⟨vz, hvz, hsz⟩ := cut_to HX2.out (comL m (nms p0)) hc1
          have HVZ := hid hvz
          have HR := hid (HNX.out (by omega) HOK.out)
          obtain ⟨az, cz, hzz⟩ := hvz.shape
          subst hzz
          generalize comL m (nms p0) = cc at *
          have hlc : (m.take cc).length = cc := by rw [List.length_take]; omega
          rw [hlc] at HVZ hsz
          clear hvz hc1 hlc
          go_wp2_with (go_at_call 47; refine HSH.out.mono ?_; rintro e w' ⟨rfl, n2, rfl⟩)
          refine ⟨⟨k + 1, m.take cc, by omega, by simp, HVZ.out, ⟨HB2.out.os, HB2.out.tape, HB2.out.output, HB2.out.size, HB2.out.block⟩, HR.out⟩, by simp [intOf]; omega⟩
      · have HR := hid (HBD.out hok)
        have HB2 := hid (below_tr HBR.out (below_le hb2 hle))
        clear hok hb2 HN
        go_wp2
        go_ret2
        exact ⟨ret_si (by rw [HR.out]; rfl) (by rw [HR.out]; rfl), HB2.out⟩
    · have q1 : ¬ (k : Int) < (ts.length : Int) := by omega
      obtain rfl : k = ts.length := by omega
      have HR := hid (show commP ts = .ok (txt m) by
        rw [commP_ok HST.out.1]
        rcases HST.out.2.2 with ⟨h0, h1⟩ | ⟨_, h1⟩
        · have : ts = [] := List.length_eq_zero_iff.1 h0
          subst this h1
          rfl
        · rw [List.drop_length] at h1
          rw [← h1]; rfl)
      have hb := lens_pcs m HST.out.2.1.1
      have HT := hid (rtext_any _ m wr HX.out (by omega) (by omega))
      clear hb
      go_wp2_with (go_at_call 41; refine HT.out.mono ?_; rintro e w2 ⟨rfl, hw⟩; subst w2)
      go_ret2
      exact ⟨ret_si (by rw [HR.out]; rfl) (by rw [HR.out]; rfl), HBR.out⟩

set_option maxRecDepth 100000 in
set_option maxHeartbeats 1000000 in
theorem lawCommons_any (v : Value) (ts : List (List UInt8)) (w : World) (h : Strs w v ts) (hb : ∀ t ∈ ts, t.length ≤ 1048576) (hn : ts.length ≤ 1048576) :
    Calls Tryd.prog 8 #[v] w fun e w' => e = .returned (.bool true) ∧ Below w.heap.size w w' := by
  obtain ⟨ao, c, rfl⟩ := h.shape
  have HS := hid h
  have HT := hid (twin_any _ ts w h (by omega))
  have HBT := hid hb
  clear h hb
  go_enter Tryd.func8, Tryd.ntmps8
  go_wp2_with fail
  refine HT.out.mono ?_
  rintro e w1 ⟨v1, rfl, ho1, hb1⟩
  obtain ⟨a1, c1, rfl⟩ := ho1.strs.shape
  have HO1 := hid ho1
  have HB1 := hid hb1
  clear ho1 hb1 HT
  go_wp2_with fail
  refine (common_any _ ts w1 HO1.out.strs HBT.out hn).mono ?_
  rintro e w2 ⟨rfl, hb2⟩
  have HB2 := hid (below_tr HB1.out (below_le hb2 HB1.out.size))
  have HO2 := hid (HO1.out.below hb2)
  clear hb2 HO1
  go_wp2_with fail
  refine (rcommons_any _ ts w2 (HS.out.below HB2.out) HBT.out hn).mono ?_
  rintro e w3 ⟨rfl, hb3⟩
  have HB3 := hid (below_tr HB2.out (below_le hb3 HB2.out.size))
  have HO3 := hid (HO2.out.below hb3)
  clear hb3 HO2 HB2
  generalize commP ts = R
  have HNU := hid (num_any (aN R))
  have HSA := hid (same_true _ _ ts w3 HO3.out.strs (HS.out.below HB3.out) (by omega))
  have HAW := hid awake_any
  go_wp2_with (first | (go_at_call 19; refine (HNU.out _).mono ?_; rintro e w' ⟨rfl, h0⟩; subst w') | (go_at_call 14; refine HSA.out.mono ?_; rintro e w' ⟨rfl, n, rfl⟩) | (go_at_call 15; refine (HAW.out _).mono ?_; rintro e w4 ⟨rfl, hb4⟩))
  go_ret
  exact ⟨rfl, below_tr HB3.out ⟨hb4.os, hb4.tape, hb4.output, hb4.size, fun k hk => hb4.block k (Nat.lt_of_lt_of_le hk HB3.out.size)⟩⟩

end Go.Proofs.YtoehopigjmmagaaDoor
