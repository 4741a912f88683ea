/- Contracts and pure facts that the proof needs, joined. -/
import Derived.Test.YtgldmepmeampeabG1
import Derived.BigQuiet
import Derived.Deep.RegionLaw
import Derived.StillTail
import Derived.Deep.MidRow
import Derived.Laws.MakeOwn
import Derived.Maps.OwnSet
import Derived.Maps.OwnOps
import Derived.Deep.Strs
import Derived.ChangeSame
import Derived.Laws.StructEq
import Derived.Deep.Upon
import Derived.Test.YtgldmepmeampeabRows
import Derived.ProofKit
import Derived.OpenShut
import Derived.Deep.Slices
import Derived.SizedLaws

/- The document's May, Find, IsDir, Up, less. -/
namespace Go.Proofs.Ytgldmepmeampeab
open Go.RowKit Go.BigFrame

set_option maxRecDepth 100000 in
set_option maxHeartbeats 1000000 in
theorem rmay_any (e : Ent) (w : World) (hp : e.1.length ≤ 1048576) :
    Calls Try.prog 63 #[entA e] w fun r w' => r = .returned (.bool (mayP e)) ∧ Below w.heap.size w w' := by
  obtain ⟨p, k, d⟩ := e
  unfold entA
  dsimp only at hp ⊢
  have HB := hid (below_walk w (.cells #[.string (mk p), .int .i64 k, .string (mk d)] 35))
  have HEB := hid (hp_new w (.cells #[.string (mk p), .int .i64 k, .string (mk d)] 35))
  have HC := hid (rpath_any (mk p) · (by rw [bl_mk]; omega))
  rw [bl_mk] at HC
  cases hok : okP p with
  | false =>
    rw [hok] at HC
    have HM := hid (mayP_bad (e := (p, k, d)) hok)
    clear hp hok
    generalize mk p = s at *
    go_enter Try.func63, Try.ntmps63
    go_wp2_with (go_at_call 67; refine (HC.out _).mono ?_; rintro r w' ⟨rfl, hb⟩)
    go_ret
    exact ⟨ret_bb HM.out.symm, below_then HB.out hb⟩
  | true =>
    rw [hok] at HC
    go_enter Try.func63, Try.ntmps63
    go_wp2_with fail
    refine (HC.out _).mono ?_
    rintro r w2 ⟨rfl, hb2⟩
    have HB2 := hid (below_then HB.out hb2)
    have HN := hid ((hb2.block w.heap.size (by simp)).trans HEB.out)
    have c0 : w2.cell? ⟨w.heap.size, 0, none⟩ = some (.string (mk p)) := by simp [World.cell?, HN.out]
    have c1 : w2.cell? ⟨w.heap.size, 1, none⟩ = some (.int .i64 k) := by simp [World.cell?, HN.out]
    have c2 : w2.cell? ⟨w.heap.size, 2, none⟩ = some (.string (mk d)) := by simp [World.cell?, HN.out]
    clear hb2 HC HB HEB HN
    by_cases h0 : p = []
    · have HM := hid (mayP_root (e := (p, k, d)) h0)
      have e1 : (mk p).toList = [] := by rw [h0]; exact bl_mk []
      clear h0 hp hok
      generalize mk p = s at *
      go_wp2
      go_ret
      exact ⟨ret_bb HM.out.symm, HB2.out⟩
    · have e1 : ¬ (mk p).toList = [] := fun h => h0 ((bl_mk p).symm.trans h)
      have e2 : ((mk p).toList == []) = false := by simpa using e1
      have e3 : (mk p).toList.isEmpty = false := by simpa using e1
      have HM := hid (mayP_of (e := (p, k, d)) hok h0)
      have hdl : (mk d).toList = d := bl_mk d
      have hds : (mk d).size = d.length := mk_size d
      clear h0 hp hok
      generalize mk p = s at *
      generalize mk d = sd at *
      go_wp2
      all_goals go_ret
      all_goals refine ⟨ret_bb ?_, HB2.out⟩
      all_goals rw [HM.out]
      all_goals clear HM HB2 c0 c1 c2
      all_goals rw [Bool.eq_iff_iff]
      all_goals go_light
      all_goals clear hdl hds e1 e2 e3
      all_goals cases d
      all_goals first | (simp_all; done) | (simp_all; omega)

/-- the place of a path -/
def fiP (t : List Ent) (p : List UInt8) : Option Nat := t.findIdx? (fun e => decide (e.1 = p))
def fiN (t : List Ent) (p : List UInt8) : Int := match fiP t p with | some i => (i : Int) | none => -1
theorem fiP_some {t : List Ent} {p : List UInt8} {i : Nat} : fiP t p = some i ↔ i < t.length ∧ (t.getD i zE).1 = p ∧ ∀ j, j < i → (t.getD j zE).1 ≠ p := by
  unfold fiP
  rw [List.findIdx?_eq_some_iff_getElem]
  constructor
  · rintro ⟨h, h1, h2⟩
    refine ⟨h, ?_, fun j hj => ?_⟩
    · simpa [List.getD_eq_getElem?_getD, h] using h1
    · have := h2 j hj
      simpa [List.getD_eq_getElem?_getD, show j < t.length by omega] using this
  · rintro ⟨h, h1, h2⟩
    refine ⟨h, ?_, fun j hj => ?_⟩
    · simpa [List.getD_eq_getElem?_getD, h] using h1
    · have := h2 j hj
      simpa [List.getD_eq_getElem?_getD, show j < t.length by omega] using this
theorem fiP_none {t : List Ent} {p : List UInt8} : fiP t p = none ↔ ∀ e ∈ t, e.1 ≠ p := by
  unfold fiP
  rw [List.findIdx?_eq_none_iff]
  simp
theorem fdP_fiP (t : List Ent) (p : List UInt8) : fdP t p = (fiP t p).map (fun i => t.getD i zE) := by
  cases h : fiP t p with
  | none => rw [Option.map_none]; exact fdP_none.2 (fiP_none.1 h)
  | some i =>
    obtain ⟨h1, h2, h3⟩ := fiP_some.1 h
    rw [Option.map_some]
    unfold fdP
    rw [List.find?_eq_some_iff_getElem]
    refine ⟨by simpa using h2, i, h1, by simp [List.getD_eq_getElem?_getD, h1], fun j hj => ?_⟩
    have := h3 j hj
    simpa [List.getD_eq_getElem?_getD, show j < t.length by omega] using this

set_option maxRecDepth 100000 in
set_option maxHeartbeats 1000000 in
theorem rfind_any (v : Value) (t : List Ent) (p : List UInt8) (w : World) (h : Ents w v t) (hn : t.length ≤ 4611686018427387904) :
    Calls Try.prog 18 #[v, .string (mk p)] w fun r w' => r = .returned (.int .i64 (fiN t p)) ∧ w' = w := by
  obtain ⟨ao, c, rfl⟩ := h.shape
  have H := hid h
  clear h
  go_enter Try.func18, Try.ntmps18
  go_wp2
  go_loop [5] (fun i => ∃ k : Nat, i = .int .i64 k ∧ k ≤ t.length ∧ ∀ j, j < k → (t.getD j zE).1 ≠ p) (fun i => t.length - (intOf i).toNat)
  case atStart => exact ⟨0, rfl, Nat.zero_le _, fun j hj => by omega⟩
  case round =>
    obtain ⟨k, rfl, hk, hno⟩ := hrel
    have HNO := hid hno
    clear hno
    by_cases hlt : k < t.length
    · have q2 : (k : Int) < (t.length : Int) := by omega
      obtain ⟨g, o, rfl, hgl, hcell⟩ := H.out.at k hlt
      obtain ⟨e, HE⟩ : ∃ e, Hid (t.getD k zE = e) := ⟨_, rfl⟩
      rw [HE.out] at hcell
      obtain ⟨c0, _, _⟩ := hcell
      by_cases hx : e.1 = p
      · have HF := hid (show fiN t p = (k : Int) by unfold fiN; rw [fiP_some.2 ⟨hlt, by rw [HE.out]; exact hx, HNO.out⟩])
        have e1 : (mk e.1).toList = (mk p).toList := by rw [hx]
        clear hx
        generalize mk e.1 = s1 at *
        generalize mk p = s2 at *
        go_wp2
        go_ret
        exact ⟨ret_i HF.out.symm, rfl⟩
      · have e1 : ¬ (mk e.1).toList = (mk p).toList := fun h => hx ((bl_mk e.1).symm.trans (h.trans (bl_mk p)))
        have e2 : ((mk e.1).toList == (mk p).toList) = false := by simpa using e1
        have HX := hid hx
        clear hx
        generalize mk e.1 = s1 at *
        generalize mk p = s2 at *
        go_wp2
        refine ⟨⟨k + 1, by simp, by omega, fun j hj => ?_⟩, by simp [intOf]; omega⟩
        by_cases hjk : j = k
        · subst hjk; rw [HE.out]; exact HX.out
        · exact HNO.out j (by omega)
    · have q2 : ¬ (k : Int) < (t.length : Int) := by omega
      have HF := hid (show fiN t p = -1 by
        unfold fiN
        rw [fiP_none.2]
        intro e he
        obtain ⟨j, hj, rfl⟩ := List.mem_iff_getElem.1 he
        have := HNO.out j (by omega)
        simpa [List.getD_eq_getElem?_getD, hj] using this)
      go_wp2
      go_ret
      exact ⟨ret_i HF.out.symm, rfl⟩

set_option maxRecDepth 100000 in
set_option maxHeartbeats 1000000 in
theorem risdir_any (v : Value) (t : List Ent) (p : List UInt8) (w : World) (h : Ents w v t) (hn : t.length ≤ 4611686018427387904) :
    Calls Try.prog 65 #[v, .string (mk p)] w fun r w' => r = .returned (.bool (dirP t p)) ∧ w' = w := by
  have HF := hid (rfind_any v t p w h hn)
  obtain ⟨ao, c, rfl⟩ := h.shape
  by_cases h0 : p = []
  · have e1 : (mk p).toList = [] := by rw [h0]; exact bl_mk []
    have HD := hid (show dirP t p = true by unfold dirP; simp [h0])
    clear h0 h
    generalize mk p = s at *
    go_enter Try.func65, Try.ntmps65
    go_wp2
    go_ret
    exact ⟨ret_bb HD.out.symm, rfl⟩
  · have e1 : ¬ (mk p).toList = [] := fun h => h0 ((bl_mk p).symm.trans h)
    have e2 : ((mk p).toList == []) = false := by simpa using e1
    have e3 : (mk p).toList.isEmpty = false := by simpa using e1
    cases hf : fiP t p with
    | none =>
      have HD := hid (show dirP t p = false by unfold dirP; rw [fdP_fiP, hf]; simp [h0])
      rw [show fiN t p = -1 by unfold fiN; rw [hf]] at HF
      clear h0 h hf
      generalize mk p = s at *
      go_enter Try.func65, Try.ntmps65
      go_wp2_with (go_at_call 18; refine HF.out.mono ?_; rintro r w2 ⟨rfl, hw2⟩; subst w2)
      go_ret
      exact ⟨ret_bb HD.out.symm, rfl⟩
    | some i =>
      obtain ⟨h1, h2, h3⟩ := fiP_some.1 hf
      obtain ⟨g, o, rfl, hgl, hcell⟩ := h.at i h1
      have HD := hid (show dirP t p = decide ((t.getD i zE).2.1 = 2) by unfold dirP; rw [fdP_fiP, hf]; simp [h0])
      rw [show fiN t p = (i : Int) by unfold fiN; rw [hf]] at HF
      obtain ⟨e, HE⟩ : ∃ e, Hid (t.getD i zE = e) := ⟨_, rfl⟩
      rw [HE.out] at hcell HD
      obtain ⟨_, c1, _⟩ := hcell
      have q1 : (0 : Int) ≤ (i : Int) := by omega
      have q2 : (i : Int) < (t.length : Int) := by omega
      clear h0 h hf h1 h2 h3
      generalize mk p = s at *
      generalize e.2.1 = K at *
      go_enter Try.func65, Try.ntmps65
      go_wp2_with (go_at_call 18; refine HF.out.mono ?_; rintro r w2 ⟨rfl, hw2⟩; subst w2)
      go_ret
      refine ⟨ret_bb ?_, rfl⟩
      rw [HD.out]
      first | rfl | (by_cases hK : K = 2 <;> simp [hK])

set_option maxHeartbeats 1000000 in
theorem rup_any (p : List UInt8) (w : World) (hp : p.length ≤ 1048576) :
    Calls Try.prog 66 #[.string (mk p)] w fun r w' => r = .returned (.string (mk (spD p))) ∧ Below w.heap.size w w' := by
  have H := hid (rsplit_any (mk p) w (by rw [bl_mk]; exact hp))
  rw [bl_mk] at H
  clear hp
  go_enter Try.func66, Try.ntmps66
  go_wp2_with (go_at_call 85; refine H.out.mono ?_; rintro r w' ⟨rfl, hb⟩)
  go_ret
  exact ⟨rfl, hb⟩

set_option maxHeartbeats 1000000 in
theorem rless_any (a b : List UInt8) (w : World) (ha : a.length ≤ 1048576) (hb : b.length ≤ 1048576) :
    Calls Try.prog 64 #[.string (mk a), .string (mk b)] w fun r w' => r = .returned (.bool (ltP a b)) ∧ Below w.heap.size w w' := by
  have H := hid (rcompare_any (mk a) (mk b) w (by rw [bl_mk]; exact ha) (by rw [bl_mk]; exact hb))
  rw [bl_mk, bl_mk] at H
  unfold ltP
  generalize cmP a b = C at *
  generalize pN a b = N at *
  clear ha hb
  go_enter Try.func64, Try.ntmps64
  go_wp2_with (go_at_call 84; refine H.out.mono ?_; rintro r w' ⟨rfl, hb⟩)
  go_ret
  exact ⟨rfl, hb⟩

end Go.Proofs.Ytgldmepmeampeab

/- climb: directories are left until the one that is asked for is met. -/
namespace Go.Proofs.Ytgldmepmeampeab
open Go.RowKit

/-- a checker's block, and the open directories, which it owns -/
structure Ckd (w : World) (C B : Nat) (last : List UInt8) (o : List (List UInt8)) (n : Int) (v : Value) : Prop where
  intro ::
  blk : w.heap[C]? = some (.cells #[.string (mk last), v, .int .i64 n] 54 (0, 0))
  own : OwnS w B v o
theorem own_other {w : World} {base : Nat} {v : Value} {ts : List (List UInt8)} {p : Nat} {cs : Array Value} {T : TypeId} (h : OwnS w base v ts) (k : w.heap[p]? = some (.cells cs T (0, 0))) (hT : T ≠ 9) : v.ownBlock ≠ some p := by
  intro e
  obtain ⟨_, ⟨rfl, _⟩ | ⟨g, cap, cur, rfl, _, hh, _⟩⟩ := h
  · cases e
  · simp only [Value.ownBlock, Option.some.injEq] at e
    subst e
    rw [hh] at k
    injection k with k
    injection k with _ h2
    exact hT h2.symm
theorem Ckd.ne {w : World} {C B : Nat} {last : List UInt8} {o : List (List UInt8)} {n : Int} {v : Value} (h : Ckd w C B last o n v) : v.ownBlock ≠ some C := own_other h.own h.blk (by decide)
theorem Ckd.lt {w : World} {C B : Nat} {last : List UInt8} {o : List (List UInt8)} {n : Int} {v : Value} (h : Ckd w C B last o n v) : C < w.heap.size := hp_lt h.blk
theorem Ckd.c0 {w : World} {C B : Nat} {last : List UInt8} {o : List (List UInt8)} {n : Int} {v : Value} (h : Ckd w C B last o n v) : w.cell? ⟨C, 0, none⟩ = some (.string (mk last)) := by simp [World.cell?, h.blk]
theorem Ckd.c1 {w : World} {C B : Nat} {last : List UInt8} {o : List (List UInt8)} {n : Int} {v : Value} (h : Ckd w C B last o n v) : w.cell? ⟨C, 1, none⟩ = some v := by simp [World.cell?, h.blk]
theorem Ckd.c2 {w : World} {C B : Nat} {last : List UInt8} {o : List (List UInt8)} {n : Int} {v : Value} (h : Ckd w C B last o n v) : w.cell? ⟨C, 2, none⟩ = some (.int .i64 n) := by simp [World.cell?, h.blk]
theorem Ckd.fz {w : World} {C B : Nat} {last : List UInt8} {o : List (List UInt8)} {n : Int} {v : Value} (h : Ckd w C B last o n v) (i : Nat) : w.frozen? ⟨C, i, none⟩ = false := by simp [World.frozen?, h.blk]
theorem Ckd.drew {w : World} {C B : Nat} {last : List UInt8} {o : List (List UInt8)} {n : Int} {v : Value} (h : Ckd w C B last o n v) (q : Nat) : Ckd (w.drewN q) C B last o n v := ⟨h.blk, h.own.below ⟨rfl, rfl, rfl, Nat.le_refl _, fun _ _ => rfl⟩⟩
theorem Ckd.below {w w' : World} {C B : Nat} {last : List UInt8} {o : List (List UInt8)} {n : Int} {v : Value} (h : Ckd w C B last o n v) (hb : Below w.heap.size w w') : Ckd w' C B last o n v :=
  ⟨(hb.block C h.lt).trans h.blk, h.own.below hb⟩
/-- the open directories are cut -/
theorem Ckd.cut {w : World} {C B : Nat} {last : List UInt8} {o : List (List UInt8)} {n : Int} {g cap : Nat} (h : Ckd w C B last o n (.slice (some ⟨g, 0, none⟩) o.length cap)) (k : Nat) (hk : k ≤ o.length) :
    Ckd (w.setCell ⟨C, 1, none⟩ (.slice (some ⟨g, 0, none⟩) k cap)) C B last (o.take k) n (.slice (some ⟨g, 0, none⟩) k cap) := by
  refine ⟨by rw [blk_set h.blk]; rfl, ?_⟩
  have h2 := h.own.take k hk
  exact h2.kept (gb_set w ⟨C, 1, none⟩ _) (Or.inr h.ne)
def lenV (v : Value) : Nat := match v with | .slice _ n _ => n | _ => 0

def ClimbPost (w : World) (C B : Nat) (last : List UInt8) (o : List (List UInt8)) (n : Int) (d : List UInt8) (w' : World) (k : Nat) : Prop :=
  k ≤ o.length ∧ (∃ v', Ckd w' C B last (o.take k) n v') ∧ (∀ j, k ≤ j → j < o.length → o.getD j [] ≠ d) ∧ (0 < k → o.getD (k - 1) [] = d) ∧ w.grownBy w' (some C)

set_option maxRecDepth 100000 in
set_option maxHeartbeats 1000000 in
theorem climb_any (C B : Nat) (last : List UInt8) (o : List (List UInt8)) (n : Int) (v : Value) (d : List UInt8) (w : World) (h : Ckd w C B last o n v) (hl : o.length ≤ 1099511627776) :
    Calls Try.prog 45 #[.pointer (some ⟨C, 0, none⟩), .string (mk d)] w fun e w' => ∃ k, e = .returned (.bool (decide (0 < k))) ∧ ClimbPost w C B last o n d w' k := by
  have H0 := hid h
  clear h
  go_enter Try.func45, Try.ntmps45
  go_wp2
  go_loopw [] (fun wr => ∃ (k : Nat) (vk : Value), k ≤ o.length ∧ Ckd wr C B last (o.take k) n vk ∧ (∀ j, k ≤ j → j < o.length → o.getD j [] ≠ d) ∧ w.grownBy wr (some C)) (fun wr => lenV ((wr.cell? ⟨C, 1, none⟩).getD undef))
  case atStart => exact ⟨o.length, v, Nat.le_refl _, by rw [List.take_length]; exact H0.out, fun j h1 h2 => by omega, gb_refl _ _⟩
  case round =>
    obtain ⟨k, vk, hk, hck, hno, hgb⟩ := hrel
    have HCK := hid hck
    have HNO := hid hno
    have HGB := hid hgb
    have hkl : (o.take k).length = k := by rw [List.length_take]; omega
    clear hck hno hgb H0
    obtain ⟨a, cap, hsh⟩ := HCK.out.own.strs.shape
    rw [hkl] at hsh
    subst hsh
    have c1 := HCK.out.c1
    by_cases h0 : k = 0
    · subst h0
      have HP : Hid (ClimbPost w C B last o n d wr 0) := ⟨hk, ⟨_, HCK.out⟩, HNO.out, fun h => (by omega), HGB.out⟩
      clear hk hkl
      go_wp2_with fail
      go_quiet (fail)
      go_wp2
      go_ret
      refine ⟨0, rfl, ?_⟩
      obtain ⟨h1, ⟨v', h2⟩, h3, h4, h5⟩ := HP.out
      exact ⟨h1, ⟨v', h2.drew _⟩, h3, h4, gb_trans h5 (gb_drewN _ _ _)⟩
    · have hd : decide (0 < k) = true := by simp; omega
      have hd' : 0 < k := by omega
      have hne : o ≠ [] := by rintro rfl; simp at hk; omega
      obtain ⟨g, hg, hcell⟩ : ∃ g, a = some ⟨g, 0, none⟩ ∧ ∀ j, j < k → wr.cell? ⟨g, j, none⟩ = some (.string (mk (o.getD j []))) := by
        rcases HCK.out.own.forms with ⟨_, e⟩ | ⟨g, cap', e1, _, _, _, _, _, e2⟩
        · rw [e] at hkl; simp at hkl; omega
        · injection e1 with e1 _ _
          refine ⟨g, e1, fun j hj => ?_⟩
          rw [e2 j (by omega)]
          simp [List.getD_eq_getElem?_getD, hj]
      subst hg
      obtain ⟨I, HI⟩ : ∃ I : Nat, Hid (I = k - 1) := ⟨_, rfl⟩
      have i1 : IntKind.i64.wrap ((k : Int) - 1) = (I : Int) := by rw [IntKind.wrap_i64, HI.out]; omega
      have q1 : (I : Int) < (k : Int) := by rw [HI.out]; omega
      have q0 : (0 : Int) ≤ (I : Int) := by omega
      have q2 : (I : Int) ≤ (cap : Int) := by
        rcases HCK.out.own.forms with ⟨e, _⟩ | ⟨g', cap', e1, _, _, h3, _⟩
        · cases e
        · injection e1 with _ _ e3
          subst e3
          rw [hkl] at h3
          rw [HI.out]
          omega
      have ck := hcell I (by rw [HI.out]; omega)
      have f1 := HCK.out.fz 1
      by_cases hx : o.getD I [] = d
      · have HP : Hid (ClimbPost w C B last o n d wr k) := ⟨hk, ⟨_, HCK.out⟩, HNO.out, fun h => (by rw [← HI.out]; exact hx), HGB.out⟩
        have e1 : (mk (o.getD I [])).toList = (mk d).toList := by rw [hx]
        clear hk hkl hne hcell hx HCK HNO HGB
        generalize mk (o.getD I []) = s1 at *
        generalize mk d = s2 at *
        go_wp2_with fail
        go_quiet (fail)
        go_wp2
        go_ret
        refine ⟨k, ret_bb hd.symm, ?_⟩
        obtain ⟨h1, ⟨v', h2⟩, h3, h4, h5⟩ := HP.out
        exact ⟨h1, ⟨v', h2.drew _⟩, h3, h4, gb_trans h5 (gb_drewN _ _ _)⟩
      · have e1 : ¬ (mk (o.getD I [])).toList = (mk d).toList := fun h => hx (by have := bl_mk (o.getD I []); have h2 := bl_mk d; unfold bl at this h2; rw [← this, h, h2])
        have e2 : ((mk (o.getD I [])).toList == (mk d).toList) = false := by simpa using e1
        have HX := hid hx
        have HK := hid hk
        have HKL := hid hkl
        clear hk hkl hne hcell hx
        generalize mk (o.getD I []) = s1 at *
        generalize mk d = s2 at *
        go_wp2_with fail
        go_quiet (fail)
        go_wp2_with fail
        go_region
        go_wp2
        have H2 : Ckd (wr.drewN (nq + 1)) C B last (o.take k) n (.slice (some ⟨g, 0, none⟩) (o.take k).length cap) := by rw [HKL.out]; exact HCK.out.drew _
        have H3 := H2.cut I (by rw [HKL.out, HI.out]; omega)
        rw [List.take_take, Nat.min_eq_left (by rw [HI.out]; omega)] at H3
        have hko := HK.out
        have hi := HI.out
        refine ⟨⟨I, _, by omega, H3, fun j h1 h2 => ?_, gb_trans HGB.out (gb_trans (gb_drewN _ _ _) (gb_set _ _ _))⟩, ?_⟩
        · by_cases hj : j = I
          · subst hj; exact HX.out
          · exact HNO.out j (by omega) h2
        · rw [H3.c1, c1]
          simp [lenV]
          omega

end Go.Proofs.Ytgldmepmeampeab

/- next: an entry behind others. -/
namespace Go.Proofs.Ytgldmepmeampeab
open Go.RowKit Go.BigFrame

/-- append(own, texts...) as one step of a region that draws its order -/
theorem step_app_text {ops : Array Oper} {o : Oper} {act : Act} {w : World} {K : Act → World → Prop} {Q : Exit → Act → World → Prop} {E : Prop} (hgd : o.guard = none) (s x : Operand)
    (ho : o.op = .call { callee := .builtin .append, args := #[s, x], argTypes := #[52, 52] })
    (base : Nat) (v : Value) (ts : List (List UInt8)) (hs : act.eval s = v) (hown : OwnS w base v ts) (vx : Value) (us : List (List UInt8)) (hx : act.eval x = vx) (hsrc : ∃ g o c, vx = .slice (some ⟨g, o, none⟩) us.length c ∧ ∀ j, j < us.length → w.cell? ⟨g, o + j, none⟩ = some (.string (mk (us.getD j []))))
    (hlen : ts.length + us.length ≤ 8796093022208) (hbase : base ≤ w.heap.size)
    (h : ∀ a' n' c' w', OwnS w' base (.slice a' n' c') (ts ++ us) → w.grownBy w' v.ownBlock → K (act.put o.dst (.slice a' n' c')) w') :
    if Region.wanted o (yielded ops act.tmps) = true then Oper.wp Try.prog o act w K Q else E := by
  have hw : Region.wanted o (yielded ops act.tmps) = true := by simp [Region.wanted, hgd]
  rw [if_pos hw]
  obtain ⟨i0, hi, hz0, hz1, hz2⟩ := info_parts Try.infoStr
  obtain ⟨g, off, c, rfl, hc⟩ := hsrc
  have hcl : ∀ j u, (strV us)[j]? = some u → w.cell? ((⟨g, off, none⟩ : Addr).add j) = some u := by
    intro j u hj
    have hjl : j < us.length := by
      rcases Nat.lt_or_ge j us.length with h | h
      · exact h
      · rw [List.getElem?_eq_none (by rw [strV_length]; exact h)] at hj; cases hj
    rw [strV_get us j hjl] at hj
    have hj := Option.some.inj hj
    rw [← hj, show (⟨g, off, none⟩ : Addr).add j = ⟨g, off + j, none⟩ by by_cases h0 : j = 0 <;> simp [Addr.add, h0]]
    exact hc j hjl
  obtain ⟨v', w', hrun, r1, r2, _⟩ := run_append_own (P := Try.prog) w base 52 o.type 9 i0 (.string ⟨#[]⟩) 1 16 Try.underlying52 hi hz0 hz1 hz2 rfl (by decide) v ts.length (strV ts) hown ⟨g, off, none⟩ us.length c (strV us) (by rw [strV_length]; omega) hcl (strV_one us) (by unfold maxLen; omega) (by omega) hbase
  unfold Oper.wp
  simp [execOp, ho, resolve, invoke, builtin, hs, hx, hrun, Result.andThen]
  have r3 : OwnS w' base v' (ts ++ us) := by unfold OwnS; rw [List.length_append, show strV (ts ++ us) = strV ts ++ strV us by simp [strV]]; exact r1
  obtain ⟨a', c', e⟩ := r3.strs.shape
  subst e
  exact h _ _ _ w' r3 r2

theorem Ckd.set2 {w : World} {C B : Nat} {last : List UInt8} {o : List (List UInt8)} {n : Int} {v : Value} (h : Ckd w C B last o n v) (m : Int) : Ckd (w.setCell ⟨C, 2, none⟩ (.int .i64 m)) C B last o m v :=
  ⟨by rw [blk_set h.blk]; rfl, h.own.kept (gb_set w ⟨C, 2, none⟩ _) (Or.inr h.ne)⟩
theorem Ckd.set0 {w : World} {C B : Nat} {last : List UInt8} {o : List (List UInt8)} {n : Int} {v : Value} (h : Ckd w C B last o n v) (s : List UInt8) : Ckd (w.setCell ⟨C, 0, none⟩ (.string (Go.Proofs.Ytgldmepmeampeab.mk s))) C B s o n v :=
  ⟨by rw [blk_set h.blk]; rfl, h.own.kept (gb_set w ⟨C, 0, none⟩ _) (Or.inr h.ne)⟩
theorem Ckd.set1 {w w' : World} {C B : Nat} {last : List UInt8} {o o' : List (List UInt8)} {n : Int} {v v' : Value} (h : Ckd w C B last o n v) (hg : w.grownBy w' v.ownBlock) (ho : OwnS w' B v' o') : Ckd (w'.setCell ⟨C, 1, none⟩ v') C B last o' n v' := by
  have hb : w'.heap[C]? = some (.cells #[.string (Go.Proofs.Ytgldmepmeampeab.mk last), v, .int .i64 n] 54 (0, 0)) := (hg.block C h.lt (fun e => h.ne e.symm)).trans h.blk
  exact ⟨by rw [blk_set hb]; rfl, ho.kept (gb_set w' ⟨C, 1, none⟩ _) (Or.inr (own_other ho hb (by decide)))⟩
theorem Ckd.app {w W w' : World} {C B : Nat} {last : List UInt8} {o : List (List UInt8)} {n : Int} {v : Value} {x : Obj} (h : Ckd w C B last o n v) (hg : W.grownBy w' v.ownBlock) (hW : W.heap = (w.alloc x).heap) : w'.heap[C]? = some (.cells #[.string (Go.Proofs.Ytgldmepmeampeab.mk last), v, .int .i64 n] 54 (0, 0)) := by
  have hl := h.lt
  rw [hg.block C (by rw [hW]; simp; omega) (fun e => h.ne e.symm), hW, Below.heap_alloc w x C hl]
  exact h.blk
theorem row_cell {w : World} {b : Nat} {cs : Array Value} {T : TypeId} (h : w.heap[b]? = some (.cells cs T (0, 0))) (i : Nat) : w.cell? ⟨b, i, none⟩ = cs[i]? := by simp [World.cell?, h]
theorem cell_one {w : World} {b : Nat} {x y z : Value} {T : TypeId} (h : w.heap[b]? = some (.cells #[x, y, z] T (0, 0))) : w.cell? ⟨b, 1, none⟩ = some y := by simp [World.cell?, h]
theorem own_shape {w : World} {B : Nat} {v : Value} {ts : List (List UInt8)} (h : OwnS w B v ts) : ∃ a n c, v = .slice a n c := by
  obtain ⟨a, c, e⟩ := h.strs.shape
  exact ⟨a, _, c, e⟩
theorem row_fz {w : World} {b : Nat} {cs : Array Value} {T : TypeId} (h : w.heap[b]? = some (.cells cs T (0, 0))) (i : Nat) : w.frozen? ⟨b, i, none⟩ = false := by simp [World.frozen?, h]
theorem below_ad (w : World) (o : Obj) : Below w.heap.size w (w.alloc o).drew := ⟨rfl, rfl, rfl, (below_walk w o).size, (below_walk w o).block⟩
theorem src_txt (W : World) (s : List UInt8) (T : TypeId) : ∃ g o c, Value.slice (some ⟨W.heap.size, 0, none⟩) 1 1 = .slice (some ⟨g, o, none⟩) [s].length c ∧ ∀ j, j < [s].length → (W.alloc (.cells #[.string (mk s)] T)).cell? ⟨g, o + j, none⟩ = some (.string (mk ([s].getD j []))) := by
  refine ⟨W.heap.size, 0, 1, rfl, fun j hj => ?_⟩
  simp at hj
  subst hj
  simp

/-- an entry's block -/
def Eb (w : World) (g : Nat) (e : Ent) : Prop := w.heap[g]? = some (.cells #[.string (mk e.1), .int .i64 e.2.1, .string (mk e.2.2)] 35 (0, 0))
theorem Eb.at {w : World} {g : Nat} {e : Ent} (h : Eb w g e) : EntAt w g 0 e := by
  unfold Eb at h
  exact ⟨by simp [World.cell?, h], by simp [World.cell?, h], by simp [World.cell?, h]⟩
theorem Eb.below {w w' : World} {g : Nat} {e : Ent} (h : Eb w g e) (hb : Below w.heap.size w w') : Eb w' g e := (hb.block g (hp_lt h)).trans h
theorem Eb.kept {w w' : World} {g : Nat} {e : Ent} {row : Option Nat} (h : Eb w g e) (hg : w.grownBy w' row) (hne : some g ≠ row) : Eb w' g e := (hg.block g (hp_lt h) (fun x => hne (by rw [x]))).trans h
theorem Eb.new (w : World) (e : Ent) : Eb (w.alloc (.cells #[.string (mk e.1), .int .i64 e.2.1, .string (mk e.2.2)] 35)) w.heap.size e := hp_new _ _
theorem Eb.fz {w : World} {g : Nat} {e : Ent} (h : Eb w g e) (i : Nat) : w.frozen? ⟨g, i, none⟩ = false := by
  unfold Eb at h
  simp [World.frozen?, h]

theorem entN_may {pre : List Ent} {e : Ent} (h : mayP e = false) : entN pre e = 50 := by unfold entN; rw [if_pos h]
theorem entN_lt {pre : List Ent} {e : Ent} (h : mayP e = true) (h2 : ltP (pre.getLastD zE).1 e.1 = false) : entN pre e = 51 := by
  unfold entN; rw [if_neg (by rw [h]; decide), if_pos h2]
theorem entN_dir {pre : List Ent} {e : Ent} (h : mayP e = true) (h2 : ltP (pre.getLastD zE).1 e.1 = true) (h3 : dirP pre (spD e.1) = false) : entN pre e = 52 := by
  unfold entN; rw [if_neg (by rw [h]; decide), if_neg (by rw [h2]; decide), if_pos h3]
theorem entN_big {pre : List Ent} {e : Ent} (h : mayP e = true) (h2 : ltP (pre.getLastD zE).1 e.1 = true) (h3 : dirP pre (spD e.1) = true) (h4 : 1048576 < szP pre + e.2.2.length) : entN pre e = 54 := by
  unfold entN; rw [if_neg (by rw [h]; decide), if_neg (by rw [h2]; decide), if_neg (by rw [h3]; decide), if_pos h4]

def NextPost (w : World) (C B : Nat) (pre : List Ent) (e : Ent) (w' : World) : Prop :=
  Below B w w' ∧ (entN pre e = 0 → ∃ v', Ckd w' C B e.1 (opn (pre ++ [e])) (szP (pre ++ [e]) : Nat) v')

set_option maxRecDepth 100000 in
set_option maxHeartbeats 2000000 in
theorem next_any (C B : Nat) (pre : List Ent) (e : Ent) (v : Value) (w : World) (h : Ckd w C B (pre.getLastD zE).1 (opn pre) (szP pre : Nat) v) (hr : Ris pre) (hs : szP pre ≤ 1048576) (hB : B ≤ C)
    (hp : e.1.length ≤ 9223372036854775807) (hd : e.2.2.length ≤ 4611686018427387904) :
    Calls Try.prog 19 #[.pointer (some ⟨C, 0, none⟩), entA e] w fun r w' => r = .returned (.int .i64 (entN pre e)) ∧ NextPost w C B pre e w' := by
  obtain ⟨L, HL⟩ : ∃ L, Hid ((pre.getLastD zE).1 = L) := ⟨_, rfl⟩
  rw [HL.out] at h
  have HE1 := hid (Eb.new w e)
  have HCK1 := hid (h.below (below_walk w (.cells #[.string (mk e.1), .int .i64 e.2.1, .string (mk e.2.2)] 35)))
  have HBW := hid (show B ≤ w.heap.size from Nat.le_trans hB (Nat.le_of_lt h.lt))
  have HB1 := hid ((below_walk w (.cells #[.string (mk e.1), .int .i64 e.2.1, .string (mk e.2.2)] 35)).mono HBW.out)
  have HM := hid (may_any e · hp)
  have HCW := hid h.lt
  clear h
  unfold entA at HM ⊢
  cases hm : mayP e with
  | false =>
    rw [hm] at HM
    have HN := hid (entN_may (pre := pre) hm)
    clear hm hp hd
    go_enter Try.func19, Try.ntmps19
    go_wp2_with (go_at_call 28; refine (HM.out _).mono ?_; rintro r w2 ⟨rfl, hb2⟩)
    go_ret
    refine ⟨ret_i HN.out.symm, HB1.out.trans (hb2.mono (by simp; have := HBW.out; omega)), fun h => ?_⟩
    rw [HN.out] at h
    omega
  | true =>
    rw [hm] at HM
    have hok := mayP_ok hm
    have HCMP := hid (compare_any (mk L) (mk e.1) · (by rw [bl_mk, ← HL.out]; have := okP_short (last_ok hr.may); omega) (by rw [bl_mk]; exact hp))
    rw [bl_mk, bl_mk] at HCMP
    go_enter Try.func19, Try.ntmps19
    go_wp2_with (go_at_call 28; refine (HM.out _).mono ?_; rintro r w2 ⟨rfl, hb2⟩)
    have HE2 := hid (HE1.out.below hb2)
    have HCK2 := hid (HCK1.out.below hb2)
    have HB2 := hid (HB1.out.trans (hb2.mono (by simp; have := HBW.out; omega)))
    have HS2 := hid hb2.size
    simp at HS2
    clear hb2 HE1 HCK1 HB1 HM
    have hCl := HCK2.out.lt
    have c0 := fun p : Bel w2 => p.cell HCK2.out.c0 hCl
    have e0 := fun p : Bel w2 => p.cell HE2.out.at.1 (by have := HS2.out; omega)
    clear hCl
    have ib : Nonempty (Bel w2) := bel_some w2
    refine wp_region_quiet_bel (by kernel_rfl) (by kernel_rfl) ?_
    repeat (go_big_quiet_step (first | (go_at_call 33; exact bel_of (HCMP.out _))))
    refine wpQuiet_nil ?_
    rintro w3 ⟨⟨w3', hb3⟩, hw3⟩
    obtain rfl : w3 = w3' := hw3
    have HE3 := hid (HE2.out.below hb3)
    have HCK3 := hid (HCK2.out.below hb3)
    have HB3 := hid (HB2.out.trans (hb3.mono (by have := HBW.out; have := HS2.out; omega)))
    have HS3 := hid (Nat.le_trans HS2.out hb3.size)
    have HQ : Hid (ltP L e.1 = decide (cmP L e.1 < 0)) := rfl
    clear hb3 HE2 HCK2 HB2 HS2 ib c0 e0 HCMP
    generalize pN L e.1 = N0 at *
    generalize cmP L e.1 = C0 at *
    by_cases hlt : 0 ≤ C0
    · have HN := hid (entN_lt (pre := pre) hm (by rw [HL.out, HQ.out]; simp; omega))
      have HP : Hid (NextPost w C B pre e w3) := ⟨HB3.out, fun h => (by rw [HN.out] at h; omega)⟩
      clear hm hok hp hd hr hs
      go_wp2
      go_ret
      exact ⟨ret_i HN.out.symm, HP.out⟩
    · have HLT := hid (show ltP (pre.getLastD zE).1 e.1 = true by rw [HL.out, HQ.out]; simp; omega)
      have HPA := hid (parent_any e.1 · hp)
      have HMY := hid hm
      have HOK := hid hok
      have HD := hid hd
      have HR := hid hr
      have HSZ := hid hs
      clear hm hok hp hd hr hs HQ
      obtain ⟨e0, e1, e2⟩ := HE3.out.at
      go_wp2_with (go_at_call 36; refine (HPA.out _).mono ?_; rintro r w4 ⟨rfl, n4, rfl⟩)
      refine (climb_any C B L (opn pre) (szP pre : Nat) v (spD e.1) _ (HCK3.out.drew _) (by obtain ⟨n, h1, _, h3, _⟩ := opn_names HR.out; rw [h1, chn_len]; omega)).mono ?_
      rintro r w5 ⟨k, rfl, hk1, ⟨v5, hck5⟩, hk3, hk4, hg5⟩
      have HE5 := hid ((HE3.out.below ⟨rfl, rfl, rfl, Nat.le_refl _, fun _ _ => rfl⟩ : Eb (w3.drewN n4) w.heap.size e).kept hg5 (by intro h; have := Option.some.inj h; have := HCW.out; omega))
      have HB5 := hid ((HB3.out.trans (⟨rfl, rfl, rfl, Nat.le_refl _, fun _ _ => rfl⟩ : Below B w3 (w3.drewN n4))).grown hg5 (by have := HBW.out; have := HS3.out; show B ≤ w3.heap.size; omega) (by intro j hj; have := Option.some.inj hj; omega))
      have HS5 := hid (Nat.le_trans HS3.out (show w3.heap.size ≤ w5.heap.size from hg5.size))
      have HCK5 := hid hck5
      clear hg5 hck5 HE3 HB3 HS3 HCK3 e0 e1 e2 HPA hlt
      by_cases hk0 : k = 0
      · have HN := hid (entN_dir HMY.out HLT.out (opn_miss HR.out HMY.out HLT.out (fun hm => by
          obtain ⟨j, hj, hje⟩ := List.mem_iff_getElem.1 hm
          exact hk3 j (by omega) hj (by rw [List.getD_eq_getElem?_getD, List.getElem?_eq_getElem hj]; exact hje))))
        have HP : Hid (NextPost w C B pre e w5) := ⟨HB5.out, fun h => (by rw [HN.out] at h; omega)⟩
        subst hk0
        clear hk1 hk3 hk4
        go_wp2
        go_ret
        exact ⟨ret_i HN.out.symm, HP.out⟩
      · have hkp : 0 < k := by omega
        obtain ⟨hdir, hopn⟩ := opn_hit HR.out HMY.out (k := k - 1) (by omega) (hk4 hkp)
        rw [show k - 1 + 1 = k by omega] at hopn
        have HDIR := hid hdir
        have HOPN := hid hopn
        have hdk : decide (0 < k) = true := by simp; omega
        have hdk' : 0 < k := hkp
        clear hk1 hk3 hk4 hdir hopn hk0 hkp
        obtain ⟨o5, HO5⟩ : ∃ o5, Hid ((opn pre).take k = o5) := ⟨_, rfl⟩
        rw [HO5.out] at HOPN HCK5
        have c2 := HCK5.out.c2
        have f2 := HCK5.out.fz 2
        obtain ⟨e0, e1, e2⟩ := HE5.out.at
        obtain ⟨S, HSS⟩ : ∃ S : Nat, Hid (S = szP pre) := ⟨_, rfl⟩
        obtain ⟨M, HMM⟩ : ∃ M : Nat, Hid (M = szP pre + e.2.2.length) := ⟨_, rfl⟩
        have hdz : (mk e.2.2).size = e.2.2.length := mk_size _
        obtain ⟨D, HDD⟩ : ∃ D : Nat, Hid (D = e.2.2.length) := ⟨_, rfl⟩
        rw [← HDD.out] at hdz
        rw [← HSS.out] at c2 HCK5
        have hw1 : IntKind.i64.wrap ((S : Int) + (D : Int)) = (M : Int) := by rw [IntKind.wrap_i64, HMM.out, HSS.out, HDD.out]; have := HSZ.out; have := HD.out; omega
        have hdl : D ≤ 4611686018427387904 := by rw [HDD.out]; exact HD.out
        generalize mk e.2.2 = sd at *
        go_wp2_with fail
        go_region
        have HG6 : Hid (w5.grownBy (w5.setCell ⟨C, 2, none⟩ (.int .i64 (M : Int))).drew (some C)) := gb_trans (gb_set w5 ⟨C, 2, none⟩ (.int .i64 (M : Int))) (gb_drew _ _)
        have HCK6 := hid ((HCK5.out.set2 (M : Int)).below (⟨rfl, rfl, rfl, Nat.le_refl _, fun _ _ => rfl⟩ : Below _ (w5.setCell ⟨C, 2, none⟩ (.int .i64 (M : Int))) (w5.setCell ⟨C, 2, none⟩ (.int .i64 (M : Int))).drew))
        generalize (w5.setCell ⟨C, 2, none⟩ (.int .i64 (M : Int))).drew = w6 at HG6 HCK6 ⊢
        have HE6 := hid (HE5.out.kept HG6.out (by intro h; have := Option.some.inj h; have := HCW.out; omega))
        have HB6 := hid (HB5.out.grown HG6.out (by have := HBW.out; have := HS5.out; omega) (by intro j hj; have := Option.some.inj hj; omega))
        have HS6 := hid (Nat.le_trans HS5.out HG6.out.size)
        clear HG6 HCK5 HE5 HB5 HS5 c2 f2 e0 e1 e2 hw1 hdz hdl
        have c2 := HCK6.out.c2
        by_cases hbig : 1048576 < M
        · have q1 : (1048576 : Int) < (M : Int) := by omega
          have HN := hid (entN_big HMY.out HLT.out HDIR.out (by rw [← HMM.out]; exact hbig))
          have HP : Hid (NextPost w C B pre e w6) := ⟨HB6.out, fun h => (by rw [HN.out] at h; omega)⟩
          clear hbig
          go_wp2
          go_ret
          exact ⟨ret_i HN.out.symm, HP.out⟩
        · have q1 : ¬ (1048576 : Int) < (M : Int) := by omega
          have HN := hid (entN_of HMY.out HLT.out HDIR.out (by rw [← HMM.out]; omega))
          have HSN := hid (show szP (pre ++ [e]) = M by rw [szP_snoc, HMM.out])
          clear hbig
          obtain ⟨e0, e1, e2⟩ := HE6.out.at
          obtain ⟨K, HKK⟩ : ∃ K, Hid (e.2.1 = K) := ⟨_, rfl⟩
          rw [HKK.out] at e1 HOPN ⊢
          by_cases hk2 : K = 2
          · subst hk2
            rw [if_pos rfl] at HOPN
            have c1 := HCK6.out.c1
            have c1a := (HCK6.out.below (below_walk w6 (.cells #[.string (mk e.1)] 9))).c1
            have HOX := hid (fun (W : World) (o : Obj) (hW : W.heap = w6.heap) => ((show OwnS W B v5 o5 by have := HCK6.out.own; unfold OwnS World.ownsRow at this ⊢; rw [hW]; exact this).below (below_walk W o) : OwnS (W.alloc o) B v5 o5))
            have HLN := hid (show o5.length + [e.1].length ≤ 8796093022208 by obtain ⟨n, h1, _, h3, _⟩ := opn_names HR.out; rw [← HO5.out, h1, List.length_take, chn_len]; simp; omega)
            have HBZ := hid (show B ≤ w6.heap.size + 1 by have := HBW.out; have := HS6.out; omega)
            go_wp2_with fail
            go_region_law ((refine step_app_text (by rfl) (.tmp 50) (.tmp 53) (by rfl) B v5 o5 (by rfl) (by exact HOX.out _ _ rfl) _ [e.1] (by rfl) (by exact src_txt _ _ _) HLN.out (by show B ≤ (w6.alloc _).heap.size; simp; exact HBZ.out) ?_; intro a7 n7 c7 w7 ho7 hg7; have HC7 := hid (HCK6.out.app hg7 rfl); have g1 := cell_one HC7.out; have g2 := row_fz HC7.out 1; have HO7 := hid ho7; have HG7 := hid hg7; clear ho7 hg7))
            all_goals
              have HCK8 := hid ((⟨by rw [blk_set HC7.out]; rfl, HO7.out.kept (gb_set w7 ⟨C, 1, none⟩ _) (Or.inr (own_other HO7.out HC7.out (by decide)))⟩ : Ckd (w7.setCell ⟨C, 1, none⟩ (.slice a7 n7 c7)) C B L (o5 ++ [e.1]) (M : Int) (.slice a7 n7 c7)))
              have HE8 := hid (((HE6.out.below (below_ad w6 (.cells #[.string (mk e.1)] 9))).kept HG7.out (fun h => own_other HCK6.out.own HE6.out (by decide) h.symm)).kept (gb_set w7 ⟨C, 1, none⟩ (.slice a7 n7 c7)) (by intro h; have := Option.some.inj h; have := HCW.out; dsimp only at *; omega))
              have HB8 := hid (((HB6.out.trans ((below_ad w6 (.cells #[.string (mk e.1)] 9)).mono (by have := HBW.out; have := HS6.out; omega))).grown HG7.out (by simp; exact HBZ.out) (fun j hj => (HCK6.out.own.lt j hj).1)).grown (gb_set w7 ⟨C, 1, none⟩ (.slice a7 n7 c7)) (by have h1 := HG7.out.size; have h2 := HBZ.out; simp at h1; omega) (by intro j hj; have := Option.some.inj hj; dsimp only at this; omega))
              generalize w7.setCell ⟨C, 1, none⟩ (.slice a7 n7 c7) = w8 at HCK8 HE8 HB8 ⊢
              clear HC7 g1 g2 HO7 HG7 c1 c1a e0 e1 e2 c2 HOX
              have c0 := HCK8.out.c0
              have f0 := HCK8.out.fz 0
              obtain ⟨e0, e1, e2⟩ := HE8.out.at
              go_wp2
              go_ret
              refine ⟨ret_i HN.out.symm, HB8.out.grown (gb_set w8 ⟨C, 0, none⟩ (.string (mk e.1))) (by have := HCK8.out.lt; omega) (by intro j hj; have := Option.some.inj hj; dsimp only at this; omega), fun _ => ⟨.slice a7 n7 c7, ?_⟩⟩
              rw [HOPN.out, HSN.out]
              exact HCK8.out.set0 e.1
          · rw [if_neg hk2, List.append_nil] at HOPN
            have hk3 : (K == 2) = false := by simpa using hk2
            have c0 := HCK6.out.c0
            have f0 := HCK6.out.fz 0
            clear e2
            go_wp2
            go_ret
            refine ⟨ret_i HN.out.symm, HB6.out.grown (gb_set w6 ⟨C, 0, none⟩ (.string (mk e.1))) (by have := HCK6.out.lt; omega) (by intro j hj; have := Option.some.inj hj; dsimp only at this; omega), fun _ => ⟨v5, ?_⟩⟩
            rw [HOPN.out, HSN.out]
            exact HCK6.out.set0 e.1

end Go.Proofs.Ytgldmepmeampeab

/- Check, right, Size. -/
namespace Go.Proofs.Ytgldmepmeampeab
open Go.RowKit Go.BigFrame

/-- texts that are not too long for any machine -/
def Short (t : List Ent) : Prop := ∀ e ∈ t, e.1.length ≤ 4611686018427387904 ∧ e.2.2.length ≤ 4611686018427387904
theorem Short.at {t : List Ent} (h : Short t) {k : Nat} (hk : k < t.length) : (t.getD k zE).1.length ≤ 4611686018427387904 ∧ (t.getD k zE).2.2.length ≤ 4611686018427387904 := h _ (getD_mem hk)

/-- how far a check has come -/
def TSt (w wr : World) (t : List Ent) (k : Nat) : Prop :=
  entTo t k ∧ (∃ v, Ckd wr (w.heap.size + 1) w.heap.size ((t.take k).getLastD zE).1 (opn (t.take k)) (szP (t.take k) : Nat) v) ∧ Below w.heap.size w wr
theorem ret_ni {a b x y : Int} (h : a = b) (k : x = y) : Ending.returned (.tuple #[.int .i64 a, .int .i64 x]) = .returned (.tuple #[.int .i64 b, .int .i64 y]) := by rw [h, k]
theorem tst_start (w : World) (t : List Ent) : TSt w ((w.alloc (.cells #[.string ⟨#[]⟩] 9)).alloc (.cells #[.string ⟨#[]⟩, .slice (some ⟨w.heap.size, 0, none⟩) 1 1, .int .i64 0] 54)) t 0 := by
  refine ⟨fun j hj => by omega, ⟨.slice (some ⟨w.heap.size, 0, none⟩) 1 1, ?_, ?_⟩, below_walk2 w _ _⟩
  · rw [List.take_zero]
    have := hp_new (w.alloc (.cells #[.string ⟨#[]⟩] 9)) (.cells #[.string ⟨#[]⟩, .slice (some ⟨w.heap.size, 0, none⟩) 1 1, .int .i64 0] 54)
    rw [show (w.alloc (.cells #[.string ⟨#[]⟩] 9)).heap.size = w.heap.size + 1 by simp] at this
    exact this
  · rw [List.take_zero]
    have h1 : OwnS (w.alloc (.cells #[.string ⟨#[]⟩] 9)) w.heap.size (.slice (some ⟨w.heap.size, 0, none⟩) 1 1) [[]] := OwnS.made (hp_new _ _) (by simp) (Nat.le_refl _) 1 rfl
    exact h1.below (below_walk _ _)

set_option maxRecDepth 100000 in
set_option maxHeartbeats 2000000 in
theorem tcheck_any (v : Value) (t : List Ent) (w : World) (h : Ents w v t) (hl : Short t) (hn : t.length ≤ 4611686018427387904) :
    Calls Try.prog 7 #[v] w fun r w' => r = .returned (.tuple #[.int .i64 ((chkP t).1 : Nat), .int .i64 (chkP t).2]) ∧ Below w.heap.size w w' := by
  obtain ⟨ao, c, rfl⟩ := h.shape
  by_cases hm : 1024 < t.length
  · have q1 : (1024 : Int) < (t.length : Int) := by omega
    have HC := hid (chkP_many hm)
    clear h hm
    go_enter Try.func7, Try.ntmps7
    go_wp2
    go_ret2
    exact ⟨ret_ni (by rw [HC.out]; rfl) (by rw [HC.out]), Below.refl _ _⟩
  · have q1 : ¬ (1024 : Int) < (t.length : Int) := by omega
    have HM := hid hm
    have H := hid h
    have HLI := hid hl
    have H0 := hid (tst_start w t)
    clear h hm hl
    go_enter Try.func7, Try.ntmps7
    go_wp2
    go_loopw [15] (fun i wr => ∃ k : Nat, i = .int .i64 k ∧ k ≤ t.length ∧ TSt w wr t k) (fun i _ => t.length - (intOf i).toNat)
    case atStart => exact ⟨0, rfl, Nat.zero_le _, H0.out⟩
    case round =>
      obtain ⟨k, rfl, hk, hst⟩ := hrel
      have HST := hid hst
      clear hst H0
      by_cases hlt : k < t.length
      · have q2 : (k : Int) < (t.length : Int) := by omega
        obtain ⟨g, o, rfl, hgl, hcell⟩ := (H.out.below HST.out.2.2).at k hlt
        obtain ⟨e, HE⟩ : ∃ e, Hid (t.getD k zE = e) := ⟨_, rfl⟩
        rw [HE.out] at hcell
        obtain ⟨c0, c1, c2⟩ := hcell
        obtain ⟨v1, hv1⟩ := HST.out.2.1
        have hle := HLI.out.at hlt
        rw [HE.out] at hle
        have HR := hid (entTo_ris hk HST.out.1)
        have HNX := hid (next_any (w.heap.size + 1) w.heap.size (t.take k) e v1 (wr.alloc (.cells #[.string (mk e.1), .int .i64 e.2.1, .string (mk e.2.2)] 35)) (hv1.below (below_walk _ _)) HR.out.1 HR.out.2 (by omega) (by omega) hle.2)
        unfold entA at HNX
        clear hv1 hle
        have HBA := hid (HST.out.2.2.alloc HST.out.2.2.size (.cells #[.string (mk e.1), .int .i64 e.2.1, .string (mk e.2.2)] 35))
        go_wp2_with fail
        refine HNX.out.mono ?_
        rintro r w2 ⟨rfl, hb2, hnx⟩
        have HB2 := hid (HBA.out.trans hb2)
        have HTK := hid (take_snoc t k hlt)
        rw [HE.out] at HTK
        clear hb2 HNX HBA c0 c1 c2
        by_cases h0 : entN (t.take k) e = 0
        · obtain ⟨v2, hv2⟩ := hnx h0
          have HN : Hid (TSt w w2 t (k + 1)) := by
            refine ⟨fun j hj => ?_, ⟨v2, ?_⟩, HB2.out⟩
            · by_cases hjk : j = k
              · subst hjk; rw [HE.out]; exact h0
              · exact HST.out.1 j (by omega)
            · rw [HTK.out, lastD_snoc]; exact hv2
          rw [h0]
          clear h0 hv2 hnx HB2 HST
          go_wp2
          exact ⟨⟨k + 1, by simp, by omega, HN.out⟩, by simp [intOf]; omega⟩
        · have HCB := hid (chkP_bad (by have := HM.out; omega) HST.out.1 hlt (by rw [HE.out]; exact h0))
          rw [HE.out] at HCB
          have e1 : (entN (t.take k) e == 0) = false := by simpa using h0
          generalize entN (t.take k) e = N at *
          clear hnx
          go_wp2
          go_ret2
          exact ⟨ret_ni (by rw [HCB.out]) (by rw [HCB.out]), HB2.out⟩
      · have q2 : ¬ (k : Int) < (t.length : Int) := by omega
        obtain rfl : k = t.length := by omega
        have HCO := hid (chkP_ok (by have := HM.out; omega) HST.out.1)
        have HB2 := hid HST.out.2.2
        go_wp2
        go_ret2
        exact ⟨ret_ni (by rw [HCO.out]; rfl) (by rw [HCO.out]), HB2.out⟩

end Go.Proofs.Ytgldmepmeampeab

/- The document's Check, Right, Size; Same. -/
namespace Go.Proofs.Ytgldmepmeampeab
open Go.RowKit Go.BigFrame

/-- entries whose texts are of bulk -/
def Bulk (t : List Ent) : Prop := ∀ e ∈ t, e.1.length ≤ 1048576 ∧ e.2.2.length ≤ 1048576
theorem Bulk.at {t : List Ent} (h : Bulk t) {k : Nat} (hk : k < t.length) : (t.getD k zE).1.length ≤ 1048576 ∧ (t.getD k zE).2.2.length ≤ 1048576 := h _ (getD_mem hk)

set_option maxRecDepth 100000 in
set_option maxHeartbeats 4000000 in
theorem rcheck_any (v : Value) (t : List Ent) (w : World) (h : Ents w v t) (hl : Bulk t) (hn : t.length ≤ 4611686018427387904) :
    Calls Try.prog 42 #[v] w fun r w' => r = .returned (.tuple #[.int .i64 ((chkP t).1 : Nat), .int .i64 (chkP t).2]) ∧ Below w.heap.size w w' := by
  obtain ⟨ao, c, rfl⟩ := h.shape
  by_cases hm : 1024 < t.length
  · have q1 : (1024 : Int) < (t.length : Int) := by omega
    have HC := hid (chkP_many hm)
    clear h hm
    go_enter Try.func42, Try.ntmps42
    go_wp2
    go_ret2
    exact ⟨ret_ni (by rw [HC.out]; rfl) (by rw [HC.out]), Below.refl _ _⟩
  · have q1 : ¬ (1024 : Int) < (t.length : Int) := by omega
    have HM := hid hm
    have H := hid h
    have HLI := hid hl
    clear h hm hl
    go_enter Try.func42, Try.ntmps42
    go_wp2
    go_loopw [4, 5] (fun s i wr => ∃ k : Nat, i = .int .i64 k ∧ k ≤ t.length ∧ s = .int .i64 (szP (t.take k) : Nat) ∧ entTo t k ∧ Below w.heap.size w wr) (fun _ i _ => t.length - (intOf i).toNat)
    case atStart => exact ⟨0, rfl, Nat.zero_le _, rfl, fun j hj => by omega, Below.refl _ _⟩
    case round =>
      obtain ⟨k, rfl, hk, rfl, het, hb⟩ := hrel
      have HET := hid het
      have HB := hid hb
      clear het hb
      by_cases hlt : k < t.length
      · have q2 : (k : Int) < (t.length : Int) := by omega
        have HEN := hid (H.out.below HB.out)
        obtain ⟨g, o, rfl, hgl, hcell⟩ := HEN.out.at k hlt
        obtain ⟨e, HE⟩ : ∃ e, Hid (t.getD k zE = e) := ⟨_, rfl⟩
        have hle := HLI.out.at hlt
        rw [HE.out] at hcell hle
        obtain ⟨c0, c1, c2⟩ := hcell
        have HLE := hid hle
        have HBAD := hid (fun (hne : entN (t.take k) e ≠ 0) => chkP_bad (by have := HM.out; omega) HET.out hlt (by rw [HE.out]; exact hne))
        rw [HE.out] at HBAD
        have HMY := hid (rmay_any e wr hle.1)
        unfold entA at HMY
        have HGL := hid hgl
        clear hle
        go_wp2_with fail
        refine HMY.out.mono ?_
        rintro r w2 ⟨rfl, hb2⟩
        have HEN2 := hid (HEN.out.below hb2)
        have HB2 := hid (HB.out.trans (hb2.mono HB.out.size))
        have HG2 := hid (Nat.lt_of_lt_of_le HGL.out hb2.size)
        have HC0 := hid ((hb2.cell (p := ⟨g, o + k * 3, none⟩) HGL.out).trans c0)
        have HC2 := hid ((hb2.cell (p := ⟨g, o + k * 3 + 2, none⟩) HGL.out).trans c2)
        clear hb2 HMY HEN HB HGL hgl c0 c1 c2
        cases hmy : mayP e with
        | false =>
          have HN := hid (entN_may (pre := t.take k) hmy)
          have HX := hid (HBAD.out (by rw [HN.out]; decide))
          rw [HN.out] at HX
          clear hmy
          go_wp2
          go_ret2
          exact ⟨ret_ni (by rw [HX.out]) (by rw [HX.out]), HB2.out⟩
        | true =>
          have HMY := hid hmy
          have HOK := hid (mayP_ok hmy)
          clear hmy
          have ib : Nonempty (Bel w2) := bel_some w2
          have c0 := fun p : Bel w2 => p.cell HC0.out HG2.out
          have HRIS := hid (entTo_ris hk HET.out)
          obtain ⟨L, HL⟩ : ∃ L, Hid (((t.take k).getLastD zE).1 = L) := ⟨_, rfl⟩
          obtain ⟨X, HX⟩ : ∃ X, Hid (ltP L e.1 = X) := ⟨_, rfl⟩
          rcases Nat.eq_zero_or_pos k with hk0 | hk0
          case' inl =>
            have hd : decide (0 < k) = false := by simp; omega
            have hd' : ¬ 0 < k := by omega
            have HX0 : Hid (X = true) := by
              rw [← HX.out, ← HL.out, hk0]
              show ltP [] e.1 = true
              rw [ltP_iff okP_nil HOK.out, nms_e, cmpL_nil (mayP_nms HMY.out)]
              omega
            clear hk0
            go_wp2_with fail
            refine wp_region_quiet_bel (by kernel_rfl) (by kernel_rfl) ?_
            repeat (go_big_quiet_step (fail))
            refine wpQuiet_nil ?_
            rintro w3 ⟨⟨w3', hb3⟩, hw3⟩
            obtain rfl : w3 = w3' := hw3
          case' inr =>
            have hd : decide (0 < k) = true := by simp; omega
            have hd' : 0 < k := hk0
            obtain ⟨I, HI⟩ : ∃ I : Nat, Hid (I = k - 1) := ⟨_, rfl⟩
            have i1 : IntKind.i64.wrap ((k : Int) - 1) = (I : Int) := by rw [IntKind.wrap_i64, HI.out]; omega
            have q3 : (I : Int) < (t.length : Int) := by rw [HI.out]; omega
            obtain ⟨g', o', hgg, hgl', hcell'⟩ := HEN2.out.at I (by rw [HI.out]; omega)
            have hgg' : g = g' ∧ o = o' := by injection hgg with h; injection h with h1 h2; exact ⟨h1, h2⟩
            obtain ⟨rfl, rfl⟩ := hgg'
            have hLI : (t.getD I zE).1 = L := by
              rw [← HL.out]
              have := lastD_take (t := t) (j := I) (by rw [HI.out]; omega)
              rw [show I + 1 = k by rw [HI.out]; omega] at this
              rw [this]
            have hx0 := hcell'.1
            rw [hLI] at hx0
            have hxp := fun p : Bel w2 => p.cell hx0 HG2.out
            have HLS := hid (fun p : Bel w2 => rless_any L e.1 p.out (by rw [← HL.out]; have := okP_short (last_ok HRIS.out.1.may); omega) HLE.out.1)
            rw [HX.out] at HLS
            clear hcell' hx0 hLI hk0 hgg hgl'
            go_wp2_with fail
            refine wp_region_quiet_bel (by kernel_rfl) (by kernel_rfl) ?_
            repeat (go_big_quiet_step (first | (go_at_call 64; exact bel_of (HLS.out _))))
            refine wpQuiet_nil ?_
            rintro w3 ⟨⟨w3', hb3⟩, hw3⟩
            obtain rfl : w3 = w3' := hw3
          all_goals
            have HEN3 := hid (HEN2.out.below hb3)
            have HB3 := hid (HB2.out.trans (hb3.mono HB2.out.size))
            have HG3 := hid (Nat.lt_of_lt_of_le HG2.out hb3.size)
            have HC03 := hid ((hb3.cell (p := ⟨g, o + k * 3, none⟩) HG2.out).trans HC0.out)
            have HC23 := hid ((hb3.cell (p := ⟨g, o + k * 3 + 2, none⟩) HG2.out).trans HC2.out)
            clear hb3 ib c0 HB2 HG2 HC0 HC2 hd hd'
            cases hXX : X with
            | false =>
              have HN := hid (entN_lt (pre := t.take k) HMY.out (by rw [HL.out, HX.out]; exact hXX))
              have HY := hid (HBAD.out (by rw [HN.out]; decide))
              rw [HN.out] at HY
              first
                | (have h0 := HX0.out; rw [hXX] at h0; cases h0; done)
                | (clear hXX
                   go_wp2
                   go_ret2
                   exact ⟨ret_ni (by rw [HY.out]) (by rw [HY.out]), HB3.out⟩)
            | true =>
              have HLT := hid (show ltP ((t.take k).getLastD zE).1 e.1 = true by rw [HL.out, HX.out]; exact hXX)
              obtain ⟨vx, hvx, hsl⟩ := ecut_to HEN3.out k hk
              obtain ⟨Y, HY⟩ : ∃ Y, Hid (dirP (t.take k) (spD e.1) = Y) := ⟨_, rfl⟩
              have HUP := hid (fun p : Bel w3 => rup_any e.1 p.out HLE.out.1)
              have HID := hid (fun p : Bel w3 => risdir_any vx (t.take k) (spD e.1) p.out (hvx.below p.bel) (by rw [List.length_take]; omega))
              rw [HY.out] at HID
              have d0 := fun p : Bel w3 => p.cell HC03.out HG3.out
              have ib3 : Nonempty (Bel w3) := bel_some w3
              clear hXX hvx
              go_wp2_with fail
              refine wp_region_quiet_bel (by kernel_rfl) (by kernel_rfl) ?_
              repeat (go_big_quiet_step (first | (go_at_call 66; exact bel_of (HUP.out _)) | (go_at_call 65; exact bel_same (HID.out _))))
              refine wpQuiet_nil ?_
              rintro w4 ⟨⟨w4', hb4⟩, hw4⟩
              obtain rfl : w4 = w4' := hw4
              have HB4 := hid (HB3.out.trans (hb4.mono HB3.out.size))
              have c2 := (hb4.cell (p := ⟨g, o + k * 3 + 2, none⟩) HG3.out).trans HC23.out
              clear hb4 ib3 d0 HUP HID hsl HEN3 HB3 HG3 HC03 HC23
              cases hYY : Y with
              | false =>
                have HN := hid (entN_dir (pre := t.take k) HMY.out HLT.out (by rw [HY.out]; exact hYY))
                have HZ := hid (HBAD.out (by rw [HN.out]; decide))
                rw [HN.out] at HZ
                clear hYY
                go_wp2
                go_ret2
                exact ⟨ret_ni (by rw [HZ.out]) (by rw [HZ.out]), HB4.out⟩
              | true =>
                have HDR := hid (show dirP (t.take k) (spD e.1) = true by rw [HY.out]; exact hYY)
                obtain ⟨S, HSS⟩ : ∃ S : Nat, Hid (szP (t.take k) = S) := ⟨_, rfl⟩
                obtain ⟨D, HDD⟩ : ∃ D : Nat, Hid (e.2.2.length = D) := ⟨_, rfl⟩
                obtain ⟨M, HMM⟩ : ∃ M : Nat, Hid (M = S + D) := ⟨_, rfl⟩
                rw [HSS.out]
                have hS := HRIS.out.2
                rw [HSS.out] at hS
                have hD := HLE.out.2
                rw [HDD.out] at hD
                have hds : (mk e.2.2).size = D := by rw [mk_size]; exact HDD.out
                have hw1 : IntKind.i64.wrap ((S : Int) + (D : Int)) = (M : Int) := by rw [IntKind.wrap_i64, HMM.out]; omega
                clear hYY
                generalize mk e.2.2 = sd at *
                by_cases hbig : 1048576 < M
                · have q4 : (1048576 : Int) < (M : Int) := by omega
                  have HN := hid (entN_big (pre := t.take k) HMY.out HLT.out HDR.out (by rw [HSS.out, HDD.out, ← HMM.out]; exact hbig))
                  have HZ := hid (HBAD.out (by rw [HN.out]; decide))
                  rw [HN.out] at HZ
                  clear hbig
                  go_wp2
                  go_ret2
                  exact ⟨ret_ni (by rw [HZ.out]) (by rw [HZ.out]), HB4.out⟩
                · have q4 : ¬ (1048576 : Int) < (M : Int) := by omega
                  have HN := hid (entN_of (pre := t.take k) HMY.out HLT.out HDR.out (by rw [HSS.out, HDD.out, ← HMM.out]; omega))
                  have HSN := hid (show szP (t.take (k + 1)) = M by rw [take_snoc t k hlt, szP_snoc, HE.out, HSS.out, HDD.out, HMM.out])
                  have HET2 := hid (show entTo t (k + 1) from fun j hj => by
                    by_cases hjk : j = k
                    · subst hjk; rw [HE.out]; exact HN.out
                    · exact HET.out j (by omega))
                  clear hbig
                  go_wp2
                  exact ⟨⟨k + 1, by simp, by omega, by rw [HSN.out], HET2.out, HB4.out⟩, by simp [intOf]; omega⟩
      · have q2 : ¬ (k : Int) < (t.length : Int) := by omega
        obtain rfl : k = t.length := by omega
        have HCO := hid (chkP_ok (by have := HM.out; omega) HET.out)
        go_wp2
        go_ret2
        exact ⟨ret_ni (by rw [HCO.out]; rfl) (by rw [HCO.out]), HB.out⟩

end Go.Proofs.Ytgldmepmeampeab

/- Make, plainly: the directories that lack, and the tree. -/
namespace Go.Proofs.Ytgldmepmeampeab

/-- the directories that a path stands in -/
def ancs (p : List UInt8) : List (List UInt8) := (List.range ((nms p).length - 1)).map (fun j => txt ((nms p).take (j + 1)))
/-- each once -/
def ndp : List (List UInt8) → List (List UInt8)
  | [] => []
  | a :: l => if a ∈ l then ndp l else a :: ndp l
theorem mem_ndp {a : List UInt8} : ∀ {l : List (List UInt8)}, a ∈ ndp l ↔ a ∈ l
  | [] => by simp [ndp]
  | b :: l => by
    rw [ndp]
    split
    · rename_i h
      rw [mem_ndp, List.mem_cons]
      constructor
      · exact Or.inr
      · rintro (rfl | h1)
        · exact h
        · exact h1
    · rw [List.mem_cons, List.mem_cons, mem_ndp]
theorem nodup_ndp : ∀ (l : List (List UInt8)), (ndp l).Nodup
  | [] => List.nodup_nil
  | b :: l => by
    rw [ndp]
    split
    · exact nodup_ndp l
    · rename_i h
      rw [List.nodup_cons, mem_ndp]
      exact ⟨h, nodup_ndp l⟩
theorem nodup_le : ∀ {a b : List (List UInt8)}, a.Nodup → (∀ x ∈ a, x ∈ b) → a.length ≤ b.length
  | [], _, _, _ => by simp
  | x :: a, b, h, hs => by
    rw [List.nodup_cons] at h
    have h1 := nodup_le (a := a) (b := b.erase x) h.2 (fun y hy => by
      have hne : y ≠ x := fun e => h.1 (e ▸ hy)
      exact (List.mem_erase_of_ne hne).2 (hs y (by simp [hy])))
    have h2 := hs x (by simp)
    rw [List.length_erase_of_mem h2] at h1
    have := List.length_pos_of_mem h2
    simp
    omega

/-- is one of them no directory where another one's must be? -/
def wrongP (l : List Ent) : Bool := l.any (fun e => l.any (fun x => decide (x.1 ∈ ancs e.1) && decide (x.2.1 ≠ 2)))
/-- the directories that lack -/
def lackL (l : List Ent) : List (List UInt8) := ndp ((l.flatMap (fun e => ancs e.1)).filter (fun d => l.all (fun y => decide (y.1 ≠ d))))
def dirE (d : List UInt8) : Ent := (d, 2, [])
/-- rising -/
def sortE (l : List Ent) : List Ent := l.mergeSort (fun a b => decide (cmpL (nms a.1) (nms b.1) ≤ 0))
def mkP (l : List Ent) : Except Int (List Ent) :=
  if l.all mayP = false then .error 50 else if ¬ (l.map (·.1)).Nodup then .error 9 else if wrongP l = true then .error 52
  else if 1024 < l.length + (lackL l).length then .error 53 else if 1048576 < szP l then .error 54 else .ok (sortE (l ++ (lackL l).map dirE))

theorem mem_ancs {p d : List UInt8} : d ∈ ancs p ↔ ∃ j, 1 ≤ j ∧ j < (nms p).length ∧ d = txt ((nms p).take j) := by
  unfold ancs
  rw [List.mem_map]
  constructor
  · rintro ⟨j, hj, rfl⟩
    rw [List.mem_range] at hj
    exact ⟨j + 1, by omega, by omega, rfl⟩
  · rintro ⟨j, h1, h2, rfl⟩
    exact ⟨j - 1, by rw [List.mem_range]; omega, by rw [Nat.sub_add_cancel h1]⟩
theorem wrongP_iff {l : List Ent} : wrongP l = true ↔ ∃ e ∈ l, ∃ x ∈ l, x.1 ∈ ancs e.1 ∧ x.2.1 ≠ 2 := by
  unfold wrongP
  simp only [List.any_eq_true, Bool.and_eq_true, decide_eq_true_iff]
theorem mem_lackL {l : List Ent} {d : List UInt8} : d ∈ lackL l ↔ (∃ e ∈ l, d ∈ ancs e.1) ∧ ∀ y ∈ l, y.1 ≠ d := by
  unfold lackL
  rw [mem_ndp, List.mem_filter, List.mem_flatMap]
  simp only [List.all_eq_true, decide_eq_true_iff]
theorem nodup_lackL (l : List Ent) : (lackL l).Nodup := nodup_ndp _
theorem nodup_same {a b : List (List UInt8)} (ha : a.Nodup) (hb : b.Nodup) (h : ∀ x, x ∈ a ↔ x ∈ b) : a.length = b.length :=
  Nat.le_antisymm (nodup_le ha (fun x hx => (h x).1 hx)) (nodup_le hb (fun x hx => (h x).2 hx))

/-- rising entries are known by what they are -/
theorem pair_ext : ∀ {a b : List Ent}, a.Pairwise ltE → b.Pairwise ltE → (∀ e, e ∈ a ↔ e ∈ b) → a = b
  | [], [], _, _, _ => rfl
  | [], y :: b, _, _, h => absurd ((h y).2 (by simp)) (by simp)
  | x :: a, [], _, _, h => absurd ((h x).1 (by simp)) (by simp)
  | x :: a, y :: b, ha, hb, h => by
    rw [List.pairwise_cons] at ha hb
    have hxy : x = y := by
      have h1 := (h x).1 (by simp)
      have h2 := (h y).2 (by simp)
      rw [List.mem_cons] at h1 h2
      rcases h1 with h1 | h1
      · exact h1
      · rcases h2 with h2 | h2
        · exact h2.symm
        · exact absurd (ltE_trans (ha.1 y h2) (hb.1 x h1)) ltE_irrefl
    subst hxy
    congr 1
    refine pair_ext ha.2 hb.2 (fun e => ?_)
    have := h e
    rw [List.mem_cons, List.mem_cons] at this
    constructor
    · intro he
      rcases this.1 (Or.inr he) with rfl | h1
      · exact absurd (ha.1 e he) ltE_irrefl
      · exact h1
    · intro he
      rcases this.2 (Or.inr he) with rfl | h1
      · exact absurd (hb.1 e he) ltE_irrefl
      · exact h1
theorem sortE_perm (l : List Ent) : (sortE l).Perm l := List.mergeSort_perm _ _
theorem mem_sortE {l : List Ent} {e : Ent} : e ∈ sortE l ↔ e ∈ l := List.mem_mergeSort
theorem sortE_up {l : List Ent} (h : (l.map (·.1)).Nodup) : (sortE l).Pairwise ltE := by
  have h1 : (sortE l).Pairwise (fun a b => decide (cmpL (nms a.1) (nms b.1) ≤ 0) = true) := by
    unfold sortE
    apply List.pairwise_mergeSort
    · intro a b c hab hbc
      simp only [decide_eq_true_iff] at *
      exact cmpL_trans _ _ _ hab hbc
    · intro a b
      have := cmpL_anti (nms a.1) (nms b.1)
      simp only [Bool.or_eq_true, decide_eq_true_iff]
      omega
  have h2 : ((sortE l).map (·.1)).Nodup := ((sortE_perm l).map _).nodup_iff.2 h
  rw [List.Nodup, List.pairwise_map] at h2
  refine (h1.and h2).imp ?_
  rintro a b ⟨e1, e2⟩
  rw [decide_eq_true_iff] at e1
  unfold ltE
  rcases cmpL_range (nms a.1) (nms b.1) with e | e | e
  · omega
  · exact absurd (nms_inj (cmpL_zero e)) e2
  · omega
theorem pair_nodup {t : List Ent} (h : t.Pairwise ltE) : (t.map (·.1)).Nodup := by
  rw [List.Nodup, List.pairwise_map]
  exact h.imp (fun h => ltE_ne h)
theorem sortE_uniq {t l : List Ent} (h : t.Pairwise ltE) (hl : (l.map (·.1)).Nodup) (hm : ∀ e, e ∈ t ↔ e ∈ l) : t = sortE l :=
  pair_ext h (sortE_up hl) (fun e => by rw [hm, mem_sortE])
theorem sortE_same {a b : List Ent} (ha : (a.map (·.1)).Nodup) (hb : (b.map (·.1)).Nodup) (hm : ∀ e, e ∈ a ↔ e ∈ b) : sortE a = sortE b :=
  sortE_uniq (sortE_up ha) hb (fun e => by rw [mem_sortE, hm])
theorem nd_uniq : ∀ {t : List Ent}, (t.map (·.1)).Nodup → ∀ {a b : Ent}, a ∈ t → b ∈ t → a.1 = b.1 → a = b
  | [], _, _, _, h, _, _ => by cases h
  | x :: t, hp, a, b, ha, hb, e => by
    rw [List.map_cons, List.nodup_cons] at hp
    rw [List.mem_cons] at ha hb
    rcases ha with rfl | ha
    · rcases hb with rfl | hb
      · rfl
      · exact absurd (List.mem_map.2 ⟨b, hb, e.symm⟩) hp.1
    · rcases hb with rfl | hb
      · exact absurd (List.mem_map.2 ⟨a, ha, e⟩) hp.1
      · exact nd_uniq hp.2 ha hb e
theorem fdP_nd {t : List Ent} (h : (t.map (·.1)).Nodup) {e : Ent} (he : e ∈ t) : fdP t e.1 = some e := by
  cases hf : fdP t e.1 with
  | none => exact absurd rfl (fdP_none.1 hf e he)
  | some x =>
    obtain ⟨h1, h2⟩ := fdP_some hf
    rw [nd_uniq h h1 he h2]

/-- what stands at a path of the entries and of the directories that were put in -/
def lookK (l : List Ent) (ds : List (List UInt8)) (p : List UInt8) : Int := match fdP l p with
  | some e => e.2.1
  | none => if p ∈ ds then 2 else 0
def Cl (l : List Ent) (ds : List (List UInt8)) (p : List UInt8) : Prop := spD p = [] ∨ lookK l ds (spD p) = 2
theorem lookK_more {l : List Ent} {ds : List (List UInt8)} {p : List UInt8} (x : List UInt8) (h : lookK l ds p = 2) : lookK l (ds ++ [x]) p = 2 := by
  unfold lookK at *
  split at h
  · exact h
  · split at h
    · rename_i hp
      rw [if_pos (by simp [hp])]
    · omega
theorem Cl.more {l : List Ent} {ds : List (List UInt8)} {p : List UInt8} (h : Cl l ds p) (x : List UInt8) : Cl l (ds ++ [x]) p := h.imp id (lookK_more x)
theorem lookK_new {l : List Ent} {ds : List (List UInt8)} {x : List UInt8} (h : lookK l ds x = 0) (hm : ∀ e ∈ l, mayP e = true) : (∀ y ∈ l, y.1 ≠ x) ∧ x ∉ ds ∧ lookK l (ds ++ [x]) x = 2 := by
  unfold lookK at *
  split at h
  · rename_i e he
    have := hm e (fdP_some he).1
    unfold mayP at this
    simp at this
    omega
  · rename_i hn
    split at h
    · omega
    · rename_i hp
      exact ⟨fdP_none.1 hn, hp, by simp⟩

/-- how far the directories that lack are put in: of the entries ahead of k; q: where the way up has come -/
structure Lck (l : List Ent) (k : Nat) (ds : List (List UInt8)) (q : Option (List UInt8)) : Prop where
  nd : ds.Nodup
  new : ∀ d ∈ ds, ∀ y ∈ l, y.1 ≠ d
  need : ∀ d ∈ ds, ∃ e ∈ l, d ∈ ancs e.1
  cl : ∀ e ∈ l.take k, q = some e.1 ∨ Cl l ds e.1
  cd : ∀ d ∈ ds, q = some d ∨ Cl l ds d
theorem Lck.start (l : List Ent) : Lck l 0 [] none :=
  ⟨List.nodup_nil, fun d h => (by cases h), fun d h => (by cases h), fun e h => (by simp at h), fun d h => (by cases h)⟩
/-- the next entry -/
theorem Lck.begin {l : List Ent} {k : Nat} {ds : List (List UInt8)} (h : Lck l k ds none) (hk : k < l.length) : Lck l (k + 1) ds (some (l.getD k zE).1) := by
  refine ⟨h.nd, h.new, h.need, ?_, fun d hd => Or.inr ((h.cd d hd).resolve_left (by simp))⟩
  intro e he
  rw [take_snoc l k hk, List.mem_append, List.mem_singleton] at he
  rcases he with he | rfl
  · exact Or.inr ((h.cl e he).resolve_left (by simp))
  · exact Or.inl rfl
/-- one directory up -/
theorem Lck.put {l : List Ent} {k : Nat} {ds : List (List UInt8)} {q : List UInt8} (h : Lck l k ds (some q)) (hm : ∀ e ∈ l, mayP e = true) (hn : ∃ e ∈ l, spD q ∈ ancs e.1) (h0 : lookK l ds (spD q) = 0) : Lck l k (ds ++ [spD q]) (some (spD q)) := by
  obtain ⟨h1, h2, h3⟩ := lookK_new h0 hm
  refine ⟨?_, ?_, ?_, ?_, ?_⟩
  · rw [List.nodup_append]
    refine ⟨h.nd, by simp, fun a ha b hb => ?_⟩
    rw [List.mem_singleton] at hb
    subst hb
    rintro rfl
    exact h2 ha
  · intro d hd
    rw [List.mem_append, List.mem_singleton] at hd
    rcases hd with hd | rfl
    · exact h.new d hd
    · exact h1
  · intro d hd
    rw [List.mem_append, List.mem_singleton] at hd
    rcases hd with hd | rfl
    · exact h.need d hd
    · exact hn
  · intro e he
    rcases h.cl e he with h4 | h4
    · right
      have := Option.some.inj h4
      subst this
      exact Or.inr h3
    · exact Or.inr (h4.more _)
  · intro d hd
    rw [List.mem_append, List.mem_singleton] at hd
    rcases hd with hd | rfl
    · rcases h.cd d hd with h4 | h4
      · right
        have := Option.some.inj h4
        subst this
        exact Or.inr h3
      · exact Or.inr (h4.more _)
    · exact Or.inl rfl
/-- the way up ends -/
theorem Lck.stop {l : List Ent} {k : Nat} {ds : List (List UInt8)} {q : List UInt8} (h : Lck l k ds (some q)) (hc : Cl l ds q) : Lck l k ds none := by
  refine ⟨h.nd, h.new, h.need, ?_, ?_⟩
  · intro e he
    rcases h.cl e he with h4 | h4
    · have := Option.some.inj h4
      subst this
      exact Or.inr hc
    · exact Or.inr h4
  · intro d hd
    rcases h.cd d hd with h4 | h4
    · have := Option.some.inj h4
      subst this
      exact Or.inr hc
    · exact Or.inr h4
theorem ancs_ok {p d : List UInt8} (h : okP p = true) (hd : d ∈ ancs p) : okP d = true ∧ d ≠ [] := by
  obtain ⟨j, h1, h2, rfl⟩ := mem_ancs.1 hd
  have hp := (okP_iff p).1 h
  have hn : ∀ x ∈ (nms p).take j, nmP x = true := fun x hx => hp.1 x (List.mem_of_mem_take hx)
  refine ⟨okP_txt ⟨hn, by have := hp.2; simp; omega⟩, txt_ne hn ?_⟩
  intro e
  have := congrArg List.length e
  rw [List.length_take, List.length_nil] at this
  omega
/-- what a path, or one of its directories, stands in -/
theorem ancs_up {p q : List UInt8} (h : okP p = true) (hq : q = p ∨ q ∈ ancs p) (h0 : spD q ≠ []) : spD q ∈ ancs p := by
  rcases hq with rfl | hq
  · rw [mem_ancs]
    have hn : nms q ≠ [] := by
      intro e
      apply h0
      rw [spD_nms h, e]
      rfl
    have hl := List.length_pos_iff.2 hn
    refine ⟨(nms q).length - 1, ?_, by omega, by rw [spD_nms h, List.dropLast_eq_take]⟩
    rcases Nat.lt_or_ge 1 (nms q).length with h1 | h1
    · omega
    · exfalso
      apply h0
      rw [spD_nms h, List.dropLast_eq_take, show (nms q).length - 1 = 0 by omega]
      rfl
  · have hok := (ancs_ok h hq).1
    obtain ⟨j, h1, h2, rfl⟩ := mem_ancs.1 hq
    rw [mem_ancs]
    have e1 : spD (txt ((nms p).take j)) = txt ((nms p).take (j - 1)) := by
      rw [spD_nms hok, nms_take h, List.dropLast_eq_take, List.take_take]
      congr 2
      simp
      omega
    refine ⟨j - 1, ?_, by omega, e1⟩
    rcases Nat.lt_or_ge 1 j with h3 | h3
    · omega
    · exfalso
      apply h0
      rw [e1, show j - 1 = 0 by omega]
      rfl
theorem lookK_two {l : List Ent} {ds : List (List UInt8)} {p : List UInt8} (h : lookK l ds p = 2) : (∃ e ∈ l, e.1 = p ∧ e.2.1 = 2) ∨ ((∀ y ∈ l, y.1 ≠ p) ∧ p ∈ ds) := by
  unfold lookK at h
  split at h
  · rename_i e he
    exact Or.inl ⟨e, (fdP_some he).1, (fdP_some he).2, h⟩
  · rename_i hn
    split at h
    · rename_i hp
      exact Or.inr ⟨fdP_none.1 hn, hp⟩
    · omega
theorem Lck.all {l : List Ent} {ds : List (List UInt8)} (h : Lck l l.length ds none) (hm : ∀ e ∈ l, mayP e = true) {e : Ent} (he : e ∈ l) : ∀ (n j : Nat), (nms e.1).length - j = n → 1 ≤ j → j < (nms e.1).length → lookK l ds (txt ((nms e.1).take j)) = 2
  | 0, j, h1, h2, h3 => by omega
  | n + 1, j, h1, h2, h3 => by
    have hok := mayP_ok (hm e he)
    have step : ∀ p, (p ∈ ds ∨ ∃ y ∈ l, y.1 = p) → okP p = true → nms p = (nms e.1).take (j + 1) → lookK l ds (txt ((nms e.1).take j)) = 2 := by
      intro p hp hokp hnp
      have e2 : spD p = txt ((nms e.1).take j) := by
        rw [spD_nms hokp, hnp, List.dropLast_eq_take, List.take_take]
        congr 2
        simp
        omega
      have hcl : Cl l ds p := by
        rcases hp with hp | ⟨y, hy, rfl⟩
        · exact (h.cd p hp).resolve_left (by simp)
        · exact (h.cl y (by rw [List.take_length]; exact hy)).resolve_left (by simp)
      rw [← e2]
      rcases hcl with h4 | h4
      · exfalso
        have e3 := nms_spD hokp
        rw [h4, nms_e, hnp] at e3
        have := congrArg List.length e3
        simp at this
        omega
      · exact h4
    by_cases hj : j + 1 = (nms e.1).length
    · exact step e.1 (Or.inr ⟨e, he, rfl⟩) hok (by rw [hj, List.take_length])
    · have ih := h.all hm he n (j + 1) (by omega) (by omega) (by omega)
      have hokt : okP (txt ((nms e.1).take (j + 1))) = true := (ancs_ok hok (mem_ancs.2 ⟨j + 1, by omega, by omega, rfl⟩)).1
      rcases lookK_two ih with ⟨y, hy, hy2, _⟩ | ⟨_, hd⟩
      · exact step _ (Or.inr ⟨y, hy, hy2⟩) hokt (nms_take hok _)
      · exact step _ (Or.inl hd) hokt (nms_take hok _)
theorem Lck.done {l : List Ent} {ds : List (List UInt8)} (h : Lck l l.length ds none) (hm : ∀ e ∈ l, mayP e = true) (hn : (l.map (·.1)).Nodup) : wrongP l = false ∧ ds.length = (lackL l).length ∧ ∀ d, d ∈ ds ↔ d ∈ lackL l := by
  have hk : ∀ e ∈ l, ∀ d ∈ ancs e.1, lookK l ds d = 2 := by
    intro e he d hd
    obtain ⟨j, h1, h2, rfl⟩ := mem_ancs.1 hd
    exact h.all hm he _ j rfl h1 h2
  have hmem : ∀ d, d ∈ ds ↔ d ∈ lackL l := by
    intro d
    rw [mem_lackL]
    constructor
    · intro hd
      exact ⟨h.need d hd, h.new d hd⟩
    · rintro ⟨⟨e, he, hd⟩, h2⟩
      rcases lookK_two (hk e he d hd) with ⟨y, hy, hy2, _⟩ | ⟨_, h3⟩
      · exact absurd hy2 (h2 y hy)
      · exact h3
  refine ⟨?_, nodup_same h.nd (nodup_lackL l) hmem, hmem⟩
  rw [Bool.eq_false_iff]
  intro hw
  obtain ⟨e, he, x, hx, h1, h2⟩ := wrongP_iff.1 hw
  have := hk e he _ h1
  unfold lookK at this
  rw [fdP_nd hn hx] at this
  exact h2 this

/-- how far the document's Make has come: which directories were asked for, which were put in -/
structure Rmk (t : List Ent) (dn ds : List (List UInt8)) (many wrong : Bool) : Prop where
  nd : ds.Nodup
  new : ∀ d ∈ ds, ∀ y ∈ t, y.1 ≠ d
  need : ∀ d ∈ ds, d ∈ dn
  hm : many = true → 1024 < t.length + ds.length
  hd : many = false → ∀ d ∈ dn, d ∈ ds ∨ ∃ y ∈ t, y.1 = d
  hw : wrong = true ↔ ∃ d ∈ dn, ∃ x ∈ t, x.1 = d ∧ x.2.1 ≠ 2
theorem Rmk.start (t : List Ent) : Rmk t [] [] false false :=
  ⟨List.nodup_nil, fun d h => (by cases h), fun d h => (by cases h), fun h => (by cases h), fun _ d h => (by cases h), by simp⟩
theorem Rmk.many {t : List Ent} {dn ds : List (List UInt8)} {m w : Bool} (h : Rmk t dn ds m w) (d : List UInt8) (h1 : 1024 < t.length + ds.length) (h2 : ∀ y ∈ t, y.1 ≠ d) : Rmk t (dn ++ [d]) ds true w := by
  refine ⟨h.nd, h.new, fun x hx => by simp [h.need x hx], fun _ => h1, fun e => (by cases e), ?_⟩
  rw [h.hw]
  constructor
  · rintro ⟨x, hx, r⟩
    exact ⟨x, by simp [hx], r⟩
  · rintro ⟨x, hx, y, hy, rfl, hk⟩
    rw [List.mem_append, List.mem_singleton] at hx
    rcases hx with hx | hx
    · exact ⟨_, hx, y, hy, rfl, hk⟩
    · exact absurd hx (h2 y hy)
theorem Rmk.add {t : List Ent} {dn ds : List (List UInt8)} {m w : Bool} (h : Rmk t dn ds m w) (d : List UInt8) (h1 : d ∉ ds) (h2 : ∀ y ∈ t, y.1 ≠ d) : Rmk t (dn ++ [d]) (ds ++ [d]) m w := by
  refine ⟨?_, ?_, ?_, ?_, ?_, ?_⟩
  · rw [List.nodup_append]
    refine ⟨h.nd, by simp, fun a ha b hb => ?_⟩
    rw [List.mem_singleton] at hb
    subst hb
    rintro rfl
    exact h1 ha
  · intro x hx
    rw [List.mem_append, List.mem_singleton] at hx
    rcases hx with hx | rfl
    · exact h.new x hx
    · exact h2
  · intro x hx
    rw [List.mem_append, List.mem_singleton] at hx
    rcases hx with hx | rfl
    · simp [h.need x hx]
    · simp
  · intro e
    have := h.hm e
    simp
    omega
  · intro e x hx
    rw [List.mem_append, List.mem_singleton] at hx
    rcases hx with hx | rfl
    · rcases h.hd e x hx with h3 | h3
      · exact Or.inl (by simp [h3])
      · exact Or.inr h3
    · exact Or.inl (by simp)
  · rw [h.hw]
    constructor
    · rintro ⟨x, hx, r⟩
      exact ⟨x, by simp [hx], r⟩
    · rintro ⟨x, hx, y, hy, rfl, hk⟩
      rw [List.mem_append, List.mem_singleton] at hx
      rcases hx with hx | hx
      · exact ⟨_, hx, y, hy, rfl, hk⟩
      · exact absurd hx (h2 y hy)
theorem Rmk.there {t : List Ent} {dn ds : List (List UInt8)} {m w : Bool} (h : Rmk t dn ds m w) (hn : (t.map (·.1)).Nodup) (x : Ent) (hx : x ∈ t) : Rmk t (dn ++ [x.1]) ds m (w || decide (x.2.1 ≠ 2)) := by
  refine ⟨h.nd, h.new, fun x hx => by simp [h.need x hx], h.hm, ?_, ?_⟩
  · intro e y hy
    rw [List.mem_append, List.mem_singleton] at hy
    rcases hy with hy | rfl
    · exact h.hd e y hy
    · exact Or.inr ⟨x, hx, rfl⟩
  · rw [Bool.or_eq_true, h.hw, decide_eq_true_iff]
    constructor
    · rintro (⟨d, hd, r⟩ | hk)
      · exact ⟨d, by simp [hd], r⟩
      · exact ⟨x.1, by simp, x, hx, rfl, hk⟩
    · rintro ⟨d, hd, y, hy, rfl, hk⟩
      rw [List.mem_append, List.mem_singleton] at hd
      rcases hd with hd | hd
      · exact Or.inl ⟨_, hd, y, hy, rfl, hk⟩
      · right
        rw [← nd_uniq hn hy hx hd]
        exact hk
theorem Rmk.put {t : List Ent} {dn ds : List (List UInt8)} {m w : Bool} (h : Rmk t dn ds m w) (d : List UInt8) (hd : d ∈ ds) : Rmk t (dn ++ [d]) ds m w := by
  refine ⟨h.nd, h.new, fun x hx => by simp [h.need x hx], h.hm, ?_, ?_⟩
  · intro e y hy
    rw [List.mem_append, List.mem_singleton] at hy
    rcases hy with hy | rfl
    · exact h.hd e y hy
    · exact Or.inl hd
  · rw [h.hw]
    constructor
    · rintro ⟨x, hx, r⟩
      exact ⟨x, by simp [hx], r⟩
    · rintro ⟨x, hx, y, hy, rfl, hk⟩
      rw [List.mem_append, List.mem_singleton] at hx
      rcases hx with hx | hx
      · exact ⟨_, hx, y, hy, rfl, hk⟩
      · exact absurd hx (h.new d hd y hy)
/-- which directories were asked for when k entries were gone through -/
def dnAll (t : List Ent) (k : Nat) (dn : List (List UInt8)) : Prop := ∀ d, d ∈ dn ↔ ∃ e ∈ t.take k, d ∈ ancs e.1
theorem Rmk.done {l t : List Ent} {dn ds : List (List UInt8)} {m w : Bool} (h : Rmk t dn ds m w) (hdn : dnAll t t.length dn) (hl : ∀ e, e ∈ t ↔ e ∈ l) :
    w = wrongP l ∧ ((m || decide (1024 < t.length + ds.length)) = decide (1024 < t.length + (lackL l).length)) ∧ (m = false → ds.length = (lackL l).length ∧ ∀ d, d ∈ ds ↔ d ∈ lackL l) := by
  have hdn' : ∀ d, d ∈ dn ↔ ∃ e ∈ l, d ∈ ancs e.1 := by
    intro d
    rw [hdn, List.take_length]
    constructor
    · rintro ⟨e, he, r⟩; exact ⟨e, (hl e).1 he, r⟩
    · rintro ⟨e, he, r⟩; exact ⟨e, (hl e).2 he, r⟩
  have hsub : ∀ d ∈ ds, d ∈ lackL l := by
    intro d hd
    rw [mem_lackL]
    exact ⟨(hdn' d).1 (h.need d hd), fun y hy => h.new d hd y ((hl y).2 hy)⟩
  have hle := nodup_le h.nd hsub
  have hsame : m = false → ds.length = (lackL l).length ∧ ∀ d, d ∈ ds ↔ d ∈ lackL l := by
    intro hm
    have hmem : ∀ d, d ∈ ds ↔ d ∈ lackL l := by
      intro d
      refine ⟨hsub d, fun hd => ?_⟩
      rw [mem_lackL] at hd
      rcases h.hd hm d ((hdn' d).2 hd.1) with h1 | ⟨y, hy, h1⟩
      · exact h1
      · exact absurd h1 (hd.2 y ((hl y).1 hy))
    exact ⟨nodup_same h.nd (nodup_lackL l) hmem, hmem⟩
  refine ⟨?_, ?_, hsame⟩
  · rw [Bool.eq_iff_iff, h.hw, wrongP_iff]
    constructor
    · rintro ⟨d, hd, x, hx, rfl, hk⟩
      obtain ⟨e, he, r⟩ := (hdn' _).1 hd
      exact ⟨e, he, x, (hl x).1 hx, r, hk⟩
    · rintro ⟨e, he, x, hx, r, hk⟩
      exact ⟨x.1, (hdn' _).2 ⟨e, he, r⟩, x, (hl x).2 hx, rfl, hk⟩
  · cases m with
    | true =>
      have := h.hm rfl
      rw [Bool.true_or, eq_comm, decide_eq_true_iff]
      omega
    | false => rw [Bool.false_or, (hsame rfl).1]

end Go.Proofs.Ytgldmepmeampeab

/- A region that draws its order: a head whose operations read and whose callees may make memory, in whatever order; then a tail in its one order. -/
namespace Go.Proofs.Ytgldmepmeampeab
open Go.RowKit
variable {P : Program} {ops : Array Oper} {md : Region.Mode} {C : World → Prop}

/-- so many operations of the head, whichever come up, each quiet in the class; behind them L -/
def HeadQ (P : Program) (md : Region.Mode) (ops : Array Oper) (C : World → Prop) (n : Nat) (L : Array Bool → Act → Prop) : Nat → Array Bool → Act → Prop
  | 0, s, a => L s a
  | f + 1, s, a => Region.ready md ops s ≠ [] ∧ ∀ i ∈ Region.ready md ops s, i < n ∧ qOp P ops C i (HeadQ P md ops C n L f (s.setIfInBounds i true)) a

theorem headQ_any {n g : Nat} {L : Array Bool → Act → Prop} {Q : Exit → Act → World → Prop} (hL : ∀ s a w, C w → L s a → wpAny P md ops Q g s a w) (f : Nat) :
    ∀ (s : Array Bool) (a : Act) (w : World), C w → HeadQ P md ops C n L f s a → wpAny P md ops Q (f + g) s a w := by
  induction f with
  | zero => intro s a w hw h; rw [Nat.zero_add]; exact hL s a w hw h
  | succ f ih =>
    intro s a w hw h
    rw [Nat.add_right_comm]
    refine ⟨fun e => absurd e h.1, fun i hi => ?_⟩
    exact wpOp_of_qOp hw (fun a' w' hw' h' => ih _ a' w' hw' h') (h.2 i hi).2

/-- what may come up may be taken first -/
theorem headQ_first {n i : Nat} {oi : Oper} {v : Value} {L : Array Bool → Act → Prop} (hi : ops[i]? = some oi) (hns : Region.noSelect ops = true)
    (hs : Region.sinkB md ops n = true) (hc : Region.chainB md ops n = true) (hn : n < ops.size) (hin : i < n) (hL : ∀ s a, L s a → ∀ j ∈ Region.ready md ops s, n ≤ j) (f : Nat) :
    ∀ (s : Array Bool) (a : Act), HeadInv md ops n s → (∀ j oj, ops[j]? = some oj → j ≠ i → s.getD j true = false → (∀ e ∈ oj.after, Region.binds md e = true → e.on ≠ i) → oi.apart ops oj = true) →
      i ∈ Region.ready md ops s → YieldsIn P ops C oi v a → HeadQ P md ops C n L f (s.setIfInBounds i true) (a.put oi.dst v) → HeadQ P md ops C n L (f + 1) s a := by
  have sel := Region.noSelect_spec hns
  induction f with
  | zero =>
    intro s a inv _ hr hy H
    refine ⟨fun e => (by rw [e] at hr; cases hr), fun j hj => ?_⟩
    have hjn : j < n := Nat.lt_of_not_le (fun h => tail_waits hs hc hn inv _ i rfl hin (mem_ready.1 hr).1 j h hj)
    refine ⟨hjn, ?_⟩
    by_cases e : j = i
    · subst e; exact hy.qOp hi H
    · exact absurd (hL _ _ H j (ready_mono hj e)) (by omega)
  | succ f ih =>
    intro s a inv hf hr hy H
    have hun := (mem_ready.1 hr).1
    refine ⟨fun e => (by rw [e] at hr; cases hr), fun j hj => ?_⟩
    have hjn : j < n := Nat.lt_of_not_le (fun h => tail_waits hs hc hn inv _ i rfl hin hun j h hj)
    refine ⟨hjn, ?_⟩
    by_cases e : j = i
    · subst e; exact hy.qOp hi H
    · obtain ⟨hju, oj, hoj, hall⟩ := mem_ready.1 hj
      have hno : ∀ x ∈ oj.after, Region.binds md x = true → x.on ≠ i := by
        intro x hx hb he
        have := hall x hx hb
        rw [he, getD_both hun] at this
        cases this
      refine qOp_mono (fun a' h => ih _ a' (inv.set hj hjn) ?_ (ready_mono hr (Ne.symm e)) h.1 ?_) (qOp_put hoj (hf j oj hoj e hju hno) (fun cs b => sel i oi cs b hi) (fun cs b => sel j oj cs b hoj) hy (H.2 j (ready_mono hj e)).2)
      · intro k ok hk hki hu hn'
        refine hf k ok hk hki ?_ hn'
        by_cases hjk : j = k
        · subst hjk; exact hju
        · rwa [getD_set_ne true hjk] at hu
      · rw [Array.setIfInBounds_comm _ _ e]; exact h.2

theorem headQ_lex {n g : Nat} {K : Act → Prop} (hns : Region.noSelect ops = true) (hs : Region.sinkB md ops n = true) (hc : Region.chainB md ops n = true) (hn : n < ops.size) (l : List Oper) :
    ∀ (k : Nat) (s : Array Bool) (a : Act), (∀ j, j < l.length → l[j]? = ops[k + j]?) → k + l.length = n → HeadInv md ops n s → Region.lexHead md ops g l.length k s = true → wpQuiet P ops C K l a →
      HeadQ P md ops C n (fun s' a' => Region.seqB md ops g n s' = true ∧ K a') l.length s a := by
  induction l with
  | nil =>
    intro k s a _ hk _ hB h
    obtain rfl : k = n := by simpa using hk
    exact ⟨hB, h⟩
  | cons o l ih =>
    intro k s a hl hk inv hB h
    have h0 : ops[k]? = some o := by simpa using (hl 0 (by simp)).symm
    simp only [List.length_cons] at hk
    simp only [List.length_cons, Region.lexHead, Bool.and_eq_true] at hB
    have hr : k ∈ Region.ready md ops s := by simpa using hB.1.1
    obtain ⟨v, hy, hK⟩ := yieldsIn_of_qOp (K := wpQuiet P ops C K l) h0 (by unfold qOp; simp only [h0]; exact h)
    refine headQ_first h0 hns hs hc hn (by omega) (fun s' a' hL => seqB_ready hL.1) l.length s a inv (Region.free_spec h0 hB.1.2) hr hy ?_
    refine ih (k + 1) _ _ (fun j hj => ?_) (by omega) (inv.set hr (by omega)) hB.2 hK
    have := hl (j + 1) (by simpa using hj)
    simpa [Nat.add_assoc, Nat.add_comm 1 j] using this

/-- the head quiet in the class 'all that was there is as it was', the tail one by one -/
theorem wp_region_bel_tail {id : Nat} {Q : Exit → Act → World → Prop} {a : Act} {w : World} {l : List Oper} (n : Nat) (hm : P.follows .mixedOrders = true) (hB : Region.lexTailB .any l.toArray n = true)
    (h : wpQuiet P l.toArray (fun w' => ∃ p : Bel w, w' = p.out) (fun a' => ∀ w', (∃ p : Bel w, w' = p.out) → wpList P l.toArray Q (l.drop n) a' w') (l.take n) a) : (Code.region id l.toArray true).wp P Q a w := by
  simp only [Region.lexTailB, Bool.and_eq_true, decide_eq_true_eq] at hB
  obtain ⟨⟨⟨⟨hns, hn⟩, hs⟩, hc⟩, hlex⟩ := hB
  have hn' : n < l.length := by simpa using hn
  have e1 : (l.take n).length = n := by rw [List.length_take]; omega
  have e2 : (l.drop n).length = l.toArray.size - n := by simp
  have inv : HeadInv .any l.toArray n (Array.replicate l.toArray.size false) :=
    ⟨by simp, fun j oj _ hl => (by rw [getD_replicate_false] at hl; cases hl), fun t _ ht => getD_in (by simpa using ht) (getD_replicate_false _ _)⟩
  have H := headQ_lex (md := .any) (g := l.toArray.size - n) hns hs hc hn (l.take n) 0 _ a (fun j hj => by
    rw [e1] at hj
    simp [hj]) (by simpa using e1) inv (by rw [e1]; exact hlex) h
  refine wp_region_any hm ?_
  have := headQ_any (Q := Q) (g := l.toArray.size - n) (fun s a' w' hw' hL => by
    have := wpAny_of_seq (md := .any) (Q' := Q) (l.drop n) n s a' w' (fun j => by simp [List.getElem?_drop]) (by rw [e2]; exact hL.1) (hL.2 w' hw')
    rwa [e2] at this) _ _ _ _ (show ∃ p : Bel w, { w with drawn := w.drawn + 1 } = p.out from ⟨⟨{ w with drawn := w.drawn + 1 }, ⟨rfl, rfl, rfl, Nat.le_refl _, fun _ _ => rfl⟩⟩, rfl⟩) H
  rw [e1, show n + (l.toArray.size - n) = l.toArray.size by omega] at this
  exact this

end Go.Proofs.Ytgldmepmeampeab

/- An answer that is a whole row in a variable. -/
namespace Go.Proofs.Ytgldmepmeampeab
open Go.RowKit
variable {P : Program}

theorem results_cell {fn : Func} {p : Tmp} {ty : TypeId} (h : fn.results = #[.cell p ty]) (tmps : Array Value) (P : Program) (w : World) :
    (results fn tmps).run P w = ((asAddr (tmps.getD p undef)).run P w).andThen fun a w₁ => (loadVar ty a).run P w₁ := by
  simp only [results, h]
  simp [Sem.run_bind, Result.andThen]

/-- the answer is a whole row that lies in a variable -/
theorem ret_row {fn : Func} {R : Ending → World → Prop} {a : Act} {w : World} (p : Tmp) (ty : TypeId) (h : fn.results = #[.cell p ty]) (g : Nat) (hp : a.tmps.getD p undef = .pointer (some ⟨g, 0, none⟩))
    (cs : List Value) (t : TypeId) (hb : w.heap[g]? = some (.cells cs.toArray t (0, 0))) (d : TypeDesc) (hu : P.underlying ty = some d) (hd : d.isRow = true) (hi : (P.info? ty).map (·.size) = some cs.length)
    (hdf : a.defers = []) (hR : R (.returned (.agg cs.toArray)) w) : bodyPost P fn R .ret a w := by
  refine bodyPost_ret (v := .agg cs.toArray) ?_ hdf hR
  rw [results_cell h, hp]
  have := run_loadVar_mid (P := P) w g 0 ty cs d (fun j v hv => by rw [Nat.zero_add, cell_of_row w g j cs.toArray t (0, 0) hb]; simpa using hv) hu hd hi
  simp [asAddr, this]

end Go.Proofs.Ytgldmepmeampeab

/- Clone, ownEntry, bytesOf, right, Size. -/
namespace Go.Proofs.Ytgldmepmeampeab
open Go.RowKit Go.BigFrame

set_option maxHeartbeats 1000000 in
theorem clone_any (s : ByteArray) (w : World) (hs : s.size ≤ 281474976710656) :
    Calls Try.prog 46 #[.string s] w fun e w' => e = .returned (.string s) ∧ Below w.heap.size w w' := by
  have H := hid (Try.stringslite_Clone s · hs)
  clear hs
  go_enter Try.func46, Try.ntmps46
  go_wp2_with (go_at_call 68; refine (H.out _).mono ?_; rintro e w' ⟨rfl, hb⟩)
  go_ret
  exact ⟨rfl, hb⟩

/-- an entry's texts are not too long for the copy -/
def Shr (e : Ent) : Prop := e.1.length ≤ 281474976710656 ∧ e.2.2.length ≤ 281474976710656

set_option maxRecDepth 100000 in
set_option maxHeartbeats 2000000 in
theorem ownEntry_any (e : Ent) (w : World) (hs : Shr e) :
    Calls Try.prog 39 #[entA e] w fun r w' => r = .returned (entA e) ∧ Below w.heap.size w w' := by
  have H1 := hid (clone_any (mk e.1) · (by rw [mk_size]; exact hs.1))
  have H2 := hid (clone_any (mk e.2.2) · (by rw [mk_size]; exact hs.2))
  have HB := hid (below_walk2 w (.cells #[.string (mk e.1), .int .i64 e.2.1, .string (mk e.2.2)] 35) (.cells #[.string ⟨#[]⟩, .int .i64 0, .string ⟨#[]⟩] 35))
  have HE := hid ((Eb.new w e).below (below_walk (w.alloc (.cells #[.string (mk e.1), .int .i64 e.2.1, .string (mk e.2.2)] 35)) (.cells #[.string ⟨#[]⟩, .int .i64 0, .string ⟨#[]⟩] 35)))
  have HN := hid (hp_new (w.alloc (.cells #[.string (mk e.1), .int .i64 e.2.1, .string (mk e.2.2)] 35)) (.cells #[.string ⟨#[]⟩, .int .i64 0, .string ⟨#[]⟩] 35))
  have HSZ := hid (show ((w.alloc (.cells #[.string (mk e.1), .int .i64 e.2.1, .string (mk e.2.2)] 35)).alloc (.cells #[.string ⟨#[]⟩, .int .i64 0, .string ⟨#[]⟩] 35)).heap.size = w.heap.size + 2 by simp)
  rw [show (w.alloc (.cells #[.string (mk e.1), .int .i64 e.2.1, .string (mk e.2.2)] 35)).heap.size = w.heap.size + 1 by simp] at HN
  clear hs
  unfold entA
  generalize hsp : mk e.1 = sp at H1 HB HE HN HSZ ⊢
  generalize hsd : mk e.2.2 = sd at H2 HB HE HN HSZ ⊢
  have HP1 := hid hsp
  have HP2 := hid hsd
  clear hsp hsd
  go_enter Try.func39, Try.ntmps39
  go_wp2_with fail
  generalize (w.alloc (.cells #[.string sp, .int .i64 e.2.1, .string sd] 35)).alloc (.cells #[.string ⟨#[]⟩, .int .i64 0, .string ⟨#[]⟩] 35) = wz at *
  have HL := hid (show w.heap.size < wz.heap.size by rw [HSZ.out]; omega)
  obtain ⟨x0, x1, x2⟩ := HE.out.at
  rw [HP1.out] at x0
  rw [HP2.out] at x2
  have c0 := fun p : Bel wz => p.cell x0 HL.out
  have c1 := fun p : Bel wz => p.cell x1 HL.out
  have c2 := fun p : Bel wz => p.cell x2 HL.out
  have ib : Nonempty (Bel wz) := bel_some wz
  clear x0 x1 x2
  refine wp_region_bel_tail 8 (by kernel_rfl) (by kernel_rfl) ?_
  simp only [List.take_succ_cons, List.take_zero, List.drop_succ_cons, List.drop_zero]
  repeat (go_big_quiet_step (first | (go_at_call 46; with_reducible exact bel_of (H1.out _)) | (go_at_call 46; with_reducible exact bel_of (H2.out _))))
  refine wpQuiet_nil ?_
  rintro w3 ⟨⟨w3', hb3⟩, hw3⟩
  obtain rfl : w3 = w3' := hw3
  have HB3 := hid (below_then HB.out hb3)
  have HN3 := hid ((hb3.block (w.heap.size + 1) (by rw [HSZ.out]; omega)).trans HN.out)
  clear hb3 c0 c1 c2 ib HB HN HE
  have g0 := row_cell HN3.out 0
  have g1 := row_cell HN3.out 1
  have g2 := row_cell HN3.out 2
  have f0 := row_fz HN3.out 0
  have f1 := row_fz HN3.out 1
  have f2 := row_fz HN3.out 2
  simp at g0 g1 g2
  go_wp2
  refine ret_row 2 35 rfl (w.heap.size + 1) rfl [.string sp, .int .i64 e.2.1, .string sd] 35 (by rw [blk_set (blk_set (blk_set HN3.out _) _) _]; rfl) _ Try.underlying35 rfl (by kernel_rfl) rfl ⟨rfl, ?_⟩
  exact ((HB3.out.setCell (by simp) _).setCell (by simp) _).setCell (by simp) _

end Go.Proofs.Ytgldmepmeampeab

/- bytesOf, right, Size, own, fit. -/
namespace Go.Proofs.Ytgldmepmeampeab
open Go.RowKit Go.BigFrame

set_option maxRecDepth 100000 in
set_option maxHeartbeats 1000000 in
theorem bytesOf_any (v : Value) (t : List Ent) (w : World) (h : Ents w v t) (hn : t.length ≤ 4611686018427387904) (hz : szP t ≤ 4611686018427387904) :
    Calls Try.prog 47 #[v] w fun r w' => r = .returned (.int .i64 (szP t : Nat)) ∧ Below w.heap.size w w' := by
  obtain ⟨ao, c, rfl⟩ := h.shape
  have H := hid h
  have HZ := hid hz
  clear h hz
  go_enter Try.func47, Try.ntmps47
  go_wp2
  go_loopw [3, 8] (fun s i wr => ∃ k : Nat, i = .int .i64 k ∧ k ≤ t.length ∧ s = .int .i64 (szP (t.take k) : Nat) ∧ Below w.heap.size w wr) (fun _ i _ => t.length - (intOf i).toNat)
  case atStart => exact ⟨0, rfl, Nat.zero_le _, rfl, Below.refl _ _⟩
  case round =>
    obtain ⟨k, rfl, hk, rfl, hb⟩ := hrel
    have HB := hid hb
    clear hb
    by_cases hlt : k < t.length
    · have q2 : (k : Int) < (t.length : Int) := by omega
      obtain ⟨g, o, rfl, hgl, hcell⟩ := (H.out.below HB.out).at k hlt
      obtain ⟨e, HE⟩ : ∃ e, Hid (t.getD k zE = e) := ⟨_, rfl⟩
      rw [HE.out] at hcell
      obtain ⟨c0, c1, c2⟩ := hcell
      have HS := hid (show szP (t.take (k + 1)) = szP (t.take k) + e.2.2.length by rw [take_snoc t k hlt, szP_snoc, HE.out])
      have HT := hid (szP_take t (k + 1))
      obtain ⟨S, HSS⟩ : ∃ S : Nat, Hid (szP (t.take k) = S) := ⟨_, rfl⟩
      obtain ⟨M, HMM⟩ : ∃ M : Nat, Hid (szP (t.take (k + 1)) = M) := ⟨_, rfl⟩
      rw [HSS.out, HMM.out] at HS
      rw [HMM.out] at HT
      rw [HSS.out]
      have hdz : (mk e.2.2).size = e.2.2.length := mk_size _
      obtain ⟨D, HDD⟩ : ∃ D : Nat, Hid (e.2.2.length = D) := ⟨_, rfl⟩
      rw [HDD.out] at hdz HS
      have hw1 : IntKind.i64.wrap ((S : Int) + (D : Int)) = (M : Int) := by rw [IntKind.wrap_i64]; have := HS.out; have := HT.out; have := HZ.out; omega
      have hDl : D ≤ 4611686018427387904 := by have := HS.out; have := HT.out; have := HZ.out; omega
      have HBA := hid (HB.out.alloc HB.out.size (.cells #[.string (mk e.1), .int .i64 e.2.1, .string (mk e.2.2)] 35))
      generalize mk e.2.2 = sd at *
      go_wp2
      exact ⟨⟨k + 1, by simp, by omega, by rw [HMM.out], HBA.out⟩, by simp [intOf]; omega⟩
    · have q2 : ¬ (k : Int) < (t.length : Int) := by omega
      obtain rfl : k = t.length := by omega
      rw [List.take_length]
      go_wp2
      go_ret
      exact ⟨rfl, HB.out⟩

/-- v is a slice whose one or two elements are these trees -/
def Trs (w : World) (v : Value) (ts : List (List Ent)) : Prop :=
  ∃ g c, v = .slice (some ⟨g, 0, none⟩) ts.length c ∧ g < w.heap.size ∧ ∀ j, j < ts.length → ∃ u, w.cell? ⟨g, j, none⟩ = some u ∧ Ents w u (ts.getD j [])
/-- the first error -/
def rgtP : List (List Ent) → Int
  | [] => 0
  | t :: r => if (chkP t).2 = 0 then rgtP r else (chkP t).2
theorem Trs.below {w w' : World} {v : Value} {ts : List (List Ent)} (h : Trs w v ts) (hb : Below w.heap.size w w') : Trs w' v ts := by
  obtain ⟨g, c, hv, hlt, hc⟩ := h
  refine ⟨g, c, hv, Nat.lt_of_lt_of_le hlt hb.size, fun j hj => ?_⟩
  obtain ⟨u, h1, h2⟩ := hc j hj
  exact ⟨u, by rw [hb.cell (p := ⟨g, j, none⟩) hlt]; exact h1, h2.below hb⟩
theorem rgtP_drop (ts : List (List Ent)) (k : Nat) (hk : k < ts.length) : rgtP (ts.drop k) = if (chkP (ts.getD k [])).2 = 0 then rgtP (ts.drop (k + 1)) else (chkP (ts.getD k [])).2 := by
  rw [List.drop_eq_getElem_cons hk, rgtP]
  simp [List.getD_eq_getElem?_getD, hk]

set_option maxRecDepth 100000 in
set_option maxHeartbeats 1000000 in
theorem right_any (v : Value) (ts : List (List Ent)) (w : World) (h : Trs w v ts) (hn : ts.length ≤ 4611686018427387904) (hs : ∀ t ∈ ts, Short t ∧ t.length ≤ 4611686018427387904) :
    Calls Try.prog 20 #[v] w fun r w' => r = .returned (.int .i64 (rgtP ts)) ∧ Below w.heap.size w w' := by
  have H := hid h
  obtain ⟨g, c, rfl, hgl, hcell⟩ := h
  have HC := hid hcell
  have HSH := hid hs
  clear hcell hs
  go_enter Try.func20, Try.ntmps20
  go_wp2
  go_loopw [9] (fun i wr => ∃ k : Nat, i = .int .i64 k ∧ k ≤ ts.length ∧ Hid (rgtP ts = rgtP (ts.drop k)) ∧ Below w.heap.size w wr) (fun i _ => ts.length - (intOf i).toNat)
  case atStart => exact ⟨0, rfl, Nat.zero_le _, rfl, Below.refl _ _⟩
  case round =>
    obtain ⟨k, rfl, hk, HR, hb⟩ := hrel
    have HB := hid hb
    clear hb
    by_cases hlt : k < ts.length
    · have q2 : (k : Int) < (ts.length : Int) := by omega
      obtain ⟨u, hu, hen⟩ := HC.out k hlt
      have hu' : wr.cell? ⟨g, k, none⟩ = some u := by rw [HB.out.cell (p := ⟨g, k, none⟩) hgl]; exact hu
      have hmem : ts.getD k [] ∈ ts := by rw [List.getD_eq_getElem?_getD, List.getElem?_eq_getElem hlt]; exact List.getElem_mem hlt
      have HCK := hid (tcheck_any u (ts.getD k []) wr (hen.below HB.out) (HSH.out _ hmem).1 (HSH.out _ hmem).2)
      have HD := hid (rgtP_drop ts k hlt)
      obtain ⟨ua, uc, hue⟩ := hen.shape
      generalize (ts.getD k []).length = un at hue
      subst hue
      clear hu hen hmem
      obtain ⟨A, HA⟩ : ∃ A : Nat, Hid ((chkP (ts.getD k [])).1 = A) := ⟨_, rfl⟩
      obtain ⟨E, HE⟩ : ∃ E : Int, Hid ((chkP (ts.getD k [])).2 = E) := ⟨_, rfl⟩
      rw [HA.out, HE.out] at HCK
      rw [HE.out] at HD
      go_wp2_with fail
      refine HCK.out.mono ?_
      rintro r w2 ⟨rfl, hb2⟩
      have HB2 := hid (HB.out.trans (hb2.mono HB.out.size))
      clear hb2 HCK hu'
      by_cases h0 : E = 0
      · subst h0
        have HD2 := hid (HR.out.trans (HD.out.trans (if_pos rfl)))
        go_wp2
        exact ⟨⟨k + 1, by simp, by omega, HD2.out, HB2.out⟩, by simp [intOf]; omega⟩
      · have HD2 := hid (HR.out.trans (HD.out.trans (if_neg h0)))
        have e1 : (E == 0) = false := by simpa using h0
        go_wp2
        go_ret
        exact ⟨ret_i HD2.out.symm, HB2.out⟩
    · have q2 : ¬ (k : Int) < (ts.length : Int) := by omega
      have HE := hid (show rgtP (ts.drop k) = 0 by rw [List.drop_eq_nil_of_le (by omega)]; rfl)
      go_wp2
      go_ret
      exact ⟨ret_i (HR.out.trans HE.out).symm, HB.out⟩

theorem trs_one (w : World) (v : Value) (t : List Ent) (T : TypeId) (h : Ents w v t) : Trs (w.alloc (.cells #[v] T)) (.slice (some ⟨w.heap.size, 0, none⟩) 1 1) [t] := by
  refine ⟨w.heap.size, 1, rfl, by simp, fun j hj => ?_⟩
  simp at hj
  subst hj
  exact ⟨v, by simp, h.alloc _⟩
theorem trs_two (w : World) (v u : Value) (t s : List Ent) (T : TypeId) (h : Ents w v t) (k : Ents w u s) : Trs (w.alloc (.cells #[v, u] T)) (.slice (some ⟨w.heap.size, 0, none⟩) 2 2) [t, s] := by
  refine ⟨w.heap.size, 2, rfl, by simp, fun j hj => ?_⟩
  have hj : j = 0 ∨ j = 1 := by simp at hj; omega
  rcases hj with rfl | rfl
  · exact ⟨v, by simp, h.alloc _⟩
  · exact ⟨u, by simp, k.alloc _⟩
/-- right of one tree that was just laid in a row -/
theorem right_one (v : Value) (t : List Ent) (w : World) (h : Ents w v t) (hs : Short t) (hn : t.length ≤ 4611686018427387904) (E : Int) (hE : (chkP t).2 = E) :
    Calls Try.prog 20 #[.slice (some ⟨w.heap.size, 0, none⟩) 1 1] (w.alloc (.cells #[v] 22)) fun r w' => r = .returned (.int .i64 E) ∧ Below w.heap.size w w' := by
  refine (right_any _ [t] _ (trs_one w v t _ h) (by simp) (fun x hx => by rw [List.mem_singleton] at hx; subst hx; exact ⟨hs, hn⟩)).mono ?_
  rintro r w' ⟨rfl, hb⟩
  refine ⟨ret_i ?_, below_then (below_walk _ _) hb⟩
  rw [rgtP, rgtP, hE]
  split
  · rename_i h0; exact h0.symm
  · rfl

set_option maxRecDepth 100000 in
set_option maxHeartbeats 1000000 in
theorem size_any (v : Value) (t : List Ent) (w : World) (h : Ents w v t) (hs : Short t) (hn : t.length ≤ 4611686018427387904) (hz : szP t ≤ 4611686018427387904) :
    Calls Try.prog 23 #[v] w fun r w' => r = .returned (.int .i64 (if (chkP t).2 = 0 then (szP t : Nat) else 0 : Int)) ∧ Below w.heap.size w w' := by
  obtain ⟨E, HE⟩ : ∃ E : Int, Hid ((chkP t).2 = E) := ⟨_, rfl⟩
  have HR := hid (right_one v t w h hs hn E HE.out)
  have HY := hid (fun w' (hb : Below w.heap.size w w') => bytesOf_any v t w' (h.below hb) hn hz)
  rw [HE.out]
  obtain ⟨ao, c, rfl⟩ := h.shape
  clear h hs hz
  by_cases h0 : E = 0
  · subst h0
    rw [if_pos rfl]
    go_enter Try.func23, Try.ntmps23
    go_wp2_with (first | (go_at_call 20; refine HR.out.mono ?_; rintro r w2 ⟨rfl, hb2⟩) | (go_at_call 47; refine (HY.out _ hb2).mono ?_; rintro r w3 ⟨rfl, hb3⟩))
    go_ret
    exact ⟨rfl, below_then hb2 hb3⟩
  · rw [if_neg h0]
    have e1 : (E == 0) = false := by simpa using h0
    go_enter Try.func23, Try.ntmps23
    go_wp2_with (go_at_call 20; refine HR.out.mono ?_; rintro r w2 ⟨rfl, hb2⟩)
    go_ret
    exact ⟨rfl, hb2⟩

end Go.Proofs.Ytgldmepmeampeab

/- own, fit. -/
namespace Go.Proofs.Ytgldmepmeampeab
open Go.RowKit Go.BigFrame

/-- a block that is a row of these entries -/
def Rw (w : World) (g : Nat) (es : List Ent) : Prop := w.heap[g]? = some (.cells (entsV es).toArray 35 (0, 0))
theorem entsV_set (es : List Ent) (k : Nat) (e : Ent) (hk : k < es.length) : (((entsV es).set (k * 3) (.string (mk e.1))).set (k * 3 + 1) (.int .i64 e.2.1)).set (k * 3 + 2) (.string (mk e.2.2)) = entsV (es.set k e) := by
  induction es generalizing k with
  | nil => simp at hk
  | cons x es ih =>
    cases k with
    | zero => simp [entsV_cons, entV]
    | succ k =>
      have hl : (entV x).length = 3 := rfl
      rw [List.set_cons_succ, entsV_cons, entsV_cons, ← ih k (by simpa using hk)]
      have e1 : ∀ (l : List Value) (j : Nat) (u : Value), (entV x ++ l).set (j + 3) u = entV x ++ l.set j u := by
        intro l j u
        rw [List.set_append_right _ _ (by omega), hl, Nat.add_sub_cancel]
      rw [show (k + 1) * 3 = k * 3 + 3 by omega, e1, show k * 3 + 3 + 1 = k * 3 + 1 + 3 by omega, e1, show k * 3 + 3 + 2 = k * 3 + 2 + 3 by omega, e1]
theorem Rw.set {w : World} {g : Nat} {es : List Ent} (h : Rw w g es) (k : Nat) (e : Ent) (hk : k < es.length) :
    Rw (((w.setCell ⟨g, k * 3, none⟩ (.string (mk e.1))).setCell ⟨g, k * 3 + 1, none⟩ (.int .i64 e.2.1)).setCell ⟨g, k * 3 + 2, none⟩ (.string (mk e.2.2))) g (es.set k e) := by
  unfold Rw
  rw [blk_set (blk_set (blk_set h _) _) _, ← entsV_set es k e hk]
  simp
theorem Rw.at {w : World} {g : Nat} {es : List Ent} (h : Rw w g es) (k : Nat) (hk : k < es.length) : EntAt w g (k * 3) (es.getD k zE) := by
  obtain ⟨h0, h1, h2⟩ := entsV_get es k hk
  exact ⟨by rw [row_cell h]; simpa using h0, by rw [row_cell h]; simpa using h1, by rw [row_cell h]; simpa using h2⟩
theorem Rw.own {w : World} {g base : Nat} {es : List Ent} (h : Rw w g es) (hl : es.length ≤ 1099511627776) (hg : base ≤ g) (n : Nat) (hn : n = es.length) : OwnE w base (.slice (some ⟨g, 0, none⟩) n n) es := OwnE.made h hl hg n hn
theorem made_ents (n : Nat) : madeCells #[.string ⟨#[]⟩, .int .i64 0, .string ⟨#[]⟩] (n * 3) = (entsV (List.replicate n zE)).toArray := by
  apply Array.ext
  · rw [size_madeCells]
    simp [entsV_length]
  · intro i h1 h2
    have hi : i < n * 3 := by rw [size_madeCells] at h1; exact h1
    obtain ⟨q, r, hr, rfl⟩ : ∃ q r, r < 3 ∧ i = q * 3 + r := ⟨i / 3, i % 3, by omega, by omega⟩
    have hq : q < (List.replicate n zE).length := by rw [List.length_replicate]; omega
    obtain ⟨e0, e1, e2⟩ := entsV_get (List.replicate n zE) q hq
    have hz : (List.replicate n zE).getD q zE = zE := by
      rw [List.getD_eq_getElem?_getD, List.getElem?_eq_getElem hq, List.getElem_replicate]
      rfl
    rw [hz] at e0 e1 e2
    have hm : (q * 3 + r) % 3 = r := by omega
    have hl : (madeCells #[Value.string ⟨#[]⟩, .int .i64 0, .string ⟨#[]⟩] (n * 3))[q * 3 + r] = (#[Value.string ⟨#[]⟩, .int .i64 0, .string ⟨#[]⟩] : Array Value)[r]! := by
      simp [madeCells, hm]
    rw [hl, List.getElem_toArray]
    have hr3 : r = 0 ∨ r = 1 ∨ r = 2 := by omega
    rcases hr3 with rfl | rfl | rfl
    · exact ((List.getElem?_eq_some_iff.1 e0).2).symm
    · exact ((List.getElem?_eq_some_iff.1 e1).2).symm
    · exact ((List.getElem?_eq_some_iff.1 e2).2).symm
/-- make of so many entries -/
theorem make_ents (n : Nat) (hn : n ≤ 1099511627776) (W : World) : (Instr.makeSlice 22 (.int .i64 (n : Int)) (.int .i64 (n : Int))).run Try.prog W = .ok (.slice (some ⟨W.heap.size, 0, none⟩) n n) (W.alloc (.cells (entsV (List.replicate n zE)).toArray 35)) := by
  obtain ⟨i0, hi, hz0, hz1, hz2⟩ := info_parts Try.infoEnt
  have := run_make (P := Try.prog) W 22 35 i0 _ Try.underlying22 hi hz0 .i64 .i64 (n : Int) (n : Int) (by omega) (by omega) (by rw [hz2]; omega) (by omega)
  rw [this, hz1, Int.toNat_natCast, ← made_ents]
  rfl
theorem set_step (t : List Ent) (k : Nat) (hk : k < t.length) : (t.take k ++ List.replicate (t.length - k) zE).set k (t.getD k zE) = t.take (k + 1) ++ List.replicate (t.length - (k + 1)) zE := by
  have hl : (t.take k).length = k := by rw [List.length_take]; omega
  rw [List.set_append_right _ _ (by omega), hl, Nat.sub_self, take_snoc t k hk, show t.length - k = (t.length - (k + 1)) + 1 by omega, List.replicate_succ, List.set_cons_zero, List.append_assoc]
  rfl

set_option maxRecDepth 100000 in
set_option maxHeartbeats 2000000 in
theorem own_any (v : Value) (t : List Ent) (w : World) (h : Ents w v t) (hn : t.length ≤ 1099511627776) (hs : ∀ e ∈ t, Shr e) :
    Calls Try.prog 27 #[v] w fun r w' => ∃ v', r = .returned v' ∧ OwnE w' w.heap.size v' t ∧ Below w.heap.size w w' := by
  obtain ⟨ao, c, rfl⟩ := h.shape
  have H := hid h
  have HSH := hid hs
  have hmk := fun W => make_ents t.length hn W
  have HR0 := hid (hp_new w (.cells (entsV (List.replicate t.length zE)).toArray 35))
  have HB0 := hid (below_walk w (.cells (entsV (List.replicate t.length zE)).toArray 35))
  obtain ⟨Z, HZ⟩ : ∃ Z, Hid ((entsV (List.replicate t.length zE)).toArray = Z) := ⟨_, rfl⟩
  rw [HZ.out] at hmk HR0 HB0
  clear h hs
  go_enter Try.func27, Try.ntmps27
  go_wp2
  clear hmk
  go_loopw [11] (fun i wr => ∃ k : Nat, i = .int .i64 k ∧ k ≤ t.length ∧ Rw wr w.heap.size (t.take k ++ List.replicate (t.length - k) zE) ∧ Below w.heap.size w wr) (fun i _ => t.length - (intOf i).toNat)
  case atStart => exact ⟨0, rfl, Nat.zero_le _, by unfold Rw; rw [List.take_zero, List.nil_append, Nat.sub_zero, HZ.out]; exact HR0.out, HB0.out⟩
  case round =>
    obtain ⟨k, rfl, hk, hr, hb⟩ := hrel
    have HR := hid hr
    have HB := hid hb
    clear hr hb HR0 HB0
    by_cases hlt : k < t.length
    · have q2 : (k : Int) < (t.length : Int) := by omega
      obtain ⟨g, o, rfl, hgl, hcell⟩ := (H.out.below HB.out).at k hlt
      obtain ⟨e, HE⟩ : ∃ e, Hid (t.getD k zE = e) := ⟨_, rfl⟩
      rw [HE.out] at hcell
      obtain ⟨c0, c1, c2⟩ := hcell
      have HSE := hid (show Shr e by rw [← HE.out]; exact HSH.out _ (getD_mem hlt))
      have HOE := hid (ownEntry_any e (wr.alloc (.cells #[.string (mk e.1), .int .i64 e.2.1, .string (mk e.2.2)] 35)) HSE.out)
      unfold entA at HOE
      have HBA := hid (below_walk wr (.cells #[.string (mk e.1), .int .i64 e.2.1, .string (mk e.2.2)] 35))
      have hll : k < (t.take k ++ List.replicate (t.length - k) zE).length := by rw [List.length_append, List.length_take, List.length_replicate]; omega
      go_wp2_with fail
      refine HOE.out.mono ?_
      rintro r w2 ⟨rfl, hb2⟩
      have HB2 := hid (below_then HBA.out hb2)
      have HR2 := hid (show Rw w2 w.heap.size (t.take k ++ List.replicate (t.length - k) zE) from (HB2.out.block _ (hp_lt HR.out)).trans HR.out)
      have HBW := hid (HB.out.trans (HB2.out.mono HB.out.size))
      have HR3 := hid (HR2.out.set k e hll)
      rw [← HE.out, set_step t k hlt, HE.out] at HR3
      have HB3 := hid (((HBW.out.setCell (p := ⟨w.heap.size, k * 3, none⟩) (by simp) (.string (mk e.1))).setCell (p := ⟨w.heap.size, k * 3 + 1, none⟩) (by simp) (.int .i64 e.2.1)).setCell (p := ⟨w.heap.size, k * 3 + 2, none⟩) (by simp) (.string (mk e.2.2)))
      obtain ⟨g0, g1, g2⟩ := HR2.out.at k hll
      have f0 := row_fz HR2.out (k * 3)
      have f1 := row_fz HR2.out (k * 3 + 1)
      have f2 := row_fz HR2.out (k * 3 + 2)
      clear hb2 HOE HBA hll c0 c1 c2
      obtain ⟨x0, HX0⟩ : ∃ x, Hid (mk ((t.take k ++ List.replicate (t.length - k) zE).getD k zE).1 = x) := ⟨_, rfl⟩
      obtain ⟨x1, HX1⟩ : ∃ x, Hid (((t.take k ++ List.replicate (t.length - k) zE).getD k zE).2.1 = x) := ⟨_, rfl⟩
      obtain ⟨x2, HX2⟩ : ∃ x, Hid (mk ((t.take k ++ List.replicate (t.length - k) zE).getD k zE).2.2 = x) := ⟨_, rfl⟩
      rw [HX0.out] at g0
      rw [HX1.out] at g1
      rw [HX2.out] at g2
      go_wp2
      exact ⟨⟨k + 1, by simp, by omega, HR3.out, HB3.out⟩, by simp [intOf]; omega⟩
    · have q2 : ¬ (k : Int) < (t.length : Int) := by omega
      obtain rfl : k = t.length := by omega
      rw [List.take_length, Nat.sub_self, List.replicate_zero, List.append_nil] at HR
      go_wp2
      go_ret
      exact ⟨_, rfl, HR.out.own hn (Nat.le_refl _) _ rfl, HB.out⟩

/-- what fit answers of these entries -/
def fitP (t : List Ent) : Except Int (List Ent) := if 1024 < t.length then .error 53 else if 1048576 < szP t then .error 54 else .ok t
/-- a tree and a number, as answered -/
def AnsE (w' : World) (base : Nat) (r : Ending) (x : Except Int (List Ent)) : Prop := match x with
  | .ok t => ∃ v, r = .returned (.tuple #[v, .int .i64 0]) ∧ OwnE w' base v t
  | .error e => r = .returned (.tuple #[.slice none 0 0, .int .i64 e])

set_option maxRecDepth 100000 in
set_option maxHeartbeats 2000000 in
theorem fit_any (v : Value) (t : List Ent) (w : World) (h : Ents w v t) (hn : t.length ≤ 1099511627776) (hs : ∀ e ∈ t, Shr e) (hz : szP t ≤ 4611686018427387904) :
    Calls Try.prog 34 #[v] w fun r w' => AnsE w' w.heap.size r (fitP t) ∧ Below w.heap.size w w' := by
  have HBY := hid (bytesOf_any v t w h (by omega) hz)
  have HOW := hid (fun w' (hb : Below w.heap.size w w') => own_any v t w' (h.below hb) hn hs)
  obtain ⟨ao, c, rfl⟩ := h.shape
  clear h hs
  by_cases hm : 1024 < t.length
  · have q1 : (1024 : Int) < (t.length : Int) := by omega
    have HF := hid (show fitP t = .error 53 by unfold fitP; rw [if_pos hm])
    clear hm
    go_enter Try.func34, Try.ntmps34
    go_wp2
    go_ret2
    rw [HF.out]
    exact ⟨rfl, Below.refl _ _⟩
  · have q1 : ¬ (1024 : Int) < (t.length : Int) := by omega
    by_cases hb : 1048576 < szP t
    · have HF := hid (show fitP t = .error 54 by unfold fitP; rw [if_neg hm, if_pos hb])
      have q2 : (1048576 : Int) < (szP t : Int) := by omega
      generalize szP t = S at *
      clear hm hb
      go_enter Try.func34, Try.ntmps34
      go_wp2_with (go_at_call 47; refine HBY.out.mono ?_; rintro r w2 ⟨rfl, hb2⟩)
      go_ret2
      rw [HF.out]
      exact ⟨rfl, hb2⟩
    · have HF := hid (show fitP t = .ok t by unfold fitP; rw [if_neg hm, if_neg hb])
      have q2 : ¬ (1048576 : Int) < (szP t : Int) := by omega
      generalize szP t = S at *
      clear hm hb
      go_enter Try.func34, Try.ntmps34
      go_wp2_with (go_at_call 47; refine HBY.out.mono ?_; rintro r w2 ⟨rfl, hb2⟩)
      refine (HOW.out w2 hb2).mono ?_
      rintro r w3 ⟨v3, rfl, ho3, hb3⟩
      have HO := hid ho3
      obtain ⟨a3, c3, h3⟩ := ho3.ents.shape
      subst h3
      clear ho3
      go_wp2
      go_ret2
      rw [HF.out]
      exact ⟨⟨_, rfl, HO.out.le hb2.size⟩, below_then hb2 hb3⟩

end Go.Proofs.Ytgldmepmeampeab

/- slices.SortFunc by paths, slices.Grow of nothing, slices.Concat. -/
namespace Go.Proofs.Ytgldmepmeampeab
open Go.RowKit Go.BigFrame Go.Sort

/-- Compare of two paths, and the memory that it makes -/
theorem compare_g (a b : ByteArray) (ha : okP (bl a) = true) (hb : okP (bl b) = true) (w : World) :
    Calls Try.prog 33 #[.string a, .string b] w fun e w' => e = .returned (.tuple #[.int .i64 (cmpL (nms (bl a)) (nms (bl b))), .int .i64 0]) ∧ ∃ q os, w' = grow (w.drewN q) os := by
  have HP := hid (show pN (bl a) (bl b) = 0 by unfold pN; rw [if_pos ⟨ha, hb⟩])
  have HC := hid (checkTwo a b w (by have := okP_short ha; omega) (by have := okP_short hb; omega) 0 HP.out)
  have HCN := hid (compareNames_any (nms (bl a)) (nms (bl b)) · ⟨((okP_iff _).1 ha).1, ((okP_iff _).1 hb).1, by rw [txt_nms]; exact okP_short ha, by rw [txt_nms]; exact okP_short hb, rfl⟩)
  rw [txt_nms, txt_nms, mk_bl, mk_bl] at HCN
  generalize cmpL (nms (bl a)) (nms (bl b)) = X at *
  clear ha hb
  go_enter Try.func33, Try.ntmps33
  go_wp2_with (first | (go_at_call 52; refine HC.out.mono ?_; rintro e w' ⟨rfl, n, rfl⟩) | (go_at_call 53; refine (HCN.out _).mono ?_; rintro e w' ⟨rfl, n2, rfl⟩))
  go_ret2
  refine ⟨rfl, n + n2, #[.cells #[.string a, .string b] 9], ?_⟩
  rw [alloc_eq_grow]
  rfl

/-- an entry with a path -/
abbrev OkE := { e : Ent // okP e.1 = true }
def encO (x : OkE) : List Value := entV x.1
def cfO (x y : OkE) : Int := cmpL (nms x.1.1) (nms y.1.1)

set_option maxRecDepth 100000 in
set_option maxHeartbeats 1000000 in
theorem less_any (x y : OkE) (W : World) : Calls Try.prog 32 #[.agg (encO x).toArray, .agg (encO y).toArray] W fun e w' => e = .returned (.int .i64 (cfO x y)) ∧ ∃ q os, w' = grow (W.drewN q) os := by
  have HC := hid (compare_g (mk x.1.1) (mk y.1.1) (by rw [bl_mk]; exact x.2) (by rw [bl_mk]; exact y.2))
  rw [bl_mk, bl_mk] at HC
  unfold cfO
  have e1 : (encO x).toArray = #[.string (mk x.1.1), .int .i64 x.1.2.1, .string (mk x.1.2.2)] := rfl
  have e2 : (encO y).toArray = #[.string (mk y.1.1), .int .i64 y.1.2.1, .string (mk y.1.2.2)] := rfl
  rw [e1, e2]
  clear e1 e2
  generalize cmpL (nms x.1.1) (nms y.1.1) = X at *
  obtain ⟨⟨xp, xk, xd⟩, hx⟩ := x
  obtain ⟨⟨yp, yk, yd⟩, hy⟩ := y
  dsimp only at *
  clear hx hy
  generalize mk xp = sx at *
  generalize mk yp = sy at *
  generalize mk xd = dx at *
  generalize mk yd = dy at *
  go_enter Try.func32, Try.ntmps32
  go_wp2_with (go_at_call 33; refine (HC.out _).mono ?_; rintro e w' ⟨rfl, q, os, rfl⟩)
  go_ret
  exact ⟨rfl, q, _, by rw [alloc_eq_grow, alloc_eq_grow, grow_grow]; show grow (grow (W.drewN q) _) os = _; rw [grow_grow]⟩

theorem swoO : SWO (ltOf cfO) where
  irrefl x := by unfold ltOf cfO; rw [cmpL_self]; rfl
  trans x y z h1 h2 := by
    unfold ltOf cfO at *
    rw [decide_eq_true_iff] at *
    exact cmpL_lt_trans h1 h2
  ntrans x y z h1 h2 := by
    unfold ltOf cfO at *
    rw [decide_eq_false_iff_not] at *
    have a1 := cmpL_anti (nms x.1.1) (nms y.1.1)
    have a2 := cmpL_anti (nms y.1.1) (nms z.1.1)
    have a3 := cmpL_anti (nms x.1.1) (nms z.1.1)
    have := cmpL_trans (nms z.1.1) (nms y.1.1) (nms x.1.1) (by omega) (by omega)
    omega

theorem flat_ents [Inhabited OkE] (d : List OkE) : flatK encO 3 d.toArray = (entsV (d.map (·.1))).toArray := by
  apply Array.ext
  · rw [size_flatK]
    simp [entsV_length]
  · intro i h1 h2
    have hi : i < d.length * 3 := by rw [size_flatK] at h1; simpa using h1
    obtain ⟨q, r, hr, rfl⟩ : ∃ q r, r < 3 ∧ i = q * 3 + r := ⟨i / 3, i % 3, by omega, by omega⟩
    have hq : q < d.length := by omega
    have hq' : q < (d.map (·.1)).length := by simpa using hq
    obtain ⟨e0, e1, e2⟩ := entsV_get (d.map (·.1)) q hq'
    have hz : (d.map (·.1)).getD q zE = (d[q]).1 := by simp [List.getD_eq_getElem?_getD, hq]
    rw [hz] at e0 e1 e2
    have hm : (q * 3 + r) % 3 = r := by omega
    have hd : (q * 3 + r) / 3 = q := by omega
    have hl : (flatK encO 3 d.toArray)[q * 3 + r] = (encO d[q])[r]! := by
      have := get_flatK encO 3 d.toArray (q * 3 + r) (by simpa using hi)
      rw [getElem!_pos (flatK encO 3 d.toArray) (q * 3 + r) h1, hm, hd] at this
      rw [this]
      simp [hq]
    rw [hl, List.getElem_toArray]
    have hr3 : r = 0 ∨ r = 1 ∨ r = 2 := by omega
    rcases hr3 with rfl | rfl | rfl
    · exact ((List.getElem?_eq_some_iff.1 e0).2).symm
    · exact ((List.getElem?_eq_some_iff.1 e1).2).symm
    · exact ((List.getElem?_eq_some_iff.1 e2).2).symm

theorem lift_ok : ∀ {l : List Ent}, (∀ e ∈ l, okP e.1 = true) → ∃ d : List OkE, d.map (·.1) = l
  | [], _ => ⟨[], rfl⟩
  | e :: l, h => by
    obtain ⟨d, hd⟩ := lift_ok (l := l) (fun x hx => h x (by simp [hx]))
    exact ⟨⟨e, h e (by simp)⟩ :: d, by simp [hd]⟩

/-- what is behind the sort -/
structure Srt (w : World) (B : Nat) (v : Value) (l : List Ent) (w' : World) (l' : List Ent) : Prop where
  perm : l'.Perm l
  up : l'.Pairwise (fun a b => ¬ cmpL (nms b.1) (nms a.1) < 0)
  own : OwnE w' B v l'
  grown : w.grownBy w' v.ownBlock

set_option maxHeartbeats 1000000 in
theorem sort_any (B : Nat) (v : Value) (l : List Ent) (w : World) (h : OwnE w B v l) (hok : ∀ e ∈ l, okP e.1 = true) (hl : l.length ≤ 1099511627776) :
    Calls Try.prog 31 #[v, .func (.func 32) #[] #[]] w fun e w' => e = .returned (.tuple #[]) ∧ ∃ l', Srt w B v l w' l' := by
  haveI : Inhabited OkE := ⟨⟨zE, okP_nil⟩⟩
  by_cases h0 : l = []
  · subst h0
    obtain ⟨a, c, rfl⟩ := h.ents.shape
    exact (AnyF.slices_SortFunc_none Try.laysSort a c _ w).mono fun e w' ⟨he, hw⟩ => ⟨he, [], List.Perm.refl _, List.Pairwise.nil, hw ▸ h, hw ▸ gb_refl _ _⟩
  · obtain ⟨d, hd⟩ := lift_ok hok
    have h' := h
    obtain ⟨hlen, ⟨rfl, hz⟩ | ⟨g, cap, cur, rfl, hB, hblk, hc1, hc2, hc3, hc4⟩⟩ := h
    · exact absurd (List.length_eq_zero_iff.1 hz) h0
    · have hdl : d.length = l.length := by rw [← hd, List.length_map]
      have hds : d.toArray.size = l.length := by simpa using hdl
      have hcell : ∀ i, i < l.length * 3 → cur[i]? = (entsV l)[i]? := by
        intro i hi
        rw [← hc4, List.getElem?_take_of_lt hi, Array.getElem?_toList]
      have hH : HoldsK encO 3 w g 0 d.toArray := by
        intro i hi
        rw [flat_ents, hd] at hi ⊢
        have hi' : i < l.length * 3 := by simpa [entsV_length] using hi
        rw [Nat.zero_add]
        refine ⟨?_, row_fz hblk i⟩
        rw [row_cell hblk, hcell i hi']
        have hi2 : i < (entsV l).length := by rw [entsV_length]; exact hi'
        simp [hi2]
      have hcmp : CmpLays Try.prog 32 #[] encO 3 cfO g 0 d.toArray.size w := fun _ _ _ _ x y => less_any x y _
      have eg : ∀ args w, (callFunc 32 args).run Try.prog w = .ok (.enter 32 args) w := enters_of Try.func32 (by kernel_rfl) rfl
      have hcon := AnyQ.slices_SortFunc Try.laysSort 3 Try.isAgg35 Try.sizeOf35 encO (fun _ => rfl) (fun x v hv => entsV_one [x.1] v (by unfold encO at hv; simpa [entsV] using hv)) cfO swoO 32 #[] g 0 cap d.toArray w eg hcmp hH (hp_lt hblk) (by rw [hds]; omega)
      rw [hds] at hcon
      refine Calls.mono hcon ?_
      rintro e w' ⟨he, d', n, os, hp, hs, hw⟩
      obtain ⟨hp1, _, hp3⟩ := hp
      rw [hds] at hp1
      have hex1 : d'.extract 0 l.length = d' := by rw [← hp1]; simp
      have hex2 : d.toArray.extract 0 l.length = d.toArray := by rw [← hds]; simp
      rw [hex1, hex2] at hp3
      refine ⟨he, d'.toList.map (·.1), ?_, ?_, ?_, ?_⟩
      · rw [← hd]
        exact hp3.map _
      · rw [List.pairwise_map, List.pairwise_iff_getElem]
        intro i j hi hj hij
        have hi' : i < d'.size := by simpa using hi
        have hj' : j < d'.size := by simpa using hj
        have := hs i j (Nat.zero_le _) hij (by omega)
        rw [getElem!_pos d' i hi', getElem!_pos d' j hj'] at this
        unfold ltOf cfO at this
        rw [decide_eq_false_iff_not] at this
        simpa using this
      · have hfl : flatK encO 3 d' = (entsV (d'.toList.map (·.1))).toArray := by rw [← flat_ents, Array.toArray_toList]
        have hl2 : (d'.toList.map (·.1)).length = l.length := by simp [hp1]
        have hb' : w'.heap[g]? = some (.cells (putCells id 0 (entsV (d'.toList.map (·.1))).toArray cur) 35 (0, 0)) := by
          rw [hw]
          unfold sortWorldK putRowK
          rw [hfl, heap_grow_old _ _ (by simpa using hp_lt hblk)]
          simp [putRow, mapBlock, Sort.ahead, Array.getElem?_modify, hblk, onCells]
        unfold OwnE
        rw [hl2]
        refine ⟨by rw [entsV_length, hl2], Or.inr ⟨g, cap, _, rfl, hB, hb', hc1, hc2, by simp [putCells, hc3], ?_⟩⟩
        have hcs : l.length * 3 ≤ cur.size := by rw [hc3]; exact Nat.mul_le_mul_right _ hc1
        apply List.ext_getElem?
        intro i
        by_cases hi : i < l.length * 3
        · have hi2 : i < (entsV (d'.toList.map (·.1))).length := by rw [entsV_length, hl2]; exact hi
          rw [List.getElem?_take_of_lt hi, Array.getElem?_toList, putCells, Array.getElem?_mapIdx, Array.getElem?_eq_getElem (show i < cur.size by omega)]
          simp only [Option.map_some, Nat.sub_zero, Nat.zero_le, Nat.zero_add, true_and]
          rw [if_pos (by simpa using hi2), List.getElem?_eq_getElem hi2]
          simp [hi2]
        · rw [List.getElem?_take_eq_none (by omega), List.getElem?_eq_none (by rw [entsV_length, hl2]; omega)]
      · rw [hw]
        refine ⟨rfl, rfl, rfl, by simp [sortWorldK, putRowK], fun k hk hne => ?_⟩
        unfold sortWorldK putRowK
        rw [heap_grow_old _ _ (by simpa using hk)]
        have : g ≠ k := fun e => hne (by rw [e]; rfl)
        simp [putRow, mapBlock, Sort.ahead, Array.getElem?_modify, this]

end Go.Proofs.Ytgldmepmeampeab

/- slices.Grow of nothing, slices.Concat. -/
namespace Go.Proofs.Ytgldmepmeampeab
open Go.RowKit Go.BigFrame

theorem grow_nil (n : Nat) (w : World) (hn : n ≤ 1099511627776) :
    Calls Try.prog 49 #[.slice none 0 0, .int .i64 (n : Int)] w fun e w' => ∃ v, e = .returned v ∧ OwnE w' w.heap.size v [] ∧ Below w.heap.size w w' := by
  by_cases h0 : n = 0
  · subst h0
    exact (Any8.slices_Grow_room Try.laysGrow none 0 0 0 w (Nat.le_refl _) (by omega) (by omega) (by omega)).mono fun e w' ⟨he, hw⟩ => ⟨_, he, OwnE.nil _ _, hw ▸ Below.refl _ _⟩
  · obtain ⟨i0, hi, hz0, hz1, hz2⟩ := info_parts Try.infoEnt
    refine (Any8.slices_Grow_grow Try.laysGrow i0 _ hi hz0 (by omega) none 0 0 n [] w (Nat.le_refl _) (by omega) (by rw [hz2]; omega) (by omega) (by simp) (fun _ => rfl) (fun a h => by cases h)).mono ?_
    rintro e w' ⟨he, hw⟩
    rw [show Try.laysGrow_ren.t 25 = 35 from rfl, Nat.zero_add] at he hw
    subst hw
    refine ⟨_, he, ?_, ⟨rfl, rfl, rfl, (below_walk w.drew _).size, (below_walk w.drew _).block⟩⟩
    have hge := grownCap_ge w n 0 35
    have hle := grownCap_le_maxLen w n 0 35 (by unfold maxLen; omega)
    refine ⟨rfl, Or.inr ⟨w.heap.size, grownCap w n 0 35, _, rfl, Nat.le_refl _, hp_new w.drew _, Nat.zero_le _, hle, ?_, by simp [entsV]⟩⟩
    simp only [Array.size_append, size_zeroCells, Value.cells]
    simp
    omega

set_option maxRecDepth 100000 in
set_option maxHeartbeats 2000000 in
theorem concat_any (v : Value) (ts : List (List Ent)) (w : World) (h : Trs w v ts) (hn : ts.length ≤ 1099511627776) (hl : ts.flatten.length ≤ 1099511627776) :
    Calls Try.prog 30 #[v] w fun r w' => ∃ v', r = .returned v' ∧ OwnE w' w.heap.size v' ts.flatten ∧ Below w.heap.size w w' := by
  obtain ⟨g, c, rfl, hgl, hcell⟩ := h
  have HC := hid hcell
  have HLE : Hid (∀ k, k ≤ ts.length → (ts.take k).flatten.length ≤ ts.flatten.length) := by
    intro k hk
    conv => rhs; rw [← List.take_append_drop k ts, List.flatten_append, List.length_append]
    omega
  have HST : Hid (∀ k, k < ts.length → (ts.take (k + 1)).flatten = (ts.take k).flatten ++ ts.getD k []) := by
    intro k hk
    rw [List.take_add_one, List.getElem?_eq_getElem hk, List.flatten_append, List.getD_eq_getElem?_getD, List.getElem?_eq_getElem hk]
    simp
  have HG := hid (grow_nil ts.flatten.length · hl)
  clear hcell
  go_enter Try.func30, Try.ntmps30
  go_wp2
  go_loop [3, 11] (fun s i => ∃ k : Nat, i = .int .i64 k ∧ k ≤ ts.length ∧ s = .int .i64 ((ts.take k).flatten.length : Nat)) (fun _ i => ts.length - (intOf i).toNat)
  case atStart => exact ⟨0, rfl, Nat.zero_le _, rfl⟩
  case round =>
    obtain ⟨k, rfl, hk, rfl⟩ := hrel
    by_cases hlt : k < ts.length
    · have q2 : (k : Int) < (ts.length : Int) := by omega
      obtain ⟨u, hu, hen⟩ := HC.out k hlt
      obtain ⟨ua, uc, hue⟩ := hen.shape
      have h1 := HST.out k hlt
      have h2 := HLE.out (k + 1) hlt
      have h3 := HLE.out k hk
      have h4 := congrArg List.length h1
      rw [List.length_append] at h4
      obtain ⟨S, HS⟩ : ∃ S : Nat, Hid ((ts.take k).flatten.length = S) := ⟨_, rfl⟩
      obtain ⟨M, HM⟩ : ∃ M : Nat, Hid ((ts.take (k + 1)).flatten.length = M) := ⟨_, rfl⟩
      obtain ⟨U, HU⟩ : ∃ U : Nat, Hid ((ts.getD k []).length = U) := ⟨_, rfl⟩
      rw [HS.out, HM.out, HU.out] at h4
      rw [HM.out] at h2
      rw [HU.out] at hue
      rw [HS.out]
      subst hue
      have hw1 : IntKind.i64.wrap ((S : Int) + (U : Int)) = (M : Int) := by rw [IntKind.wrap_i64]; omega
      have hM0 : ¬ (M : Int) < 0 := by omega
      have hUl : U ≤ 1099511627776 := by omega
      clear h1 h3 hen
      have H4 := hid h4
      clear h4
      go_wp2
      exact ⟨⟨k + 1, by simp, by omega, by rw [HM.out]⟩, by simp [intOf]; omega⟩
    · have q2 : ¬ (k : Int) < (ts.length : Int) := by omega
      obtain rfl : k = ts.length := by omega
      rw [List.take_length]
      obtain ⟨F, HF⟩ : ∃ F : Nat, Hid (ts.flatten.length = F) := ⟨_, rfl⟩
      rw [HF.out] at HG ⊢
      go_wp2_with fail
      refine (HG.out w).mono ?_
      rintro r w2 ⟨v2, rfl, ho2, hb2⟩
      obtain ⟨a2, c2, h2⟩ := ho2.ents.shape
      have HO2 := hid ho2
      have HB2 := hid hb2
      subst h2
      clear ho2 hb2 HG
      go_wp2
      go_loopw [6, 27] (fun x i wr => ∃ k : Nat, i = .int .i64 k ∧ k ≤ ts.length ∧ OwnE wr w.heap.size x (ts.take k).flatten ∧ Below w.heap.size w wr) (fun _ i _ => ts.length - (intOf i).toNat)
      case atStart => exact ⟨0, rfl, Nat.zero_le _, HO2.out, HB2.out⟩
      case round =>
        obtain ⟨k, rfl, hk, ho, hb⟩ := hrel
        have HO := hid ho
        have HB := hid hb
        obtain ⟨ax, cx, hx⟩ := ho.ents.shape
        clear ho hb HO2 HB2
        by_cases hlt : k < ts.length
        · have q2 : (k : Int) < (ts.length : Int) := by omega
          obtain ⟨u, hu, hen⟩ := HC.out k hlt
          have HEN := hid (hen.below HB.out)
          have hu' : wr.cell? ⟨g, k, none⟩ = some u := by rw [HB.out.cell (p := ⟨g, k, none⟩) hgl]; exact hu
          obtain ⟨X, HX⟩ : ∃ X, Hid (ts.getD k [] = X) := ⟨_, rfl⟩
          rw [HX.out] at hen HEN
          obtain ⟨ua, uc, hue⟩ := hen.shape
          have HT := hid (HST.out k hlt)
          rw [HX.out] at HT
          have HL2 := hid (show (ts.take k).flatten.length + X.length ≤ 3298534883328 by have := congrArg List.length HT.out; rw [List.length_append] at this; have := HLE.out (k + 1) hlt; omega)
          generalize (ts.take k).flatten.length = nx at hx
          generalize X.length = nu at hue
          subst hx hue
          have HSZ := hid HB.out.size
          clear hu hen
          go_wp2_with (at_builtin; refine app_ent rfl _ _ rfl w.heap.size _ _ rfl HO.out _ _ rfl HEN.out HL2.out HSZ.out ?_)
          intro v5 w5 ho5 hg5 _
          rw [← HT.out] at ho5
          have HO5 := hid ho5
          have HB5 := hid (HB.out.grown hg5 HB.out.size (fun j hj => (HO.out.lt j hj).1))
          obtain ⟨a5, c5, h5⟩ := ho5.ents.shape
          subst h5
          clear ho5 hg5
          go_wp2
          exact ⟨⟨k + 1, by simp, by omega, HO5.out, HB5.out⟩, by simp [intOf]; omega⟩
        · have q2 : ¬ (k : Int) < (ts.length : Int) := by omega
          obtain rfl : k = ts.length := by omega
          rw [List.take_length] at HO hx
          generalize ts.flatten.length = nx at hx
          subst hx
          go_wp2
          go_ret
          exact ⟨_, rfl, HO.out, HB.out⟩

end Go.Proofs.Ytgldmepmeampeab

/- A map of paths to kinds. -/
namespace Go.Proofs.Ytgldmepmeampeab
open Go.RowKit Go.Maps Go.WideMaps

theorem klaw : Keyed Try.prog 9 := string_keyed Try.underlying9
def putM (m : DataW Unit) (x : List UInt8 × Int) : DataW Unit := m.put (.string x.1) (.lit (.int .i64 x.2))
/-- the map that these stores made -/
def mapD (ms : List (List UInt8 × Int)) : DataW Unit := ms.foldl putM (.map [])
def lookM (ms : List (List UInt8 × Int)) (p : List UInt8) : Int := ms.foldl (fun a x => if x.1 = p then x.2 else a) 0
theorem mapD_snoc (ms : List (List UInt8 × Int)) (x : List UInt8 × Int) : mapD (ms ++ [x]) = putM (mapD ms) x := by simp [mapD, List.foldl_append]
theorem lookM_snoc (ms : List (List UInt8 × Int)) (x : List UInt8 × Int) (p : List UInt8) : lookM (ms ++ [x]) p = if x.1 = p then x.2 else lookM ms p := by simp [lookM, List.foldl_append]
theorem snoc_ind {α : Type} {P : List α → Prop} (h0 : P []) (h1 : ∀ l x, P l → P (l ++ [x])) (l : List α) : P l := by
  have : ∀ n (l : List α), l.length = n → P l := by
    intro n
    induction n with
    | zero => intro l hl; rw [List.length_eq_zero_iff.1 hl]; exact h0
    | succ n ih =>
      intro l hl
      rcases List.eq_nil_or_concat l with h | ⟨i, e, h⟩
      · subst h; exact h0
      · have e2 : l = i ++ [e] := by simpa using h
        subst e2
        exact h1 i e (ih i (by simpa using hl))
  exact this _ l rfl
theorem tidy_mapD (ms : List (List UInt8 × Int)) : Tidy (mapD ms) := by
  induction ms using snoc_ind with
  | h0 => exact tidy_empty
  | h1 ms x ih => rw [mapD_snoc]; exact ih.put (by simp [WideAt.IsKeyLit]) _
theorem at_mapD (ms : List (List UInt8 × Int)) (p : List UInt8) : (mapD ms).atKey (.string p) (.lit (.int .i64 0)) = .lit (.int .i64 (lookM ms p)) := by
  induction ms using snoc_ind with
  | h0 => rfl
  | h1 ms x ih =>
    rw [mapD_snoc, lookM_snoc]
    unfold putM
    by_cases h : x.1 = p
    · rw [if_pos h, h]
      exact atKey_put_same (tidy_mapD ms).isMap (by simp [WideAt.IsKeyLit]) _ _
    · rw [if_neg h, atKey_put_other (fun e => h (by injection e with e; exact e.symm))]
      exact ih
theorem has_mapD (ms : List (List UInt8 × Int)) (p : List UInt8) : Maps.has (mapD ms) (.string p) = decide (p ∈ ms.map (·.1)) := by
  induction ms using snoc_ind with
  | h0 => rfl
  | h1 ms x ih =>
    rw [mapD_snoc, List.map_append]
    unfold putM
    by_cases h : x.1 = p
    · rw [h, has_put_same (tidy_mapD ms).isMap (by simp [WideAt.IsKeyLit])]
      simp [h]
    · rw [has_put_other (fun e => h (by injection e with e; exact e.symm)), ih]
      simp [Ne.symm h]
theorem size_mapD (ms : List (List UInt8 × Int)) : Maps.size (mapD ms) ≤ ms.length ∧ (Maps.size (mapD ms) = ms.length ↔ (ms.map (·.1)).Nodup) := by
  induction ms using snoc_ind with
  | h0 => simp [mapD, Maps.size_eq]
  | h1 ms x ih =>
    have hs : Maps.size (mapD (ms ++ [x])) = if x.1 ∈ ms.map (·.1) then Maps.size (mapD ms) else Maps.size (mapD ms) + 1 := by
      rw [mapD_snoc]
      unfold putM
      rw [size_put (tidy_mapD ms), has_mapD]
      by_cases hm : x.1 ∈ ms.map (·.1)
      · rw [decide_eq_true hm, if_pos rfl, if_pos hm]
      · rw [decide_eq_false hm, if_neg (by decide), if_neg hm]
    rw [hs, List.length_append, List.length_singleton, List.map_append]
    by_cases hm : x.1 ∈ ms.map (·.1)
    · rw [if_pos hm]
      refine ⟨by omega, ⟨fun h => by omega, fun h => ?_⟩⟩
      exfalso
      have := (List.nodup_append.1 h).2.2 _ hm x.1 (by simp)
      exact this rfl
    · rw [if_neg hm]
      refine ⟨by omega, ⟨fun h => ?_, fun h => ?_⟩⟩
      · rw [List.nodup_append]
        refine ⟨ih.2.1 (by omega), by simp, fun a ha b hb => ?_⟩
        simp at hb
        subst hb
        rintro rfl
        exact hm ha
      · have := ih.2.2 (List.nodup_append.1 h).1
        omega
/-- what the map of the entries tells -/
def ksOf (l : List Ent) : List (List UInt8 × Int) := l.map (fun e => (e.1, e.2.1))
theorem ksOf_keys (l : List Ent) : (ksOf l).map (·.1) = l.map (·.1) := by simp [ksOf]
theorem ksOf_snoc (l : List Ent) (k : Nat) (hk : k < l.length) : ksOf (l.take (k + 1)) = ksOf (l.take k) ++ [((l.getD k zE).1, (l.getD k zE).2.1)] := by
  rw [take_snoc l k hk]
  simp [ksOf]
theorem look_ks (l : List Ent) (h : (l.map (·.1)).Nodup) (p : List UInt8) : lookM (ksOf l) p = lookK l [] p := by
  have key : ∀ l : List Ent, (l.map (·.1)).Nodup → lookM (ksOf l) p = match fdP l p with | some e => e.2.1 | none => 0 := by
    intro l
    induction l using snoc_ind with
    | h0 => intro _; rfl
    | h1 l x ih =>
      intro hn
      rw [List.map_append, List.nodup_append] at hn
      have e1 : ksOf (l ++ [x]) = ksOf l ++ [(x.1, x.2.1)] := by simp [ksOf]
      rw [e1, lookM_snoc, ih hn.1]
      unfold fdP
      rw [List.find?_append]
      by_cases hx : x.1 = p
      · have hno : l.find? (fun e => decide (e.1 = p)) = none := by
          rw [List.find?_eq_none]
          intro y hy
          have := hn.2.2 y.1 (List.mem_map.2 ⟨y, hy, rfl⟩) x.1 (by simp)
          simp
          rw [← hx]
          exact this
        rw [hno, if_pos hx]
        simp [hx]
      · rw [if_neg hx]
        cases l.find? (fun e => decide (e.1 = p)) with
        | some y => rfl
        | none => simp [hx]
  rw [key l h]
  unfold lookK
  cases fdP l p with
  | some e => rfl
  | none => simp

/-- the map lies in block b -/
def Mp (w : World) (b n : Nat) (ms : List (List UInt8 × Int)) : Prop := w.ownsMap Try.prog 9 (plainElem (H := Unit) Try.prog 3) b n (mapD ms)
theorem Mp.kept {w w' : World} {b n : Nat} {ms : List (List UInt8 × Int)} {row : Option Nat} (h : Mp w b n ms) (hg : w.grownBy w' row) (hne : some b ≠ row) : Mp w' b n ms := World.ownsMap.kept h hg hne
theorem Mp.below {w w' : World} {b n : Nat} {ms : List (List UInt8 × Int)} (h : Mp w b n ms) (hb : Below w.heap.size w w') : Mp w' b n ms := h.kept (below_gb hb none) (by simp)
theorem key_mk (p : List UInt8) (hp : p.length ≤ 9223372036854775807) : keyOf Try.prog 9 (.string (mk p)) = some (.string p) := by
  have := keyOf_string_mk (P := Try.prog) Try.underlying9 (s := mk p) (by rw [mk_size]; unfold maxLen; omega)
  rw [this]
  rfl
theorem mk_map (n : Nat) (W : World) : (Instr.makeMap 66 (some (.int .i64 (n : Int)))).run Try.prog W = .ok (.map (some W.heap.size)) (W.alloc (.map #[] 0)) := by
  simp [Instr.makeMap, run_underlying Try.underlying66, asInt, asIntOf]
/-- a look-up -/
theorem Mp.look {w : World} {b n : Nat} {ms : List (List UInt8 × Int)} (h : Mp w b n ms) (p : List UInt8) (hp : p.length ≤ 9223372036854775807) : (Instr.lookup 66 (.map (some b)) (.string (Go.Proofs.Ytgldmepmeampeab.mk p)) false).run Try.prog w = .ok (.int .i64 (lookM ms p)) w := by
  obtain ⟨c, hrun, hat, _⟩ := World.ownsMap.lookup_int h klaw Try.underlying66 Try.underlying3 (Try.zeroValue3 _) (key_mk p hp)
  rw [at_mapD] at hat
  simp only [DataW.lit.injEq, Lit.int.injEq, true_and] at hat
  subst hat
  exact hrun

end Go.Proofs.Ytgldmepmeampeab

/- lacking: the directories that lack are put in. -/
namespace Go.Proofs.Ytgldmepmeampeab
open Go.RowKit Go.Maps

theorem Mp.ne {w : World} {b n B : Nat} {ms : List (List UInt8 × Int)} {x : Value} {es : List Ent} (h : Mp w b n ms) (k : OwnE w B x es) : some b ≠ x.ownBlock := by
  obtain ⟨_, _, hb, _⟩ := h
  obtain ⟨_, ⟨rfl, _⟩ | ⟨g, cap, cur, rfl, _, hh, _⟩⟩ := k
  · simp [Value.ownBlock]
  · intro e
    simp only [Value.ownBlock, Option.some.injEq] at e
    subst e
    rw [hb] at hh
    cases hh
theorem ancs_len {l : List Ent} (h : ∀ e ∈ l, mayP e = true) : (l.flatMap (fun e => ancs e.1)).length ≤ 32 * l.length := by
  induction l with
  | nil => simp
  | cons e l ih =>
    have h1 := ih (fun x hx => h x (by simp [hx]))
    have h2 := ((okP_iff e.1).1 (mayP_ok (h e (by simp)))).2
    rw [List.flatMap_cons, List.length_append, List.length_cons]
    have h3 : (ancs e.1).length ≤ 32 := by unfold ancs; rw [List.length_map, List.length_range]; omega
    omega
theorem Lck.len {l : List Ent} {k : Nat} {ds : List (List UInt8)} {q : Option (List UInt8)} (h : Lck l k ds q) (hm : ∀ e ∈ l, mayP e = true) : ds.length ≤ 32 * l.length := by
  refine Nat.le_trans (nodup_le h.nd (fun d hd => ?_)) (ancs_len hm)
  obtain ⟨e, he, h1⟩ := h.need d hd
  exact List.mem_flatMap.2 ⟨e, he, h1⟩

/-- how far lacking has come -/
structure LkS (w0 : World) (M n0 : Nat) (l : List Ent) (k : Nat) (q : Option (List UInt8)) (ds : List (List UInt8)) (ms : List (List UInt8 × Int)) (n : Nat) (x : Value) (wr : World) : Prop where
  lck : Lck l k ds q
  own : OwnE wr w0.heap.size x (ds.map dirE)
  mp : Mp wr M n ms
  look : ∀ p, lookM ms p = lookK l ds p
  num : n ≤ n0 + ds.length
  bel : Below w0.heap.size w0 wr
def LackPost (w0 : World) (l : List Ent) (r : Ending) (w' : World) : Prop :=
  ((wrongP l = true ∧ r = .returned (.tuple #[.slice none 0 0, .int .i64 52])) ∨ (wrongP l = false ∧ ∃ (ds : List (List UInt8)) (v' : Value), r = .returned (.tuple #[v', .int .i64 0]) ∧ OwnE w' w0.heap.size v' (ds.map dirE) ∧ ds.Nodup ∧ ds.length = (lackL l).length ∧ ∀ d, d ∈ ds ↔ d ∈ lackL l)) ∧ Below w0.heap.size w0 w'
theorem lookK_le {l : List Ent} {ds : List (List UInt8)} {p : List UInt8} (h0 : lookK l ds p ≠ 0) (h2 : lookK l ds p ≠ 2) : ∃ x ∈ l, x.1 = p ∧ x.2.1 ≠ 2 := by
  unfold lookK at *
  cases hf : fdP l p with
  | some e => rw [hf] at h2; exact ⟨e, (fdP_some hf).1, (fdP_some hf).2, h2⟩
  | none =>
    rw [hf] at h0 h2
    dsimp only at h0 h2
    by_cases h : p ∈ ds
    · rw [if_pos h] at h2; exact absurd rfl h2
    · rw [if_neg h] at h0; exact absurd rfl h0
theorem lookK_snoc {l : List Ent} {ds : List (List UInt8)} {d : List UInt8} (h : lookK l ds d = 0) (hm : ∀ e ∈ l, mayP e = true) (p : List UInt8) : lookK l (ds ++ [d]) p = if d = p then 2 else lookK l ds p := by
  by_cases e : d = p
  · subst e
    rw [if_pos rfl]
    exact (lookK_new h hm).2.2
  · rw [if_neg e]
    unfold lookK
    cases fdP l p with
    | some x => rfl
    | none => simp [Ne.symm e]
theorem LkS.below {w0 wr wr' : World} {M n0 k n : Nat} {l : List Ent} {q : Option (List UInt8)} {ds : List (List UInt8)} {ms : List (List UInt8 × Int)} {x : Value} (h : LkS w0 M n0 l k q ds ms n x wr) (hb : Below wr.heap.size wr wr') : LkS w0 M n0 l k q ds ms n x wr' :=
  ⟨h.lck, h.own.below hb, h.mp.below hb, h.look, h.num, h.bel.trans (hb.mono h.bel.size)⟩
theorem LkS.drew {w0 wr : World} {M n0 k n : Nat} {l : List Ent} {q : Option (List UInt8)} {ds : List (List UInt8)} {ms : List (List UInt8 × Int)} {x : Value} (h : LkS w0 M n0 l k q ds ms n x wr) (j : Nat) : LkS w0 M n0 l k q ds ms n x (wr.drewN j) :=
  h.below ⟨rfl, rfl, rfl, Nat.le_refl _, fun _ _ => rfl⟩
theorem spD_short {p : List UInt8} (h : okP p = true) (h0 : p ≠ []) : (spD p).length < p.length := by
  obtain ⟨x, e⟩ := nms_last h h0
  have hx : nmP x = true := names_of h x (by rw [e]; simp)
  have hl : 0 < x.length := List.length_pos_iff.2 (nmP_ne hx).1
  have hp : p = txt (nms (spD p) ++ [x]) := by rw [← e, txt_nms]
  by_cases hd : nms (spD p) = []
  · rw [nms_nil] at hd
    rw [hd]
    exact List.length_pos_iff.2 h0
  · rw [txt_app hd (by simp), txt_nms, txt_one] at hp
    have := congrArg List.length hp
    rw [List.length_append, List.length_cons] at this
    omega

set_option maxRecDepth 100000 in
set_option maxHeartbeats 4000000 in
theorem lacking_any (w0 : World) (M n0 : Nat) (v : Value) (l : List Ent) (w : World) (h : Ents w0 v l) (hb0 : Below w0.heap.size w0 w) (hm : ∀ e ∈ l, mayP e = true) (hnd : (l.map (·.1)).Nodup) (hmp : Mp w M n0 (ksOf l)) (hM : w0.heap.size ≤ M) (hn0 : n0 ≤ 1099511627776) (hl : l.length ≤ 1073741824) :
    Calls Try.prog 29 #[v, .map (some M)] w fun r w' => LackPost w0 l r w' := by
  obtain ⟨ao, c, rfl⟩ := h.shape
  have H := hid h
  have HMY := hid hm
  have HND := hid hnd
  have H0 := hid (⟨Lck.start l, OwnE.nil _ _, hmp, look_ks l hnd, Nat.le_add_right _ _, hb0⟩ : LkS w0 M n0 l 0 none [] (ksOf l) n0 (.slice none 0 0) w)
  clear h hb0 hm hnd hmp
  go_enter Try.func29, Try.ntmps29
  go_wp2
  go_loopw [6, 12] (fun x i wr => ∃ k : Nat, i = .int .i64 k ∧ k ≤ l.length ∧ ∃ ds ms n, LkS w0 M n0 l k none ds ms n x wr) (fun _ i _ => l.length - (intOf i).toNat)
  case atStart => exact ⟨0, rfl, Nat.zero_le _, [], ksOf l, n0, H0.out⟩
  case round =>
    obtain ⟨k, rfl, hk, ds, ms, n, hst⟩ := hrel
    have HST := hid hst
    obtain ⟨ax, cx, hx⟩ := hst.own.ents.shape
    generalize (ds.map dirE).length = nx at hx
    subst hx
    clear hst H0
    by_cases hlt : k < l.length
    · have q2 : (k : Int) < (l.length : Int) := by omega
      obtain ⟨g, o, rfl, hgl, hcell⟩ := (H.out.below HST.out.bel).at k hlt
      obtain ⟨e, HE⟩ : ∃ e, Hid (l.getD k zE = e) := ⟨_, rfl⟩
      have HEM := hid (getD_mem hlt)
      rw [HE.out] at hcell HEM
      obtain ⟨c0, c1, c2⟩ := hcell
      have HME := hid (HMY.out e HEM.out)
      have HOK := hid (mayP_ok HME.out)
      have HSHT := hid (okP_short HOK.out)
      have HPA := hid (fun W => parent_any e.1 W (by have := HSHT.out; omega))
      have HS1 : Hid (∃ ds ms n, ∃ q, LkS w0 M n0 l (k + 1) (some q) ds ms n (.slice ax nx cx) (wr.alloc (.cells #[.string (mk e.1), .int .i64 e.2.1, .string (mk e.2.2)] 35)) ∧ spD e.1 = spD q ∧ (q = e.1 ∨ q ∈ ancs e.1)) := by
        have hbg := HST.out.lck.begin hlt
        rw [HE.out] at hbg
        have hbw := below_walk wr (.cells #[.string (mk e.1), .int .i64 e.2.1, .string (mk e.2.2)] 35)
        exact ⟨ds, ms, n, e.1, ⟨hbg, HST.out.own.below hbw, HST.out.mp.below hbw, HST.out.look, HST.out.num, HST.out.bel.trans (hbw.mono HST.out.bel.size)⟩, rfl, Or.inl rfl⟩
      clear HST
      go_wp2_with (go_at_call 36; refine (HPA.out _).mono ?_; rintro r w2 ⟨rfl, n2, rfl⟩)
      go_loopw [6, 9] (fun x s wr => ∃ ds ms n q, LkS w0 M n0 l (k + 1) (some q) ds ms n x wr ∧ s = .string (mk (spD q)) ∧ (q = e.1 ∨ q ∈ ancs e.1)) (fun _ s _ => szOf s)
      case atStart =>
        obtain ⟨ds, ms, n, q, h1, h2, h3⟩ := HS1.out
        exact ⟨ds, ms, n, q, h1.drew _, by rw [h2], h3⟩
      case round =>
        obtain ⟨ds, ms, n, q, hst, rfl, hq⟩ := hrel
        have HST := hid hst
        have HQ := hid hq
        obtain ⟨ax, cx, hx⟩ := hst.own.ents.shape
        generalize (ds.map dirE).length = nx at hx
        subst hx
        clear hst hq HS1 c0 c1 c2
        have HOQ := hid (show okP q = true by rcases HQ.out with h | h; · rw [h]; exact HOK.out
                                              · exact (ancs_ok HOK.out h).1)
        have HOD := hid (okP_spD HOQ.out)
        have HQN := hid (show q ≠ [] by rcases HQ.out with h | h; · rw [h]; exact mayP_ne HME.out
                                        · exact (ancs_ok HOK.out h).2)
        obtain ⟨d, HD⟩ : ∃ d, Hid (spD q = d) := ⟨_, rfl⟩
        rw [HD.out] at HOD ⊢
        by_cases hd0 : d = []
        · have HN : Hid (∃ ds ms n, LkS w0 M n0 l (k + 1) none ds ms n (.slice ax nx cx) wr) := ⟨ds, ms, n, HST.out.lck.stop (Or.inl (by rw [HD.out]; exact hd0)), HST.out.own, HST.out.mp, HST.out.look, HST.out.num, HST.out.bel⟩
          subst hd0
          have e1 : (mk []).toList = [] := bl_mk []
          generalize mk [] = sd at *
          clear HST HQ
          go_wp2
          exact ⟨⟨k + 1, by simp, by omega, HN.out⟩, by simp [intOf]; omega⟩
        · have e1 : ¬ (mk d).toList = [] := fun h => hd0 ((bl_mk d).symm.trans h)
          have e2 : ((mk d).toList == []) = false := by simpa using e1
          have e3 : (mk d).toList.isEmpty = false := by simpa using e1
          have HDN := hid hd0
          have HDL := hid (okP_short HOD.out)
          have hlook := HST.out.mp.look d (by have := HDL.out; omega)
          have HLK := hid (HST.out.look d)
          generalize lookM ms d = K at hlook HLK
          clear hd0
          by_cases hk2 : K = 2
          · have HN : Hid (∃ ds ms n, LkS w0 M n0 l (k + 1) none ds ms n (.slice ax nx cx) wr) := ⟨ds, ms, n, HST.out.lck.stop (Or.inr (by rw [HD.out, ← HLK.out]; exact hk2)), HST.out.own, HST.out.mp, HST.out.look, HST.out.num, HST.out.bel⟩
            subst hk2
            generalize mk d = sd at *
            clear HST HQ
            go_wp2
            exact ⟨⟨k + 1, by simp, by omega, HN.out⟩, by simp [intOf]; omega⟩
          · have hk2' : (K == 2) = false := by simpa using hk2
            by_cases hk0 : K = 0
            · subst hk0
              have HPD := hid (fun W => parent_any d W (by have := HDL.out; omega))
              have HAN := hid (show d ∈ ancs e.1 by rw [← HD.out]; exact ancs_up HOK.out HQ.out (by rw [HD.out]; exact HDN.out))
              have HLC := hid (show Lck l (k + 1) (ds ++ [d]) (some d) by
                have := HST.out.lck.put HMY.out ⟨e, HEM.out, by rw [HD.out]; exact HAN.out⟩ (by rw [HD.out]; exact HLK.out.symm)
                rw [HD.out] at this
                exact this)
              have HNM := hid (show n < maxLen by have := HST.out.num; have := HST.out.lck.len HMY.out; unfold maxLen; omega)
              have HMP := hid HST.out.mp
              have HLN := hid (show (ds.map dirE).length + [dirE d].length ≤ 3298534883328 by have := HST.out.lck.len HMY.out; simp; omega)
              have HSH := hid (spD_short HOD.out HDN.out)
              go_wp2_with (at_mapUpdate; refine wpList_mapUpdate_own _ rfl _ _ _ 66 rfl 9 3 klaw Try.underlying66 _ M n _ rfl HMP.out HNM.out _ _ _ rfl rfl (key_mk d (by have := HDL.out; omega)) _ [] (plainElem_int Try.underlying3 (by decide)) ?_)
              intro w1 hown1 hgrow1
              have HM1 : Hid (Mp w1 M (n + 1) (ms ++ [(d, 2)])) := by unfold Mp; rw [mapD_snoc]; exact hown1
              have HO1 := hid (HST.out.own.kept hgrow1 (Or.inr (fun h => HMP.out.ne HST.out.own h.symm)))
              have HB1 := hid (HST.out.bel.grown hgrow1 HST.out.bel.size (by intro j hj; have := Option.some.inj hj; omega))
              have HLL := hid (fun p => show lookM (ms ++ [(d, 2)]) p = lookK l (ds ++ [d]) p by rw [lookM_snoc, lookK_snoc HLK.out.symm HMY.out, HST.out.look p])
              have HNU := hid HST.out.num
              clear hown1 hgrow1 HMP HST hlook HQ
              have HO2 := hid (HO1.out.below (below_walk w1 (.cells #[.string (mk d), .int .i64 2, .string ⟨#[]⟩] 35)))
              have HM2 := hid (HM1.out.below (below_walk w1 (.cells #[.string (mk d), .int .i64 2, .string ⟨#[]⟩] 35)))
              have HB2 := hid (HB1.out.alloc HB1.out.size (.cells #[.string (mk d), .int .i64 2, .string ⟨#[]⟩] 35))
              have HEN : Hid (Ents (w1.alloc (.cells #[.string (mk d), .int .i64 2, .string ⟨#[]⟩] 35)) (.slice (some ⟨w1.heap.size, 0, none⟩) 1 1) [dirE d]) := ents_one w1 (dirE d)
              go_wp2_with (at_builtin; refine app_ent rfl _ _ rfl w0.heap.size _ (ds.map dirE) rfl HO2.out [dirE d] _ rfl HEN.out HLN.out HB2.out.size ?_)
              intro v5 w5 ho5 hg5 _
              have HM5 := hid (HM2.out.kept hg5 (HM2.out.ne HO2.out))
              have HB5 := hid (HB2.out.grown hg5 HB2.out.size (fun j hj => (HO2.out.lt j hj).1))
              have HN : Hid (LkS w0 M n0 l (k + 1) (some d) (ds ++ [d]) (ms ++ [(d, 2)]) (n + 1) v5 w5) := ⟨HLC.out, by rw [List.map_append]; exact ho5, HM5.out, HLL.out, by have := HNU.out; simp; omega, HB5.out⟩
              obtain ⟨a5, c5, h5⟩ := ho5.ents.shape
              generalize (ds.map dirE ++ [dirE d]).length = n5 at h5
              subst h5
              clear ho5 hg5 HM5 HB5 HO2 HM2 HB2 HEN HO1 HM1 HB1
              go_wp2_with (go_at_call 36; refine (HPD.out _).mono ?_; rintro r w6 ⟨rfl, n6, rfl⟩)
              refine ⟨⟨ds ++ [d], ms ++ [(d, 2)], n + 1, d, HN.out.drew _, rfl, Or.inr HAN.out⟩, ?_⟩
              rw [szOf_mk, szOf_mk]
              exact HSH.out
            · have hk0' : (K == 0) = false := by simpa using hk0
              have HP : Hid (LackPost w0 l (.returned (.tuple #[.slice none 0 0, .int .i64 52])) wr) := by
                refine ⟨Or.inl ⟨?_, rfl⟩, HST.out.bel⟩
                obtain ⟨x, hx, hx1, hx2⟩ := lookK_le (by rw [← HLK.out]; exact hk0) (by rw [← HLK.out]; exact hk2)
                rw [wrongP_iff]
                refine ⟨e, HEM.out, x, hx, ?_, hx2⟩
                rw [hx1, ← HD.out]
                exact ancs_up HOK.out HQ.out (by rw [HD.out]; exact HDN.out)
              generalize mk d = sd at *
              clear HST HQ
              go_wp2
              go_ret2
              exact HP.out
    · have q2 : ¬ (k : Int) < (l.length : Int) := by omega
      obtain rfl : k = l.length := by omega
      have HP : Hid (LackPost w0 l (.returned (.tuple #[.slice ax nx cx, .int .i64 0])) wr) := by
        obtain ⟨h1, h2, h3⟩ := HST.out.lck.done HMY.out HND.out
        exact ⟨Or.inr ⟨h1, ds, _, rfl, HST.out.own, HST.out.lck.nd, h2, h3⟩, HST.out.bel⟩
      clear HST
      go_wp2
      go_ret2
      exact HP.out

end Go.Proofs.Ytgldmepmeampeab

/- Make. -/
namespace Go.Proofs.Ytgldmepmeampeab
open Go.RowKit Go.Maps

theorem szP_perm {a b : List Ent} (h : a.Perm b) : szP a = szP b := by
  unfold szP
  exact (h.map _).sum_nat
theorem szP_dirs (ds : List (List UInt8)) : szP (ds.map dirE) = 0 := by
  induction ds with
  | nil => rfl
  | cons d ds ih => rw [List.map_cons, szP, List.map_cons, List.sum_cons]; unfold szP at ih; rw [ih]; rfl
theorem dirs_paths (ds : List (List UInt8)) : (ds.map dirE).map (·.1) = ds := by
  rw [List.map_map]
  conv => rhs; rw [← List.map_id ds]
  rfl
/-- what comes of the entries and the directories that lack, when they are sorted -/
theorem mk_fit {l l' : List Ent} {ds : List (List UInt8)} (hm : ∀ e ∈ l, mayP e = true) (hn : (l.map (·.1)).Nodup) (hw : wrongP l = false) (hd : ds.Nodup) (hl : ds.length = (lackL l).length) (hmem : ∀ d, d ∈ ds ↔ d ∈ lackL l)
    (hp : l'.Perm (l ++ ds.map dirE)) (hu : l'.Pairwise (fun a b => ¬ cmpL (nms b.1) (nms a.1) < 0)) : fitP l' = mkP l := by
  have hnd : ∀ ds' : List (List UInt8), ds'.Nodup → (∀ d ∈ ds', d ∈ lackL l) → ((l ++ ds'.map dirE).map (·.1)).Nodup := by
    intro ds' h1 h2
    rw [List.map_append, dirs_paths, List.nodup_append]
    refine ⟨hn, h1, fun a ha b hb => ?_⟩
    obtain ⟨y, hy, rfl⟩ := List.mem_map.1 ha
    exact (mem_lackL.1 (h2 b hb)).2 y hy
  have hn1 := hnd ds hd (fun d h => (hmem d).1 h)
  have hn2 := hnd (lackL l) (nodup_lackL l) (fun d h => h)
  have hn3 : (l'.map (·.1)).Nodup := (hp.map _).nodup_iff.2 hn1
  have hup : l'.Pairwise ltE := by
    rw [List.Nodup, List.pairwise_map] at hn3
    refine (hu.and hn3).imp ?_
    rintro a b ⟨e1, e2⟩
    unfold ltE
    have := cmpL_anti (nms a.1) (nms b.1)
    rcases cmpL_range (nms a.1) (nms b.1) with e | e | e
    · omega
    · exact absurd (nms_inj (cmpL_zero e)) e2
    · omega
  have e1 : l' = sortE (l ++ (lackL l).map dirE) := by
    refine sortE_uniq hup hn2 (fun e => ?_)
    rw [hp.mem_iff, List.mem_append, List.mem_append, List.mem_map, List.mem_map]
    constructor
    · rintro (h | ⟨d, h, r⟩)
      · exact Or.inl h
      · exact Or.inr ⟨d, (hmem d).1 h, r⟩
    · rintro (h | ⟨d, h, r⟩)
      · exact Or.inl h
      · exact Or.inr ⟨d, (hmem d).2 h, r⟩
  have e2 : l'.length = l.length + (lackL l).length := by rw [hp.length_eq, List.length_append, List.length_map, hl]
  have e3 : szP l' = szP l := by rw [szP_perm hp, szP_app, szP_dirs]; omega
  have hall : l.all mayP = true := List.all_eq_true.2 hm
  have hmk : mkP l = if 1024 < l.length + (lackL l).length then .error 53 else if 1048576 < szP l then .error 54 else .ok (sortE (l ++ (lackL l).map dirE)) := by
    unfold mkP
    rw [hall, if_neg (show ¬ (true = false) by simp), if_neg (fun h => h hn), hw, if_neg (show ¬ (false = true) by simp)]
  rw [hmk]
  unfold fitP
  rw [e2, e3, ← e1]

/-- the texts of a tree's entries are not too long, nor all together -/
structure Tre (l : List Ent) : Prop where
  len : l.length ≤ 16777216
  shr : ∀ e ∈ l, Shr e
  sz : szP l ≤ 4611686018427387904
theorem Tre.short {l : List Ent} (h : Tre l) : Short l := fun e he => by
  have := h.shr e he
  unfold Shr at this
  omega

set_option maxRecDepth 100000 in
set_option maxHeartbeats 4000000 in
theorem make_any (v : Value) (l : List Ent) (w : World) (h : Ents w v l) (hl : Tre l) :
    Calls Try.prog 12 #[v] w fun r w' => AnsE w' w.heap.size r (mkP l) ∧ Below w.heap.size w w' := by
  obtain ⟨ao, c, rfl⟩ := h.shape
  have H := hid h
  have HT := hid hl
  have hmk := fun W => mk_map l.length W
  have HM0 : Hid (Mp (w.alloc (.map #[] 0)) w.heap.size 0 (ksOf [])) := World.ownsMap_made _ _ _ _
  have HB0 := hid (below_walk w (.map #[] 0))
  have hll := hl.len
  clear h hl
  go_enter Try.func12, Try.ntmps12
  go_wp2
  clear hmk
  go_loopw [15] (fun i wr => ∃ k : Nat, i = .int .i64 k ∧ k ≤ l.length ∧ (∀ e ∈ l.take k, mayP e = true) ∧ Mp wr w.heap.size k (ksOf (l.take k)) ∧ Below w.heap.size w wr) (fun i _ => l.length - (intOf i).toNat)
  case atStart => exact ⟨0, rfl, Nat.zero_le _, fun e he => (by simp at he), HM0.out, HB0.out⟩
  case round =>
    obtain ⟨k, rfl, hk, hmy, hmp, hb⟩ := hrel
    have HMY := hid hmy
    have HMP := hid hmp
    have HB := hid hb
    clear hmy hmp hb HM0 HB0
    by_cases hlt : k < l.length
    · have q2 : (k : Int) < (l.length : Int) := by omega
      obtain ⟨g, o, rfl, hgl, hcell⟩ := (H.out.below HB.out).at k hlt
      obtain ⟨e, HE⟩ : ∃ e, Hid (l.getD k zE = e) := ⟨_, rfl⟩
      have HEM := hid (getD_mem hlt)
      have HTK := hid (take_snoc l k hlt)
      have HKS := hid (ksOf_snoc l k hlt)
      rw [HE.out] at hcell HEM HTK HKS
      obtain ⟨c0, c1, c2⟩ := hcell
      have HSH := hid (HT.out.shr e HEM.out)
      have HMB := hid (may_any e (wr.alloc (.cells #[.string (mk e.1), .int .i64 e.2.1, .string (mk e.2.2)] 35)) (by have := HSH.out.1; omega))
      unfold entA at HMB
      have HBA := hid (below_walk wr (.cells #[.string (mk e.1), .int .i64 e.2.1, .string (mk e.2.2)] 35))
      have HEB := hid (Eb.new wr e)
      go_wp2_with fail
      refine HMB.out.mono ?_
      rintro r w2 ⟨rfl, hb2⟩
      have HE2 := hid (HEB.out.below hb2)
      have HB2 := hid (below_then HBA.out hb2)
      have HM2 := hid (HMP.out.below HB2.out)
      have HBW := hid (HB.out.trans (HB2.out.mono HB.out.size))
      clear hb2 HMB HBA HEB HB2 HMP HB c0 c1 c2
      cases hm : mayP e with
      | false =>
        have HP := hid (show mkP l = .error 50 by
          unfold mkP
          rw [if_pos]
          rw [← Bool.not_eq_true, List.all_eq_true]
          intro h
          have := h e HEM.out
          rw [hm] at this
          cases this)
        clear hm
        go_wp2
        go_ret2
        rw [HP.out]
        exact ⟨rfl, HBW.out⟩
      | true =>
        obtain ⟨g0, g1, g2⟩ := HE2.out.at
        have HWF := hid (show (Lit.int .i64 e.2.1).wf = true by
          have hm' := hm
          unfold mayP at hm'
          simp only [Bool.and_eq_true, decide_eq_true_iff] at hm'
          have : e.2.1 = 1 ∨ e.2.1 = 2 ∨ e.2.1 = 3 := by omega
          rcases this with h | h | h <;> rw [h] <;> decide)
        have HKEY := hid (key_mk e.1 (by have := HSH.out.1; omega))
        have HMA := hid (show ∀ x ∈ l.take (k + 1), mayP x = true by
          intro x hx
          rw [HTK.out, List.mem_append, List.mem_singleton] at hx
          rcases hx with hx | rfl
          · exact HMY.out x hx
          · exact hm)
        clear hm
        go_wp2_with (at_mapUpdate; refine wpList_mapUpdate_own _ rfl _ _ _ 66 rfl 9 3 klaw Try.underlying66 _ w.heap.size k _ rfl HM2.out (by unfold maxLen; omega) _ _ _ rfl rfl HKEY.out _ [] (plainElem_int Try.underlying3 HWF.out) ?_)
        intro w3 hown3 hgrow3
        have HM3 : Hid (Mp w3 w.heap.size (k + 1) (ksOf (l.take (k + 1)))) := by unfold Mp; rw [HKS.out, mapD_snoc]; exact hown3
        have HB3 := hid (HBW.out.grown hgrow3 HBW.out.size (by intro j hj; have := Option.some.inj hj; omega))
        clear hown3 hgrow3 HM2 HBW HE2 g0 g1 g2
        go_wp2
        exact ⟨⟨k + 1, by simp, by omega, HMA.out, HM3.out, HB3.out⟩, by simp [intOf]; omega⟩
    · have q2 : ¬ (k : Int) < (l.length : Int) := by omega
      obtain rfl : k = l.length := by omega
      rw [List.take_length] at HMY HMP
      have HSZ := hid (size_mapD (ksOf l))
      rw [ksOf_keys, show (ksOf l).length = l.length by simp [ksOf]] at HSZ
      obtain ⟨S, HS⟩ : ∃ S : Nat, Hid (Maps.size (mapD (ksOf l)) = S) := ⟨_, rfl⟩
      rw [HS.out] at HSZ
      by_cases hnd : (l.map (·.1)).Nodup
      · have q3 : ¬ (S : Int) < (l.length : Int) := by have := HSZ.out.2.2 hnd; omega
        have HND := hid hnd
        have HLK := hid (lacking_any w w.heap.size l.length _ l wr H.out HB.out HMY.out hnd HMP.out (Nat.le_refl _) (by omega) (by omega))
        clear hnd
        have hlen := World.ownsMap.len HMP.out Try.underlying66 3
        rw [HS.out] at hlen
        go_wp2_with fail
        refine HLK.out.mono ?_
        rintro r w3 ⟨⟨hw, rfl⟩ | ⟨hw, ds, v3, rfl, ho3, hd1, hd2, hd3⟩, hb3⟩
        · have HP := hid (show mkP l = .error 52 by
            unfold mkP
            rw [List.all_eq_true.2 HMY.out, if_neg (show ¬ (true = false) by simp), if_neg (fun h => h HND.out), hw, if_pos rfl])
          clear hw HLK HMP
          go_wp2
          go_ret2
          rw [HP.out]
          exact ⟨rfl, hb3⟩
        · have HO3 := hid ho3
          have HB3 := hid hb3
          have HDL := hid hd2
          have HFIT := hid (fun (l' : List Ent) h1 h2 => mk_fit (l := l) (l' := l') HMY.out HND.out hw hd1 hd2 hd3 h1 h2)
          have HDK := hid (fun e (he : e ∈ ds.map dirE) => show okP e.1 = true ∧ Shr e by
            obtain ⟨d, hd, rfl⟩ := List.mem_map.1 he
            obtain ⟨⟨x, hx, hxa⟩, _⟩ := mem_lackL.1 ((hd3 d).1 hd)
            have hok := (ancs_ok (mayP_ok (HMY.out x hx)) hxa).1
            exact ⟨hok, by have := okP_short hok; unfold Shr dirE; simp; omega⟩)
          have HDN := hid (show ds.length ≤ 32 * l.length by
            refine Nat.le_trans (nodup_le hd1 (fun d hd => ?_)) (ancs_len HMY.out)
            obtain ⟨⟨e, he, h1⟩, _⟩ := mem_lackL.1 ((hd3 d).1 hd)
            exact List.mem_flatMap.2 ⟨e, he, h1⟩)
          obtain ⟨a3, c3, h3⟩ := ho3.ents.shape
          generalize (ds.map dirE).length = n3 at h3
          subst h3
          clear hw ho3 hb3 hd1 hd2 hd3 HLK HMP
          have HLEN := hid (show (l ++ ds.map dirE).length ≤ 1099511627776 by rw [List.length_append, List.length_map]; have := HDN.out; omega)
          have HTR := hid (trs_two w3 _ _ l (ds.map dirE) 22 (H.out.below HB3.out) HO3.out.ents)
          have HCC := hid (concat_any _ _ _ HTR.out (by simp) (by simpa using HLEN.out))
          rw [show [l, ds.map dirE].flatten = l ++ ds.map dirE by simp] at HCC
          have HB4 := hid (HB3.out.trans ((below_walk w3 (.cells #[.slice ao l.length c, .slice a3 n3 c3] 22)).mono HB3.out.size))
          go_wp2_with fail
          refine HCC.out.mono ?_
          rintro r w5 ⟨v5, rfl, ho5, hb5⟩
          have HO5 := hid (ho5.le HB4.out.size)
          have HB5 := hid (HB4.out.trans (hb5.mono HB4.out.size))
          obtain ⟨a5, c5, h5⟩ := ho5.ents.shape
          generalize (l ++ ds.map dirE).length = n5 at h5
          subst h5
          clear ho5 hb5 HCC HTR
          have HOK := hid (fun e (he : e ∈ l ++ ds.map dirE) => show okP e.1 = true ∧ Shr e by
            rw [List.mem_append] at he
            rcases he with he | he
            · exact ⟨mayP_ok (HMY.out e he), HT.out.shr e he⟩
            · exact HDK.out e he)
          have HSR := hid (sort_any w.heap.size _ _ w5 HO5.out (fun e he => (HOK.out e he).1) HLEN.out)
          go_wp2_with fail
          refine HSR.out.mono ?_
          rintro r w6 ⟨rfl, l', hs⟩
          have HO6 := hid hs.own
          have HF := hid (HFIT.out l' hs.perm (hs.up.imp (fun h => by omega)))
          have HB6 := hid (HB5.out.grown hs.grown HB5.out.size (fun j hj => (HO5.out.lt j hj).1))
          have HFT := hid (fit_any _ l' w6 hs.own.ents (by rw [hs.perm.length_eq]; exact HLEN.out) (fun e he => (HOK.out e (hs.perm.mem_iff.1 he)).2) (by rw [szP_perm hs.perm, szP_app, szP_dirs]; have := HT.out.sz; omega))
          clear hs HSR
          go_wp2_with fail
          refine HFT.out.mono ?_
          rintro r w7 ⟨hr, hb7⟩
          rw [HF.out] at hr
          have HB7 := hid (HB6.out.trans (hb7.mono HB6.out.size))
          have HSZ6 := hid HB6.out.size
          clear hb7 HFT HO6 HO5 HO3
          cases hmp : mkP l with
          | error x =>
            rw [hmp] at hr
            obtain rfl := hr
            have HX := hid hmp
            clear hmp
            go_wp2
            go_ret2
            refine ⟨?_, HB7.out⟩
            rw [HX.out]
            rfl
          | ok t =>
            rw [hmp] at hr
            obtain ⟨v7, rfl, ho7⟩ := hr
            have HO7 := hid ho7
            obtain ⟨a7, c7, h7⟩ := ho7.ents.shape
            generalize t.length = n7 at h7
            subst h7
            have HX := hid hmp
            clear ho7 hmp
            go_wp2
            go_ret2
            refine ⟨?_, HB7.out⟩
            rw [HX.out]
            exact ⟨_, rfl, HO7.out.le HSZ6.out⟩
      · have q3 : (S : Int) < (l.length : Int) := by have h1 := HSZ.out.1; have : ¬ S = l.length := fun h => hnd (HSZ.out.2.1 h); omega
        have HP := hid (show mkP l = .error 9 by
          unfold mkP
          rw [List.all_eq_true.2 HMY.out, if_neg (show ¬ (true = false) by simp), if_pos hnd])
        clear hnd
        have hlen := World.ownsMap.len HMP.out Try.underlying66 3
        rw [HS.out] at hlen
        go_wp2
        go_ret2
        rw [HP.out]
        exact ⟨rfl, HB.out⟩

end Go.Proofs.Ytgldmepmeampeab

/- Entries out of their reading. -/
namespace Go.Proofs.Ytgldmepmeampeab
open Go.ChangeShapes Go.WideShapes Go.ChangeAt Go.RowKit

theorem cellsEnt : Try.prog.cellsOf 35 = 3 := by kernel_rfl
theorem cellsInt : Try.prog.cellsOf 3 = 1 := by kernel_rfl
theorem three_of {α : Type} {l : List α} (h : l.length = 3) : ∃ a b c, l = [a, b, c] := by
  match l, h with
  | [a, b, c], _ => exact ⟨a, b, c, rfl⟩

/-- entries of bulk -/
structure EBk (es : List Ent) : Prop where
  len : es.length ≤ 1048576
  bulk : Bulk es
  sz : szP es ≤ 1048576
theorem EBk.tre {es : List Ent} (h : EBk es) : Tre es := ⟨by have := h.len; omega, fun e he => by have := h.bulk e he; unfold Shr; omega, by have := h.sz; omega⟩

section
variable {H : Type} {enc : TypeId × Value → H} {W : World} {spare : Nat → Bool} {held : Bool}

/-- one entry -/
theorem ent_b {fuel : Nat} {cs : List Value} {x : DataW H × List MemPlace} (h : DataW.trod enc Try.prog W 0 spare held fuel 35 cs = some x) :
    ∃ e : Ent, cs = entV e ∧ e.1.length + e.2.2.length < Rows.uptoBulk x.1 := by
  obtain ⟨y0, y1, y2, n, hx, hl, t0, t1, t2⟩ := Go.Deep.trod_struct3 Try.underlying35 h
  rw [cellsEnt] at hl
  obtain ⟨a, b, c, rfl⟩ := three_of hl
  simp only [cellsStr, cellsInt] at t0 t1 t2
  obtain ⟨s0, e0, f0, _⟩ := DataW.trod_string Try.underlying9 t0
  obtain ⟨K, e1, f1⟩ := DataW.trod_int Try.underlying3 t1
  obtain ⟨s2, e2, f2, _⟩ := DataW.trod_string Try.underlying9 t2
  simp at e0 e1 e2
  subst e0 e1 e2
  refine ⟨(bl s0, K, bl s2), by unfold entV; rw [mk_bl, mk_bl], ?_⟩
  rw [hx, f0, f2]
  have := bulk_pos y1.1
  simp only [Rows.uptoBulk, Rows.uptoBulkAll, bl_eq]
  omega

set_option maxRecDepth 100000 in
theorem ents_b {ao : Option Addr} {n c : Nat} {d : DataW H} {pl : List MemPlace} (h : DataW.Trod enc Try.prog W 0 spare held 22 (.slice ao n c) d pl) (hk : Rows.uptoBulk d ≤ 1048576) :
    ∃ es : List Ent, Ents W (.slice ao n c) es ∧ EBk es := by
  obtain ⟨fuel, hf⟩ := h
  rcases Go.Deep.open_slice Try.underlying22 hf with ⟨hcs, _⟩ | ⟨a, len, cap, m, n', D, Pl, hcs, _, hl, hm, hmm, hx, hel⟩
  · simp [Value.cells] at hcs
    obtain ⟨rfl, rfl, rfl⟩ := hcs
    exact ⟨[], Or.inl ⟨_, _, rfl, rfl, fun _ => rfl⟩, by simp, fun e h => (by cases h), by simp [szP]⟩
  · simp [Value.cells] at hcs
    obtain ⟨rfl, rfl, rfl⟩ := hcs
    have hlm : n ≤ m := by rw [hmm]; split <;> omega
    rw [cellsEnt] at hel
    simp only [Prod.mk.injEq] at hx
    have hbd : Rows.uptoBulkAll ((List.range n).map D) ≤ 1048576 := by rw [hx.1] at hk; simp only [Rows.uptoBulk] at hk; omega
    have hn : n ≤ 1048576 := by
      have := bulk_count ((List.range n).map D)
      simp at this
      omega
    obtain ⟨es, hes, hp⟩ := list_of (P := fun i (e : Ent) => W.cell? (a.add (i * 3)) = some (.string (mk e.1)) ∧ W.cell? ((a.add (i * 3)).add 1) = some (.int .i64 e.2.1) ∧ W.cell? ((a.add (i * 3)).add 2) = some (.string (mk e.2.2)) ∧ e.1.length + e.2.2.length < Rows.uptoBulk (D i)) (n := n) (by
      intro i hi
      obtain ⟨cs', hc, ht⟩ := hel i (by omega)
      obtain ⟨e, rfl, hb⟩ := ent_b ht
      have hh := World.cells?_some hc
      exact ⟨e, by simpa [Addr.add, entV] using hh.2.2 0 (by omega), by simpa [entV] using hh.2.2 1 (by omega), by simpa [entV] using hh.2.2 2 (by omega), hb⟩)
    have hsum : ∀ k, k ≤ n → szP (es.take k) ≤ Rows.uptoBulkAll ((List.range k).map D) := by
      intro k
      induction k with
      | zero => intro _; simp [szP]
      | succ k ih =>
        intro hk2
        have h1 := ih (by omega)
        rw [take_snoc es k (by omega), szP_snoc, bulk_range]
        have h2 := (hp k (es.getD k zE) (by rw [List.getD_eq_getElem?_getD, List.getElem?_eq_getElem (show k < es.length by omega)]; rfl)).2.2.2
        omega
    refine ⟨es, ?_, by omega, ?_, ?_⟩
    · rcases Nat.eq_zero_or_pos n with rfl | hpos
      · exact Or.inl ⟨_, _, rfl, List.length_eq_zero_iff.1 hes, fun e => by cases e⟩
      · have hg : ∀ j, j < n → es[j]? = some (es.getD j zE) := fun j hj => by rw [List.getD_eq_getElem?_getD, List.getElem?_eq_getElem (show j < es.length by omega)]; rfl
        have h0 := (hp 0 _ (hg 0 hpos)).1
        have ha : a = ⟨a.block, a.off, none⟩ := addr_plain (v := .string (mk (es.getD 0 zE).1)) (by simpa [Addr.add] using h0)
        have hlt : a.block < W.heap.size := World.block_lt_of_cell? W a (u := .string (mk (es.getD 0 zE).1)) (by simpa [Addr.add] using h0)
        generalize a.block = g at ha hlt
        generalize a.off = o at ha
        subst ha
        refine Or.inr ⟨g, o, c, by rw [hes], hlt, by rw [hes]; exact hl, fun j hj => ?_⟩
        obtain ⟨c0, c1, c2, _⟩ := hp j _ (hg j (by omega))
        simp only [add_plain] at c0 c1 c2
        exact ⟨c0, c1, c2⟩
    · intro e he
      obtain ⟨j, hj, rfl⟩ := List.mem_iff_getElem.1 he
      have h1 := (hp j _ (List.getElem?_eq_getElem hj)).2.2.2
      have h2 : Rows.uptoBulk (D j) ≤ 1048576 := Nat.le_trans (bulk_mem (List.mem_map.2 ⟨j, List.mem_range.2 (by omega), rfl⟩)) hbd
      omega
    · have := hsum n (Nat.le_refl _)
      rw [List.take_of_length_le (by omega)] at this
      omega
end

end Go.Proofs.Ytgldmepmeampeab

/- Entries are compared. -/
namespace Go.Proofs.Ytgldmepmeampeab
open Go.RowKit

theorem entG : Try.prog.eqGuardType Try.prog.depth 35 = false := by kernel_rfl
theorem eq_run (s1 s2 d1 d2 : ByteArray) (k1 k2 : Int) (w : World) : (Op.equalIn 10000 35 (.agg #[.string s1, .int .i64 k1, .string d1]) (.agg #[.string s2, .int .i64 k2, .string d2])).run Try.prog w = .ok (s1.toList == s2.toList && k1 == k2 && d1.toList == d2.toList) w := by
  have hS : Try.prog.underlying 35 = some (.struct (Try.prog.fieldsOf 35)) := by kernel_rfl
  have hp : Try.prog.stoodInHeld 35 = false := by kernel_rfl
  have u3 := Try.underlying3
  have a3 := Try.isAgg3
  have z3 := Try.sizeOf3
  have u9 := Try.underlying9
  have a9 := Try.isAgg9
  have z9 := Try.sizeOf9
  rw [show (10000 : Nat) = 9999 + 1 from rfl, run_equalIn_agg w 9999 35 _ _ hS hp]
  simp only [Program.fieldsOf, Try.underlying35]
  go_simp
  by_cases h1 : s1.toList = s2.toList <;> by_cases h2 : k1 = k2 <;> by_cases h3 : d1.toList = d2.toList <;> simp [h1, h2, h3]
theorem eqb_ent (a b : Ent) : ((mk a.1).toList == (mk b.1).toList && a.2.1 == b.2.1 && (mk a.2.2).toList == (mk b.2.2).toList) = decide (a = b) := by
  have e1 : ∀ l, (mk l).toList = l := bl_mk
  rw [e1, e1, e1, e1, Bool.eq_iff_iff]
  obtain ⟨p, k, d⟩ := a
  obtain ⟨p', k', d'⟩ := b
  simp [and_assoc]
theorem eql_ent (a b : Ent) (w : World) : (binOp .eql 35 (.agg #[.string (mk a.1), .int .i64 a.2.1, .string (mk a.2.2)]) (.agg #[.string (mk b.1), .int .i64 b.2.1, .string (mk b.2.2)])).run Try.prog w = .ok (.bool (decide (a = b))) w := by
  rw [run_eql_struct, eq_run, eqb_ent]
  rfl
theorem neq_ent (a b : Ent) (w : World) : (binOp .neq 35 (.agg #[.string (mk a.1), .int .i64 a.2.1, .string (mk a.2.2)]) (.agg #[.string (mk b.1), .int .i64 b.2.1, .string (mk b.2.2)])).run Try.prog w = .ok (.bool (!decide (a = b))) w := by
  rw [run_neq_struct, eq_run, eqb_ent]
  rfl

end Go.Proofs.Ytgldmepmeampeab

/- The document's Size and Same. -/
namespace Go.Proofs.Ytgldmepmeampeab
open Go.RowKit Go.BigFrame

theorem ext_getD {a b : List Ent} (h : a.length = b.length) (hs : ∀ j, j < a.length → a.getD j zE = b.getD j zE) : a = b := by
  apply List.ext_getElem h
  intro i h1 h2
  have := hs i h1
  simpa [List.getD_eq_getElem?_getD, h1, h2] using this

set_option maxRecDepth 100000 in
set_option maxHeartbeats 1000000 in
theorem rsame_any (va vb : Value) (a b : List Ent) (w : World) (ha : Ents w va a) (hb : Ents w vb b) (hn : a.length ≤ 4611686018427387904) :
    Calls Try.prog 11 #[va, vb] w fun r w' => r = .returned (.bool (decide (a = b))) ∧ ∃ q, w' = w.drewN q := by
  obtain ⟨ao, ca, rfl⟩ := ha.shape
  obtain ⟨bo, cb, rfl⟩ := hb.shape
  have HA := hid ha
  have HB := hid hb
  by_cases hlen : a.length = b.length
  · have q1 : (a.length : Int) = (b.length : Int) := by omega
    have HL := hid hlen
    clear hlen ha hb
    go_enter Try.func11, Try.ntmps11
    go_wp2
    go_loopw [5] (fun i wr => ∃ k : Nat, i = .int .i64 k ∧ k ≤ a.length ∧ (∀ j, j < k → a.getD j zE = b.getD j zE) ∧ ∃ q, wr = w.drewN q) (fun i _ => a.length - (intOf i).toNat)
    case atStart => exact ⟨0, rfl, Nat.zero_le _, fun j hj => by omega, 0, rfl⟩
    case round =>
      obtain ⟨k, rfl, hk, hs, q, rfl⟩ := hrel
      have HS := hid hs
      clear hs
      by_cases hlt : k < a.length
      · have q2 : (k : Int) < (a.length : Int) := by omega
        have q2b : (k : Int) < (b.length : Int) := by omega
        obtain ⟨g, o, rfl, hgl, hcell⟩ := HA.out.at k hlt
        obtain ⟨g', o', rfl, hgl', hcell'⟩ := HB.out.at k (by have := HL.out; omega)
        obtain ⟨e, HE⟩ : ∃ e, Hid (a.getD k zE = e) := ⟨_, rfl⟩
        obtain ⟨f, HF⟩ : ∃ f, Hid (b.getD k zE = f) := ⟨_, rfl⟩
        rw [HE.out] at hcell
        rw [HF.out] at hcell'
        obtain ⟨c0, c1, c2⟩ := hcell
        obtain ⟨d0, d1, d2⟩ := hcell'
        have hg := entG
        have hne := fun W => neq_ent e f W
        obtain ⟨X, HX⟩ : ∃ X, Hid (decide (e = f) = X) := ⟨_, rfl⟩
        rw [HX.out] at hne
        have HNE := hid (fun (h : X = false) => show decide (a = b) = false from by
          rw [decide_eq_false_iff_not]
          rintro rfl
          rw [← HE.out, ← HF.out, h] at HX
          simpa using HX.out)
        have HEQ := hid (fun (h : X = true) => show ∀ j, j < k + 1 → a.getD j zE = b.getD j zE from by
          intro j hj
          by_cases hjk : j = k
          · subst hjk
            rw [HE.out, HF.out]
            have := HX.out
            rw [h, decide_eq_true_iff] at this
            exact this
          · exact HS.out j (by omega))
        clear HX
        generalize mk e.1 = s1 at *
        generalize mk e.2.2 = s2 at *
        generalize mk f.1 = s3 at *
        generalize mk f.2.2 = s4 at *
        generalize e.2.1 = k1 at *
        generalize f.2.1 = k2 at *
        cases X with
        | true =>
          have HEQ2 := hid (HEQ.out rfl)
          clear HEQ HNE
          go_wp2_with fail
          go_quiet (fail)
          go_wp2
          exact ⟨⟨k + 1, by simp, by omega, HEQ2.out, q + nq, by simp⟩, by simp [intOf]; omega⟩
        | false =>
          have HNE2 := hid (HNE.out rfl)
          clear HEQ HNE
          go_wp2_with fail
          go_quiet (fail)
          go_wp2
          go_ret
          exact ⟨ret_bb HNE2.out.symm, q + nq, by simp⟩
      · have q2 : ¬ (k : Int) < (a.length : Int) := by omega
        obtain rfl : k = a.length := by omega
        have HD := hid (show decide (a = b) = true by rw [decide_eq_true_iff]; exact ext_getD HL.out HS.out)
        go_wp2
        go_ret
        exact ⟨ret_bb HD.out.symm, q, rfl⟩
  · have q1 : ¬ (a.length : Int) = (b.length : Int) := by omega
    have q2 : ((a.length : Int) == (b.length : Int)) = false := by simp; omega
    have HD := hid (show decide (a = b) = false by rw [decide_eq_false_iff_not]; intro h; exact hlen (by rw [h]))
    clear hlen ha hb
    go_enter Try.func11, Try.ntmps11
    go_wp2
    go_ret
    exact ⟨ret_bb HD.out.symm, 0, rfl⟩

end Go.Proofs.Ytgldmepmeampeab

/- A right tree's entries in any order; entries that change places in memory; numbers out of their reading. -/
namespace Go.Proofs.Ytgldmepmeampeab
open Go.ChangeShapes Go.WideShapes Go.ChangeAt Go.RowKit

theorem anc_dir {t : List Ent} (h : Ris t) {e : Ent} (he : e ∈ t) {d : List UInt8} (hd : d ∈ ancs e.1) : ∃ x ∈ t, x.1 = d ∧ x.2.1 = 2 := by
  obtain ⟨j, h1, h2, rfl⟩ := mem_ancs.1 hd
  rcases anc h he _ j rfl h2 with h3 | ⟨x, hx, h3, h4⟩
  · omega
  · exact ⟨x, hx, by rw [← h3, txt_nms], h4⟩
theorem mkP_right {t l : List Ent} (h : Rgt t) (hp : l.Perm t) : mkP l = .ok t := by
  have hnt := pair_nodup h.up
  have hn : (l.map (·.1)).Nodup := (hp.map _).nodup_iff.2 hnt
  have hm : l.all mayP = true := List.all_eq_true.2 (fun e he => h.may e (hp.mem_iff.1 he))
  have hw : wrongP l = false := by
    rw [Bool.eq_false_iff]
    intro hw
    obtain ⟨e, he, x, hx, h1, h2⟩ := wrongP_iff.1 hw
    obtain ⟨y, hy, h3, h4⟩ := anc_dir h.toRis (hp.mem_iff.1 he) h1
    have := nd_uniq hnt hy (hp.mem_iff.1 hx) h3
    subst this
    exact h2 h4
  have hl : lackL l = [] := by
    rw [List.eq_nil_iff_forall_not_mem]
    intro d hd
    obtain ⟨⟨e, he, h1⟩, h2⟩ := mem_lackL.1 hd
    obtain ⟨y, hy, h3, _⟩ := anc_dir h.toRis (hp.mem_iff.1 he) h1
    exact h2 y (hp.mem_iff.2 hy) h3
  unfold mkP
  rw [hm, if_neg (show ¬ (true = false) by simp), if_neg (fun h => h hn), hw, if_neg (show ¬ (false = true) by simp), hl, List.length_nil, hp.length_eq, if_neg (by have := h.many; omega), szP_perm hp, if_neg (by have := h.big; omega), List.map_nil, List.append_nil]
  rw [← sortE_uniq h.up hn (fun e => hp.mem_iff.symm)]
theorem swap_perm {l : List Ent} {i k : Nat} (hi : i < l.length) (hk : k < l.length) : ((l.set i (l.getD k zE)).set k (l.getD i zE)).Perm l := by
  have e1 : l.getD k zE = l[k] := by simp [List.getD_eq_getElem?_getD, hk]
  have e2 : l.getD i zE = l[i] := by simp [List.getD_eq_getElem?_getD, hi]
  rw [e1, e2]
  exact List.set_set_perm hi hk

/-- entries in block g that may be written -/
structure Shf (w : World) (g : Nat) (l : List Ent) : Prop where
  ats : ∀ j, j < l.length → EntAt w g (j * 3) (l.getD j zE)
  th : ∀ j, j < l.length → w.there g (j * 3) 3
  lt : g < w.heap.size
theorem OwnE.shf {w : World} {base : Nat} {v : Value} {es : List Ent} (h : OwnE w base v es) : (v = .slice none 0 0 ∧ es = []) ∨ ∃ g cap, v = .slice (some ⟨g, 0, none⟩) es.length cap ∧ base ≤ g ∧ es.length ≤ cap ∧ Shf w g es := by
  rcases h.forms with h | ⟨g, cap, hv, h1, h2, h3, h4, h5, h6⟩
  · exact Or.inl h
  · refine Or.inr ⟨g, cap, hv, h1, h3, h6, fun j hj i hi => ⟨?_, h5 _⟩, h2⟩
    obtain ⟨c0, c1, c2⟩ := h6 j hj
    have : i = 0 ∨ i = 1 ∨ i = 2 := by omega
    rcases this with rfl | rfl | rfl
    · rw [Nat.add_zero, c0]; rfl
    · rw [c1]; rfl
    · rw [c2]; rfl
theorem Shf.ents {w : World} {g : Nat} {l : List Ent} (h : Shf w g l) (c : Nat) (hc : l.length ≤ c) : Ents w (.slice (some ⟨g, 0, none⟩) l.length c) l :=
  Or.inr ⟨g, 0, c, rfl, h.lt, hc, fun j hj => by rw [Nat.zero_add]; exact h.ats j hj⟩
theorem below_cells {B g : Nat} {a : World} (hg : B ≤ g) : ∀ (vs : List Value) (o : Nat) (w : World), Below B a w → Below B a (w.setCells g o vs)
  | [], _, _, h => h
  | v :: vs, o, _, h => below_cells hg vs (o + 1) _ (h.setCell (p := ⟨g, o, none⟩) hg v)
theorem size_cells (g : Nat) : ∀ (vs : List Value) (o : Nat) (w : World), w.heap.size ≤ (w.setCells g o vs).heap.size
  | vs, o, w => (below_cells (B := 0) (Nat.zero_le _) vs o w (Below.refl _ _)).size
theorem Shf.set {w : World} {g : Nat} {l : List Ent} (h : Shf w g l) {i : Nat} (hi : i < l.length) (e : Ent) : Shf (w.setCells g (i * 3) (entV e)) g (l.set i e) := by
  have hl : (entV e).length = 3 := rfl
  refine ⟨fun j hj => ?_, fun j hj => World.there_setCells (h.th j (by simpa using hj)) _ _ _, Nat.lt_of_lt_of_le h.lt (size_cells _ _ _ _)⟩
  rw [List.length_set] at hj
  by_cases hji : j = i
  · subst hji
    have hs := World.cell?_setCells_in g (entV e) (j * 3) w (fun k hk => (h.th j hj k (by rw [hl] at hk; exact hk)).1)
    have e1 : (l.set j e).getD j zE = e := by simp [List.getD_eq_getElem?_getD, hj]
    rw [e1]
    exact ⟨by simpa [entV] using hs 0 (by rw [hl]; omega), by simpa [entV] using hs 1 (by rw [hl]; omega), by simpa [entV] using hs 2 (by rw [hl]; omega)⟩
  · have e1 : (l.set i e).getD j zE = l.getD j zE := by
      rw [List.getD_eq_getElem?_getD, List.getD_eq_getElem?_getD, List.getElem?_set_ne (fun e => hji e.symm)]
    rw [e1]
    obtain ⟨c0, c1, c2⟩ := h.ats j hj
    exact ⟨(World.cell?_setCells_out g _ _ w ⟨g, _, none⟩ (fun _ _ => by show j * 3 < i * 3 ∨ i * 3 + 3 ≤ j * 3; omega)).trans c0,
      (World.cell?_setCells_out g _ _ w ⟨g, _, none⟩ (fun _ _ => by show j * 3 + 1 < i * 3 ∨ i * 3 + 3 ≤ j * 3 + 1; omega)).trans c1,
      (World.cell?_setCells_out g _ _ w ⟨g, _, none⟩ (fun _ _ => by show j * 3 + 2 < i * 3 ∨ i * 3 + 3 ≤ j * 3 + 2; omega)).trans c2⟩
theorem Shf.range {w : World} {g : Nat} {l : List Ent} (h : Shf w g l) (j : Nat) (hj : j < l.length) (e : Ent) (he : l.getD j zE = e) : w.rangeAt g (j * 3) (entV e) := by
  obtain ⟨c0, c1, c2⟩ := h.ats j hj
  rw [he] at c0 c1 c2
  intro i v hv
  match i, hv with
  | 0, hv => simp [entV] at hv; rw [← hv]; exact c0
  | 1, hv => simp [entV] at hv; rw [← hv]; exact c1
  | 2, hv => simp [entV] at hv; rw [← hv]; exact c2
  | n + 3, hv => simp [entV] at hv
theorem Shf.below {w w' : World} {g : Nat} {l : List Ent} (h : Shf w g l) (hb : Below w.heap.size w w') : Shf w' g l :=
  ⟨fun j hj => (h.ats j hj).below h.lt hb, fun j hj i hi => ⟨by rw [hb.cell (p := ⟨g, j * 3 + i, none⟩) h.lt]; exact (h.th j hj i hi).1, by rw [hb.frozen (p := ⟨g, j * 3 + i, none⟩) h.lt]; exact (h.th j hj i hi).2⟩, Nat.lt_of_lt_of_le h.lt hb.size⟩

/-- v is a slice of these numbers -/
def Ints (w : World) (v : Value) (ks : List Int) : Prop := ∃ ao c, v = .slice ao ks.length c ∧ ∀ j, j < ks.length → ∃ g o, ao = some ⟨g, o, none⟩ ∧ g < w.heap.size ∧ w.cell? ⟨g, o + j, none⟩ = some (.int .i64 (ks.getD j 0))
theorem Ints.below {w w' : World} {v : Value} {ks : List Int} (h : Ints w v ks) (hb : Below w.heap.size w w') : Ints w' v ks := by
  obtain ⟨ao, c, e, h⟩ := h
  refine ⟨ao, c, e, fun j hj => ?_⟩
  obtain ⟨g, o, h1, h2, h3⟩ := h j hj
  exact ⟨g, o, h1, Nat.lt_of_lt_of_le h2 hb.size, (hb.cell (p := ⟨g, o + j, none⟩) h2).trans h3⟩

section
variable {H : Type} {enc : TypeId × Value → H} {W : World} {spare : Nat → Bool} {held : Bool}
set_option maxRecDepth 100000 in
theorem ints_b {ao : Option Addr} {n c : Nat} {d : DataW H} {pl : List MemPlace} (h : DataW.Trod enc Try.prog W 0 spare held 33 (.slice ao n c) d pl) (hk : Rows.uptoBulk d ≤ 1048576) :
    ∃ ks : List Int, Ints W (.slice ao n c) ks ∧ ks.length ≤ 1048576 := by
  obtain ⟨fuel, hf⟩ := h
  rcases Go.Deep.open_slice Try.underlying33 hf with ⟨hcs, _⟩ | ⟨a, len, cap, m, n', D, Pl, hcs, _, hl, hm, hmm, hx, hel⟩
  · simp [Value.cells] at hcs
    obtain ⟨rfl, rfl, rfl⟩ := hcs
    exact ⟨[], ⟨_, _, rfl, fun j hj => (by simp at hj)⟩, by simp⟩
  · simp [Value.cells] at hcs
    obtain ⟨rfl, rfl, rfl⟩ := hcs
    have hlm : n ≤ m := by rw [hmm]; split <;> omega
    rw [cellsInt] at hel
    simp only [Prod.mk.injEq] at hx
    have hbd : Rows.uptoBulkAll ((List.range n).map D) ≤ 1048576 := by rw [hx.1] at hk; simp only [Rows.uptoBulk] at hk; omega
    have hn : n ≤ 1048576 := by
      have := bulk_count ((List.range n).map D)
      simp at this
      omega
    obtain ⟨ks, hes, hp⟩ := list_of (P := fun i (k : Int) => W.cell? (a.add i) = some (.int .i64 k)) (n := n) (by
      intro i hi
      obtain ⟨cs', hc, ht⟩ := hel i (by omega)
      obtain ⟨K, e1, _⟩ := DataW.trod_int Try.underlying3 ht
      have hh := World.cells?_some hc
      subst e1
      exact ⟨K, by simpa [Addr.add] using hh.2.2 0 (by omega)⟩)
    refine ⟨ks, ⟨_, c, by rw [hes], fun j hj => ?_⟩, by omega⟩
    have hg : ks[j]? = some (ks.getD j 0) := by rw [List.getD_eq_getElem?_getD, List.getElem?_eq_getElem hj]; rfl
    have h0 := hp j _ hg
    have ha0 := hp 0 (ks.getD 0 0) (by rw [List.getD_eq_getElem?_getD, List.getElem?_eq_getElem (show 0 < ks.length by omega)]; rfl)
    have ha : a = ⟨a.block, a.off, none⟩ := addr_plain (v := .int .i64 (ks.getD 0 0)) (by simpa [Addr.add] using ha0)
    have hlt : a.block < W.heap.size := World.block_lt_of_cell? W a (u := .int .i64 (ks.getD 0 0)) (by simpa [Addr.add] using ha0)
    generalize a.block = g at ha hlt
    generalize a.off = o at ha
    subst ha
    rw [add_plain] at h0
    exact ⟨g, o, rfl, hlt, h0⟩
end

end Go.Proofs.Ytgldmepmeampeab

/- Entries and numbers out of their reading, in the full form. -/
namespace Go.Proofs.Ytgldmepmeampeab
open Go.ChangeShapes Go.WideShapes Go.ChangeAt Go.RowKit

theorem own : ownKnob Try.prog.godebug = none := by kernel_rfl
theorem laidOut : laidOutB Try.prog = true := by kernel_rfl
theorem bytesEnt : Try.prog.bytesOf 35 = 40 := by kernel_rfl
theorem bytesInt : Try.prog.bytesOf 3 = 8 := by kernel_rfl
theorem weightsAll_mem {H : Type} {P : Program} {e : TypeId} : ∀ {l : List (DataW H)} {d : DataW H}, d ∈ l → ∀ n ∈ d.weights P e, n ∈ DataW.weightsAll P e l
  | d' :: r, d, hd, n, hn => by
    simp only [DataW.weightsAll, List.mem_append]
    rcases List.mem_cons.1 hd with rfl | h
    · exact Or.inl hn
    · exact Or.inr (weightsAll_mem h n hn)

section
variable {H : Type} {enc : TypeId × Value → H} {W : World} {spare : Nat → Bool} {held : Bool}
theorem sized_at {ts : List TypeId} {ds : List (DataW H)} (h : ((DataW.weightsEach Try.prog ts ds).all fun x => decide (x ≤ reachBytes)) = true) {j : Nat} {t : TypeId} {d : DataW H} (ht : ts[j]? = some t) (hd : ds[j]? = some d) : ∀ x ∈ d.weights Try.prog t, x ≤ reachBytes :=
  fun x hx => of_decide_eq_true (List.all_eq_true.1 h _ (DataW.weights_mem_each ht hd x hx))

/-- one entry -/
theorem ent_w {fuel : Nat} {cs : List Value} {x : DataW H × List MemPlace} (h : DataW.trod enc Try.prog W 0 spare held fuel 35 cs = some x) (hk : ∀ n ∈ x.1.weights Try.prog 35, n ≤ reachBytes) :
    ∃ e : Ent, cs = entV e ∧ e.1.length ≤ reachBytes ∧ e.2.2.length ≤ reachBytes := by
  obtain ⟨y0, y1, y2, n, hx, hl, t0, t1, t2⟩ := Go.Deep.trod_struct3 Try.underlying35 h
  rw [cellsEnt] at hl
  obtain ⟨a, b, c, rfl⟩ := three_of hl
  simp only [cellsStr, cellsInt] at t0 t1 t2
  obtain ⟨s0, e0, f0, _⟩ := DataW.trod_string Try.underlying9 t0
  obtain ⟨K, e1, f1⟩ := DataW.trod_int Try.underlying3 t1
  obtain ⟨s2, e2, f2, _⟩ := DataW.trod_string Try.underlying9 t2
  simp at e0 e1 e2
  subst e0 e1 e2
  rw [hx, f0, f2] at hk
  refine ⟨(bl s0, K, bl s2), by unfold entV; rw [mk_bl, mk_bl], ?_, ?_⟩
  · refine hk _ ?_
    simp [DataW.weights, DataW.weightsEach, Try.underlying35, bl_eq]
  · refine hk _ ?_
    simp [DataW.weights, DataW.weightsEach, Try.underlying35, bl_eq]

set_option maxRecDepth 100000 in
theorem ents_w {ao : Option Addr} {n c : Nat} {d : DataW H} {pl : List MemPlace} (h : DataW.Trod enc Try.prog W 0 spare held 22 (.slice ao n c) d pl) (hk : ∀ x ∈ d.weights Try.prog 22, x ≤ reachBytes) :
    ∃ es : List Ent, Ents W (.slice ao n c) es ∧ Short es ∧ es.length ≤ 140737488355327 := by
  have hr : reachBytes < 2 ^ 47 := reachBytes_lt
  obtain ⟨fuel, hf⟩ := h
  rcases Go.Deep.open_slice Try.underlying22 hf with ⟨hcs, _⟩ | ⟨a, len, cap, m, n', D, Pl, hcs, _, hl, hm, hmm, hx, hel⟩
  · simp [Value.cells] at hcs
    obtain ⟨rfl, rfl, rfl⟩ := hcs
    exact ⟨[], Or.inl ⟨_, _, rfl, rfl, fun _ => rfl⟩, fun e h => (by cases h), by simp⟩
  · simp [Value.cells] at hcs
    obtain ⟨rfl, rfl, rfl⟩ := hcs
    have hlm : n ≤ m := by rw [hmm]; split <;> omega
    rw [cellsEnt] at hel
    simp only [Prod.mk.injEq] at hx
    obtain ⟨rfl, _⟩ := hx
    have hn : n ≤ 140737488355327 := by
      have := hk (((List.range n).map D).length * Try.prog.bytesOf 35 + ((List.range (m - n)).map fun j => D (n + j)).length * Try.prog.bytesOf 35) (by simp [DataW.weights, Try.underlying22, Nat.add_mul])
      rw [bytesEnt] at this
      simp at this
      omega
    have hw : ∀ i, i < n → ∀ x ∈ (D i).weights Try.prog 35, x ≤ reachBytes := fun i hi x hxm => hk x (by
      simp only [DataW.weights, Try.underlying22, List.mem_cons, List.mem_append]
      exact Or.inr (Or.inl (weightsAll_mem (List.mem_map.2 ⟨i, List.mem_range.2 hi, rfl⟩) x hxm)))
    obtain ⟨es, hes, hp⟩ := list_of (P := fun i (e : Ent) => W.cell? (a.add (i * 3)) = some (.string (mk e.1)) ∧ W.cell? ((a.add (i * 3)).add 1) = some (.int .i64 e.2.1) ∧ W.cell? ((a.add (i * 3)).add 2) = some (.string (mk e.2.2)) ∧ e.1.length ≤ reachBytes ∧ e.2.2.length ≤ reachBytes) (n := n) (by
      intro i hi
      obtain ⟨cs', hc, ht⟩ := hel i (by omega)
      obtain ⟨e, rfl, hb⟩ := ent_w ht (hw i hi)
      have hh := World.cells?_some hc
      exact ⟨e, by simpa [Addr.add, entV] using hh.2.2 0 (by omega), by simpa [entV] using hh.2.2 1 (by omega), by simpa [entV] using hh.2.2 2 (by omega), hb⟩)
    refine ⟨es, ?_, ?_, by omega⟩
    · rcases Nat.eq_zero_or_pos n with rfl | hpos
      · exact Or.inl ⟨_, _, rfl, List.length_eq_zero_iff.1 hes, fun e => by cases e⟩
      · have hg : ∀ j, j < n → es[j]? = some (es.getD j zE) := fun j hj => by rw [List.getD_eq_getElem?_getD, List.getElem?_eq_getElem (show j < es.length by omega)]; rfl
        have h0 := (hp 0 _ (hg 0 hpos)).1
        have ha : a = ⟨a.block, a.off, none⟩ := addr_plain (v := .string (mk (es.getD 0 zE).1)) (by simpa [Addr.add] using h0)
        have hlt : a.block < W.heap.size := World.block_lt_of_cell? W a (u := .string (mk (es.getD 0 zE).1)) (by simpa [Addr.add] using h0)
        generalize a.block = g at ha hlt
        generalize a.off = o at ha
        subst ha
        refine Or.inr ⟨g, o, c, by rw [hes], hlt, by rw [hes]; exact hl, fun j hj => ?_⟩
        obtain ⟨c0, c1, c2, _⟩ := hp j _ (hg j (by omega))
        simp only [add_plain] at c0 c1 c2
        exact ⟨c0, c1, c2⟩
    · intro e he
      obtain ⟨j, hj, rfl⟩ := List.mem_iff_getElem.1 he
      have h1 := (hp j _ (List.getElem?_eq_getElem hj)).2.2.2
      omega

set_option maxRecDepth 100000 in
theorem ints_w {ao : Option Addr} {n c : Nat} {d : DataW H} {pl : List MemPlace} (h : DataW.Trod enc Try.prog W 0 spare held 33 (.slice ao n c) d pl) (hk : ∀ x ∈ d.weights Try.prog 33, x ≤ reachBytes) :
    ∃ ks : List Int, Ints W (.slice ao n c) ks ∧ ks.length ≤ 140737488355327 := by
  have hr : reachBytes < 2 ^ 47 := reachBytes_lt
  obtain ⟨fuel, hf⟩ := h
  rcases Go.Deep.open_slice Try.underlying33 hf with ⟨hcs, _⟩ | ⟨a, len, cap, m, n', D, Pl, hcs, _, hl, hm, hmm, hx, hel⟩
  · simp [Value.cells] at hcs
    obtain ⟨rfl, rfl, rfl⟩ := hcs
    exact ⟨[], ⟨_, _, rfl, fun j hj => (by simp at hj)⟩, by simp⟩
  · simp [Value.cells] at hcs
    obtain ⟨rfl, rfl, rfl⟩ := hcs
    have hlm : n ≤ m := by rw [hmm]; split <;> omega
    rw [cellsInt] at hel
    simp only [Prod.mk.injEq] at hx
    obtain ⟨rfl, _⟩ := hx
    have hn : n ≤ 140737488355327 := by
      have := hk (((List.range n).map D).length * Try.prog.bytesOf 3 + ((List.range (m - n)).map fun j => D (n + j)).length * Try.prog.bytesOf 3) (by simp [DataW.weights, Try.underlying33, Nat.add_mul])
      rw [bytesInt] at this
      simp at this
      omega
    obtain ⟨ks, hes, hp⟩ := list_of (P := fun i (k : Int) => W.cell? (a.add i) = some (.int .i64 k)) (n := n) (by
      intro i hi
      obtain ⟨cs', hc, ht⟩ := hel i (by omega)
      obtain ⟨K, e1, _⟩ := DataW.trod_int Try.underlying3 ht
      have hh := World.cells?_some hc
      subst e1
      exact ⟨K, by simpa [Addr.add] using hh.2.2 0 (by omega)⟩)
    refine ⟨ks, ⟨_, c, by rw [hes], fun j hj => ?_⟩, by omega⟩
    have hg : ks[j]? = some (ks.getD j 0) := by rw [List.getD_eq_getElem?_getD, List.getElem?_eq_getElem hj]; rfl
    have h0 := hp j _ hg
    have ha0 := hp 0 (ks.getD 0 0) (by rw [List.getD_eq_getElem?_getD, List.getElem?_eq_getElem (show 0 < ks.length by omega)]; rfl)
    have ha : a = ⟨a.block, a.off, none⟩ := addr_plain (v := .int .i64 (ks.getD 0 0)) (by simpa [Addr.add] using ha0)
    have hlt : a.block < W.heap.size := World.block_lt_of_cell? W a (u := .int .i64 (ks.getD 0 0)) (by simpa [Addr.add] using ha0)
    generalize a.block = g at ha hlt
    generalize a.off = o at ha
    subst ha
    rw [add_plain] at h0
    exact ⟨g, o, rfl, hlt, h0⟩
end

end Go.Proofs.Ytgldmepmeampeab

/- alive: a file in a directory that lacks. -/
namespace Go.Proofs.Ytgldmepmeampeab
open Go.RowKit

def al0 : Ent := ([97, 47, 98], 1, [120])
def alT : List Ent := [([97], 2, []), al0]
theorem al_lack : lackL [al0] = [[97]] := by decide +kernel
theorem al_make : mkP [al0] = .ok alT := by
  have h1 : [al0].all mayP = true := by decide +kernel
  have h2 : ([al0].map (·.1)).Nodup := by simp
  have h3 : wrongP [al0] = false := by decide +kernel
  have h5 : szP [al0] = 1 := by decide +kernel
  have h6 : alT.Pairwise ltE := by
    unfold alT
    rw [List.pairwise_cons]
    refine ⟨fun b hb => ?_, List.pairwise_singleton _ _⟩
    rw [List.mem_singleton] at hb
    subst hb
    unfold ltE
    decide +kernel
  have h7 : (([al0] ++ [[97]].map dirE).map (·.1)).Nodup := by decide +kernel
  have h8 : alT = sortE ([al0] ++ [[97]].map dirE) := by
    refine sortE_uniq h6 h7 (fun e => ?_)
    unfold alT dirE
    simp
    exact Or.comm
  unfold mkP
  rw [h1, if_neg (show ¬ (true = false) by simp), if_neg (fun h => h h2), h3, if_neg (show ¬ (false = true) by simp), al_lack, h5, ← h8]
  rfl
theorem al_check : chkP alT = (0, 0) := by decide +kernel
theorem al_size : szP alT = 1 := by decide +kernel
theorem al_tre : Tre [al0] := ⟨by simp, fun e he => by rw [List.mem_singleton] at he; subst he; exact ⟨by decide, by decide⟩, by decide +kernel⟩
theorem al_short : Short alT := fun e he => by
  unfold alT at he
  simp only [List.mem_cons, List.not_mem_nil, or_false] at he
  rcases he with rfl | rfl
  · exact ⟨by simp, by simp⟩
  · exact ⟨by decide, by decide⟩

set_option maxRecDepth 100000 in
set_option maxHeartbeats 2000000 in
theorem alive_any (w : World) : Calls Try.prog 9 #[] w fun r w' => r = .returned (.bool true) ∧ Below w.heap.size w w' := by
  have HMK := hid (make_any _ [al0] _ (ents_one w al0) al_tre)
  rw [al_make] at HMK
  have HBA := hid (below_walk w (.cells #[.string ⟨#[97, 47, 98]⟩, .int .i64 1, .string ⟨#[120]⟩] 35))
  go_enter Try.func9, Try.ntmps9
  go_wp2_with fail
  refine HMK.out.mono ?_
  rintro r w2 ⟨⟨v2, rfl, ho2⟩, hb2⟩
  have HO2 := hid ho2
  have HB2 := hid (below_then HBA.out hb2)
  have HC2 := hid (tcheck_any v2 alT w2 ho2.ents al_short (by decide))
  rw [al_check] at HC2
  obtain ⟨a2, c2, h2⟩ := ho2.ents.shape
  subst h2
  clear ho2 hb2 HMK
  go_wp2_with fail
  refine HC2.out.mono ?_
  rintro r w3 ⟨rfl, hb3⟩
  have HEN := hid (HO2.out.ents.below hb3)
  have HB3 := hid (below_then HB2.out hb3)
  have HS3 := hid (size_any _ alT w3 HEN.out al_short (by decide) (by decide +kernel))
  rw [al_check, al_size] at HS3
  obtain ⟨g, o, rfl, hgl, x0, x1, x2⟩ := HEN.out.at 0 (by decide)
  clear hb3 HC2
  have e0 : w3.cell? ⟨g, o, none⟩ = some (.string ⟨#[97]⟩) := x0
  have e1 : w3.cell? ⟨g, o + 1, none⟩ = some (.int .i64 2) := x1
  have e2 : w3.cell? ⟨g, o + 2, none⟩ = some (.string ⟨#[]⟩) := x2
  have hl : alT.length = 2 := rfl
  rw [hl] at HS3 ⊢
  have hg := entG
  have heq : ∀ W, (binOp .eql 35 (.agg #[.string ⟨#[97]⟩, .int .i64 2, .string ⟨#[]⟩]) (.agg #[.string ⟨#[97]⟩, .int .i64 2, .string ⟨#[]⟩])).run Try.prog W = .ok (.bool true) W := fun W => by
    have := eql_ent ([97], 2, []) ([97], 2, []) W
    rw [decide_eq_true rfl] at this
    exact this
  clear x0 x1 x2 hl
  go_wp2_with (go_at_call 23; refine HS3.out.mono ?_; rintro r w4 ⟨rfl, hb4⟩)
  go_ret
  exact ⟨rfl, below_then HB3.out hb4⟩

end Go.Proofs.Ytgldmepmeampeab

/- Changes between two trees, plainly. -/
namespace Go.Proofs.Ytgldmepmeampeab

/-- a change: where, what stood, what stands -/
abbrev Chg := List UInt8 × Ent × Ent
/-- the changes that lead from the one to the other, of rising entries -/
def difP : List Ent → List Ent → List Chg
  | [], [] => []
  | x :: a, [] => (x.1, x, zE) :: difP a []
  | [], y :: b => (y.1, zE, y) :: difP [] b
  | x :: a, y :: b =>
    if cmpL (nms x.1) (nms y.1) < 0 then (x.1, x, zE) :: difP a (y :: b)
    else if cmpL (nms x.1) (nms y.1) = 0 then (if x = y then [] else [(x.1, x, y)]) ++ difP a b
    else (y.1, zE, y) :: difP (x :: a) b
/-- what two trees have at the first path of both -/
def firP (a b : List Ent) : Chg := match a, b with
  | [], [] => ([], zE, zE)
  | x :: _, [] => (x.1, x, zE)
  | [], y :: _ => (y.1, zE, y)
  | x :: _, y :: _ => if cmpL (nms x.1) (nms y.1) < 0 then (x.1, x, zE) else if cmpL (nms x.1) (nms y.1) = 0 then (y.1, x, y) else (y.1, zE, y)
theorem may_kind {e : Ent} (h : mayP e = true) : e.2.1 ≠ 0 := by
  unfold mayP at h
  simp only [Bool.and_eq_true, decide_eq_true_iff] at h
  omega
theorem may_zero {e : Ent} (h : mayP e = true) : e ≠ zE := fun he => may_kind h (by rw [he]; rfl)
/-- one turn of the program's loop -/
theorem difP_step {a b : List Ent} (ha : ∀ e ∈ a, mayP e = true) (hb : ∀ e ∈ b, mayP e = true) (h : a ≠ [] ∨ b ≠ []) :
    difP a b = (if (firP a b).2.1 = (firP a b).2.2 then [] else [firP a b]) ++ difP (if (firP a b).2.1.2.1 = 0 then a else a.drop 1) (if (firP a b).2.2.2.1 = 0 then b else b.drop 1) := by
  match a, b with
  | [], [] => exact absurd rfl (h.elim id id)
  | x :: a, [] =>
    have hx := ha x (by simp)
    have e1 : firP (x :: a) [] = (x.1, x, zE) := rfl
    rw [e1, if_neg (may_zero hx), if_neg (may_kind hx), if_pos (show zE.2.1 = 0 from rfl), difP]
    rfl
  | [], y :: b =>
    have hy := hb y (by simp)
    have e1 : firP [] (y :: b) = (y.1, zE, y) := rfl
    rw [e1, if_neg (fun e => may_zero hy e.symm), if_pos (show zE.2.1 = 0 from rfl), if_neg (may_kind hy), difP]
    rfl
  | x :: a, y :: b =>
    have hx := ha x (by simp)
    have hy := hb y (by simp)
    rw [difP]
    by_cases h1 : cmpL (nms x.1) (nms y.1) < 0
    · have e1 : firP (x :: a) (y :: b) = (x.1, x, zE) := by unfold firP; dsimp only; rw [if_pos h1]
      rw [if_pos h1, e1, if_neg (may_zero hx), if_neg (may_kind hx), if_pos (show zE.2.1 = 0 from rfl)]
      rfl
    · by_cases h2 : cmpL (nms x.1) (nms y.1) = 0
      · have e1 : firP (x :: a) (y :: b) = (y.1, x, y) := by unfold firP; dsimp only; rw [if_neg h1, if_pos h2]
        have e2 : x.1 = y.1 := nms_inj (cmpL_zero h2)
        rw [if_neg h1, if_pos h2, e1, if_neg (may_kind hx), if_neg (may_kind hy), e2]
        rfl
      · have e1 : firP (x :: a) (y :: b) = (y.1, zE, y) := by unfold firP; dsimp only; rw [if_neg h1, if_neg h2]
        rw [if_neg h1, if_neg h2, e1, if_neg (fun e => may_zero hy e.symm), if_pos (show zE.2.1 = 0 from rfl), if_neg (may_kind hy)]
        rfl
theorem difP_len : ∀ (n : Nat) (a b : List Ent), a.length + b.length ≤ n → (difP a b).length ≤ a.length + b.length
  | 0, a, b, h => by
    obtain rfl : a = [] := List.length_eq_zero_iff.1 (by omega)
    obtain rfl : b = [] := List.length_eq_zero_iff.1 (by simpa using h)
    rw [difP]
    simp
  | n + 1, [], [], _ => by rw [difP]; simp
  | n + 1, x :: a, [], h => by
    have := difP_len n a [] (by simp at h ⊢; omega)
    rw [difP]
    simp at this ⊢
    omega
  | n + 1, [], y :: b, h => by
    have := difP_len n [] b (by simp at h ⊢; omega)
    rw [difP]
    simp at this ⊢
    omega
  | n + 1, x :: a, y :: b, h => by
    have h1 := difP_len n a (y :: b) (by simp at h ⊢; omega)
    have h2 := difP_len n a b (by simp at h ⊢; omega)
    have h3 := difP_len n (x :: a) b (by simp at h ⊢; omega)
    rw [difP]
    split
    · simp at h1 ⊢; omega
    · split
      · rw [List.length_append]
        split
        · simp at h2 ⊢; omega
        · simp at h2 ⊢; omega
      · simp at h3 ⊢; omega

end Go.Proofs.Ytgldmepmeampeab
