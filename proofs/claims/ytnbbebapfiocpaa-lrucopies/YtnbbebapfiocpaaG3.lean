/- Contracts and pure facts that the proof needs, joined. -/
import Derived.Test.YtnbbebapfiocpaaG2
import Derived.Test.YtnbbebapfiocpaaG1

/- LruCopies (written by lcopies.py). -/
namespace Go.Proofs.Ytnbbebapfiocpaa
open Go.RowKit

section
variable {w w' : World} {base m b most : Nat} {L : List (Int × Int)} {h mi g : Int} {F : List Nat} {v : Value} {c p most2 : Nat} {L2 : List (Int × Int)} {h2 mi2 g2 : Int} {G : List Nat} {u : Value}
theorem Du.row2 (q : Du w base m b most L h mi g F v) (r : Du w base c p most2 L2 h2 mi2 g2 G u) : ∀ k, u.ownBlock = some k → k ∉ b :: F := fun k hk e => by
  obtain ⟨cur, h1, _⟩ := r.r.own.typ hk
  rcases List.mem_cons.1 e with rfl | e
  · rw [q.r.blk] at h1; injection h1 with h1; injection h1 with _ e _; exact absurd e (by decide)
  · exact q.p.typ h1 (by decide) (by decide) e
/-- two that are apart: whatever the one does, the other stays -/
def Far (b p : Nat) (F G : List Nat) : Prop := ∀ x ∈ b :: F, x ∉ p :: G
theorem far_mk {b p s : Nat} {F G : List Nat} (h1 : ∀ x ∈ b :: F, x < s) (h2 : s ≤ p) (h3 : ∀ x ∈ G, s ≤ x) : Far b p F G := fun x hx e => by
  have := h1 x hx
  rcases List.mem_cons.1 e with rfl | e
  · omega
  · have := h3 x e; omega
theorem Far.symm {F G : List Nat} {b p : Nat} (f : Far b p F G) : Far p b G F := fun x hx e => f x e hx
theorem Du.keeps (q : Du w base m b most L h mi g F v) (r : Du w base c p most2 L2 h2 mi2 g2 G u) (f : Far b p F G) {F' : List Nat} (s : Ds w w' b F F') : Du w' base c p most2 L2 h2 mi2 g2 G u ∧ Far b p F' G := by
  refine ⟨⟨r.p.fr s.1 (fun x hx e => f x e (List.mem_cons_of_mem _ hx)), r.r.fr s.1 (fun e => f p e (List.mem_cons_self ..)) (fun k hk => q.row2 r k hk)⟩, fun x hx e => ?_⟩
  rcases List.mem_cons.1 hx with rfl | hx
  · exact f x (List.mem_cons_self ..) e
  · rcases s.2 x hx with h | h
    · exact f x (List.mem_cons_of_mem _ h) e
    · rcases List.mem_cons.1 e with rfl | e
      · have := r.r.lt; omega
      · have := r.p.lts x e; omega
end

/-- both, and apart -/
structure Both (w : World) (base m b c p : Nat) : Prop where
  out : ∃ most L h mi g F v most2 L2 h2 mi2 g2 G u, Du w base m b most L h mi g F v ∧ Du w base c p most2 L2 h2 mi2 g2 G u ∧ Far b p F G
theorem Both.below {w w' : World} {base m b c p : Nat} (q : Both w base m b c p) (s : Below w.heap.size w w') : Both w' base m b c p := by
  obtain ⟨_, _, _, _, _, _, _, _, _, _, _, _, _, _, q1, q2, f⟩ := q.out
  exact ⟨⟨_, _, _, _, _, _, _, _, _, _, _, _, _, _, q1.below s, q2.below s, f⟩⟩
theorem both_first {w : World} {base m b c p : Nat} (q : Both w base m b c p) (d k x : Int) (vp : Value) (ks : List Int) (hk : iKok k) (hv : ∀ W, Below base w W → Ints W vp ks) :
    Calls Try.prog 13 #[pt m, pt b, .agg #[.int .i64 d, .int .i64 k, .int .i64 x, vp]] w fun e w' => e = .returned (.bool true) ∧ Both w' base m b c p ∧ Below base w w' := by
  obtain ⟨_, _, _, _, _, _, _, _, _, _, _, _, _, _, q1, q2, f⟩ := q.out
  refine (does_any q1 d k x vp ks hk hv).mono ?_
  rintro e w' ⟨rfl, _, _, _, _, _, _, _, q3, s⟩
  obtain ⟨q4, f4⟩ := q1.keeps q2 f s
  exact ⟨rfl, ⟨⟨_, _, _, _, _, _, _, _, _, _, _, _, _, _, q3, q4, f4⟩⟩, q1.low s⟩
theorem both_second {w : World} {base m b c p : Nat} (q : Both w base m b c p) (d k x : Int) (vp : Value) (ks : List Int) (hk : iKok k) (hv : ∀ W, Below base w W → Ints W vp ks) :
    Calls Try.prog 13 #[pt c, pt p, .agg #[.int .i64 d, .int .i64 k, .int .i64 x, vp]] w fun e w' => e = .returned (.bool true) ∧ Both w' base m b c p ∧ Below base w w' := by
  obtain ⟨_, _, _, _, _, _, _, _, _, _, _, _, _, _, q1, q2, f⟩ := q.out
  refine (does_any q2 d k x vp ks hk hv).mono ?_
  rintro e w' ⟨rfl, _, _, _, _, _, _, _, q3, s⟩
  obtain ⟨q4, f4⟩ := q2.keeps q1 f.symm s
  exact ⟨rfl, ⟨⟨_, _, _, _, _, _, _, _, _, _, _, _, _, _, q4, q3, f4.symm⟩⟩, q2.low s⟩
theorem both_stands1 {w : World} {base m b c p : Nat} (q : Both w base m b c p) :
    Calls Try.prog 14 #[pt m, pt b] w fun e w' => e = .returned (.bool true) ∧ Below w.heap.size w w' := by
  obtain ⟨_, _, _, _, _, _, _, _, _, _, _, _, _, _, q1, q2, f⟩ := q.out
  exact stands_any q1
theorem both_stands2 {w : World} {base m b c p : Nat} (q : Both w base m b c p) :
    Calls Try.prog 14 #[pt c, pt p] w fun e w' => e = .returned (.bool true) ∧ Below w.heap.size w w' := by
  obtain ⟨_, _, _, _, _, _, _, _, _, _, _, _, _, _, q1, q2, f⟩ := q.out
  exact stands_any q2

theorem unguard {P : Program} {ops : Array Oper} {Q : Exit → Act → World → Prop} {a : Act} {w : World} {rest : List Oper} {d : Option Tmp} {op : Op} {ty : TypeId} {pos : String} {af : Array Edge} {g : Option (Nat × Bool)}
    (hw : Region.wanted ⟨d, op, ty, pos, af, g⟩ (yielded ops a.tmps) = true) (h : wpList P ops Q (⟨d, op, ty, pos, af, none⟩ :: rest) a w) : wpList P ops Q (⟨d, op, ty, pos, af, g⟩ :: rest) a w := by
  have hn : Region.wanted ⟨d, op, ty, pos, af, none⟩ (yielded ops a.tmps) = true := by simp [Region.wanted]
  simp only [wpList] at h ⊢
  rw [if_pos hn] at h
  rw [if_pos hw]
  exact h
theorem five_one {a b c d e : Value} (h1 : a.oneCell' = true) (h2 : b.oneCell' = true) (h3 : c.oneCell' = true) (h4 : d.oneCell' = true) (h5 : e.oneCell' = true) : ∀ v ∈ [a, b, c, d, e], v.oneCell' = true := by
  intro u hu
  simp only [List.mem_cons, List.not_mem_nil, or_false] at hu
  rcases hu with rfl | rfl | rfl | rfl | rfl
  · exact h1
  · exact h2
  · exact h3
  · exact h4
  · exact h5
theorem step_alloc_row {P : Program} {ops : Array Oper} {o : Oper} {a : Act} {w : World} {K : Act → World → Prop} {Q : Exit → Act → World → Prop} {E : Prop} (hgd : o.guard = none) (ty : TypeId) (ho : o.op = .alloc ty)
    (cs : Array Value) (hz : ∀ w, (zeroValue ty).run P w = .ok (.agg cs) w)
    (h : K (a.put o.dst (.pointer (some ⟨w.heap.size, 0, none⟩))) (w.alloc (.cells cs ty))) : if Region.wanted o (yielded ops a.tmps) = true then Oper.wp P o a w K Q else E := by
  rw [if_pos (by simp [Region.wanted, hgd])]
  unfold Oper.wp execOp
  simp only [ho, Instr.alloc, Sem.run_bind, hz, newVar, newRow, run_newObj_alloc, Sem.run_pure, Result.andThen_ok, Value.cells]
  exact h
theorem yields_build {P : Program} {ops : Array Oper} {S : World → Prop} {o : Oper} {a : Act} (hw : Region.wanted o (yielded ops a.tmps) = true) (t : TypeId) (parts : Array (Nat × Operand)) (ho : o.op = .build t parts)
    (vs : List (Nat × Value)) (hvs : (parts.map fun (i, x) => (i, a.eval x)).toList = vs) (cs : Array Value) (hb : P.built t vs = some cs) : YieldsIf P ops S o (.agg cs) a :=
  .inl ⟨hw, fun w _ => by
    unfold execOp
    simp only [ho, Sem.run_bind, run_build w t (parts.map fun (i, x) => (i, a.eval x)) cs (by rw [hvs]; exact hb), Sem.run_pure, Result.andThen_ok]⟩
theorem step_store_row {P : Program} {ops : Array Oper} {o : Oper} {a : Act} {w : World} {K : Act → World → Prop} {Q : Exit → Act → World → Prop} {E : Prop} (hgd : o.guard = none) (ty : TypeId) (x y : Operand) (ho : o.op = .store ty x y)
    (g : Nat) (cs : List Value) (hx : a.eval x = .pointer (some ⟨g, 0, none⟩)) (hy : a.eval y = .agg cs.toArray)
    (t : TypeId) (old : Array Value) (hg : w.heap[g]? = some (.cells old t (0, 0))) (hi : (P.info? ty).map (·.size) = some cs.length) (hold : old.size = cs.length) (h1 : ∀ v ∈ cs, v.oneCell' = true)
    (h : ∀ w', RowSet w w' g cs t → K (a.put o.dst undef) w') : if Region.wanted o (yielded ops a.tmps) = true then Oper.wp P o a w K Q else E := by
  rw [if_pos (by simp [Region.wanted, hgd])]
  exact wp_store_row ty x y ho g cs.toArray hx hy t old hg (by rw [List.size_toArray]; exact hi) (by rw [List.size_toArray]; exact hold) (by simpa using h1) (h _ (rowSet w g cs t old hg))
/-- what must be shown where no step can panic -/
def noPanic (Q : Exit → Act → World → Prop) : Exit → Act → World → Prop := fun e a w => match e with
  | .panic _ => False
  | e => Q e a w
theorem wp_noPanic {P : Program} {c : Code} {Q : Exit → Act → World → Prop} {a : Act} {w : World} (h : c.wp P (noPanic Q) a w) : c.wp P Q a w :=
  Code.wp_mono (fun e a w h => by
    cases e
    all_goals first | exact h | exact h.elim) h
theorem below_set {w w' : World} {B : Nat} (h : Below B w w') (p i : Nat) (hp : B ≤ p) (v : Value) : Below B w (w'.setCell ⟨p, i, none⟩ v) := h.setCell (p := ⟨p, i, none⟩) hp v

set_option maxRecDepth 100000 in
set_option maxHeartbeats 8000000 in
theorem lawCopies_any (w : World) (p x1 : Int) (va vb vc vk : Value) (n n1 n2 : Nat) (ha : Acts w va n) (hb : Acts w vb n1) (hc : Acts w vc n2) :
    Calls Try.prog 4 #[.agg #[.int .i64 p, .int .i64 x1, va, vb, vc, vk]] w fun e w' => e = .returned (.bool true) ∧ Below w.heap.size w w' := by
  have hn := ha.len
  have hn1 := hb.len
  have hn2 := hc.len
  obtain ⟨ao, cv, rfl⟩ := ha.shape
  obtain ⟨ao1, cv1, rfl⟩ := hb.shape
  obtain ⟨ao2, cv2, rfl⟩ := hc.shape
  have HV := hid ha
  have HV1 := hid hb
  have HV2 := hid hc
  clear ha hb hc
  obtain ⟨z5, s5⟩ := zero_of_info Try.infoMemo
  have HS5 := hid s5
  have hnw := hp_new w (.cells #[.int .i64 p, .int .i64 x1, .slice ao n cv, .slice ao1 n1 cv1, .slice ao2 n2 cv2, vk] 44)
  have d0 : (w.alloc (.cells #[.int .i64 p, .int .i64 x1, .slice ao n cv, .slice ao1 n1 cv1, .slice ao2 n2 cv2, vk] 44)).cell? ⟨w.heap.size, 0, none⟩ = some (.int .i64 p) := (cell_of_row _ _ 0 _ _ _ hnw).trans rfl
  have d2 : (w.alloc (.cells #[.int .i64 p, .int .i64 x1, .slice ao n cv, .slice ao1 n1 cv1, .slice ao2 n2 cv2, vk] 44)).cell? ⟨w.heap.size, 2, none⟩ = some (.slice ao n cv) := (cell_of_row _ _ 2 _ _ _ hnw).trans rfl
  have d3 : (w.alloc (.cells #[.int .i64 p, .int .i64 x1, .slice ao n cv, .slice ao1 n1 cv1, .slice ao2 n2 cv2, vk] 44)).cell? ⟨w.heap.size, 3, none⟩ = some (.slice ao1 n1 cv1) := (cell_of_row _ _ 3 _ _ _ hnw).trans rfl
  have d4 : (w.alloc (.cells #[.int .i64 p, .int .i64 x1, .slice ao n cv, .slice ao1 n1 cv1, .slice ao2 n2 cv2, vk] 44)).cell? ⟨w.heap.size, 4, none⟩ = some (.slice ao2 n2 cv2) := (cell_of_row _ _ 4 _ _ _ hnw).trans rfl
  have HB1 := hid (below_walk w (.cells #[.int .i64 p, .int .i64 x1, .slice ao n cv, .slice ao1 n1 cv1, .slice ao2 n2 cv2, vk] 44))
  clear s5 hnw
  go_enter Try.func4, Try.ntmps4
  go_upto_region 1 with (refine bx_row rfl 44 (.tmp 0) rfl #[.int .i64 p, .int .i64 x1, .slice ao n cv, .slice ao1 n1 cv1, .slice ao2 n2 cv2, vk] rfl ?_)
  generalize w.alloc (.cells #[.int .i64 p, .int .i64 x1, .slice ao n cv, .slice ao1 n1 cv1, .slice ao2 n2 cv2, vk] 44) = w1 at d0 d2 d3 d4 HB1 ⊢
  obtain ⟨bt, HBT⟩ : ∃ bt, Hid (w.heap.size = bt) := ⟨_, rfl⟩
  rw [HBT.out] at d0 d2 d3 d4 ⊢
  go_quiet (fail)
  have HB2 : Hid (Below w.heap.size w (w1.drewN nq)) := hid ⟨HB1.out.os, HB1.out.tape, HB1.out.output, HB1.out.size, HB1.out.block⟩
  clear d0 d2 d3 d4 HB1
  generalize w1.drewN nq = w2 at HB2 ⊢
  by_cases hp : p < 1 ∨ 4096 < p
  · have HP := hid hp
    clear hp
    go_wp2_with fail
    refine (inew_bad w2 p HP.out).mono ?_
    rintro e w3 ⟨rfl, hw3⟩
    have hw3 := hw3.symm
    subst hw3
    go_wp2_with fail
    refine (rnew_bad _ p HP.out).mono ?_
    rintro e w4 ⟨rfl, hb4⟩
    have HB4 := hid (HB2.out.trans (hb4.mono HB2.out.size))
    clear hb4
    go_upto_region 4 with (first
        | (refine al_row rfl 31 rfl _ z5 ?_; refine st_new rfl 31 (.tmp 9) (.tmp 32) rfl [.int .i64 0, .slice none 0 0, .int .i64 0, .int .i64 0, .int .i64 0] rfl rfl _ _ HS5.out rfl (by simp [Value.oneCell']) ?_))
    try simp only [Act.put, List.setIfInBounds_toArray, List.set_cons_succ, List.set_cons_zero]
    have HB5 := hid (HB4.out.alloc HB4.out.size (.cells [.int .i64 0, .slice none 0 0, .int .i64 0, .int .i64 0, .int .i64 0].toArray 31))
    generalize w4.alloc (.cells [.int .i64 0, .slice none 0 0, .int .i64 0, .int .i64 0, .int .i64 0].toArray 31) = w5 at HB5 ⊢
    clear HB4
    go_wp2_with fail
    refine (alive_any _).mono ?_
    rintro e w6 ⟨rfl, hb6⟩
    have HB6 := hid (HB5.out.trans (hb6.mono HB5.out.size))
    clear hb6
    go_wp2
    go_ret
    exact ⟨rfl, HB6.out⟩
  obtain ⟨most, rfl⟩ : ∃ M : Nat, p = (M : Int) := ⟨p.toNat, by omega⟩
  have m1 : 1 ≤ most := by omega
  have m2 : most ≤ 4096 := by omega
  clear hp
  go_wp2_with fail
  refine (inew_mo w2 most m1 m2).mono ?_
  rintro e w3 ⟨bm, F1, rfl, q1, b1⟩
  have HQ1 := hid q1
  have HB3 := hid (HB2.out.trans (b1.mono HB2.out.size))
  have HLE := hid HB2.out.size
  clear q1 b1 HB2
  go_wp2_with fail
  refine (rnew_ok _ most m1 m2).mono ?_
  rintro e w4 ⟨rfl, b2⟩
  have HQ2 := hid (HQ1.out.below b2)
  have HB4 := hid (HB3.out.trans (b2.mono HB3.out.size))
  clear b2 HQ1 HB3
  go_upto_region 4 with (first
      | (refine al_row rfl 31 rfl _ z5 ?_; refine st_new rfl 31 (.tmp 9) (.tmp 32) rfl [.int .i64 most, .slice none 0 0, .int .i64 0, .int .i64 0, .int .i64 0] rfl rfl _ _ HS5.out rfl (by simp [Value.oneCell']) ?_))
  try simp only [Act.put, List.setIfInBounds_toArray, List.set_cons_succ, List.set_cons_zero]
  have HB5 := hid (HB4.out.alloc HB4.out.size (.cells [.int .i64 most, .slice none 0 0, .int .i64 0, .int .i64 0, .int .i64 0].toArray 31))
  have HQ3 := hid (HQ2.out.below (below_walk w4 (.cells [.int .i64 most, .slice none 0 0, .int .i64 0, .int .i64 0, .int .i64 0].toArray 31)))
  have HN3 := hid (hp_new w4 (.cells [.int .i64 most, .slice none 0 0, .int .i64 0, .int .i64 0, .int .i64 0].toArray 31))
  generalize w4.alloc (.cells [.int .i64 most, .slice none 0 0, .int .i64 0, .int .i64 0, .int .i64 0].toArray 31) = w5 at HB5 HQ3 HN3 ⊢
  have HD3 : Hid (Du w5 w.heap.size bm w4.heap.size most [] 0 0 0 F1 (.slice none 0 0)) := hid ⟨HQ3.out.lw HLE.out, ⟨HB4.out.size, HN3.out, OwnP.nil _ _, by simp, by simp⟩⟩
  generalize w4.heap.size = bq at HD3 HN3 ⊢
  clear HB4 HQ2 HQ3 HN3 HLE
  go_wp2_with fail
  refine (alive_any _).mono ?_
  rintro e w6 ⟨rfl, hb6⟩
  have HB6 := hid (HB5.out.trans (hb6.mono HB5.out.size))
  have HD6 := hid (HD3.out.below hb6)
  clear hb6 HB5 HD3
  go_wp2
  go_loopw [47] (fun vi wr => ∃ (j most : Nat) (L : List (Int × Int)) (h mi g : Int) (F : List Nat) (v : Value), j ≤ n ∧ vi = .int .i64 j ∧ Hid (Du wr w.heap.size bm bq most L h mi g F v) ∧ Hid (Below w.heap.size w wr)) (fun vi _ => n - (intOf vi).toNat)
  case atStart => exact ⟨0, most, [], 0, 0, 0, F1, _, by omega, rfl, HD6, HB6⟩
  case round =>
    clear HD6 HB6
    obtain ⟨j, most, L, h, mi, g, F, v, hj, rfl, HD, HB⟩ := hrel
    by_cases hlt : j < n
    · as_aux_lemma =>
      obtain ⟨gr, o, rfl, d, k, x, vp, ks, hrg, hps, hk1, hk2, hv1⟩ := HV.out.at j hlt
      have HRG := hid (hrg _ HB.out)
      have HK1 := hid hk1
      have HPS := hid hps
      obtain ⟨z, s⟩ := zero_of_info (P := Try.prog) (t := 37) (v := .agg #[.int .i64 0, .int .i64 0, .int .i64 0, .slice none 0 0]) (n := 4) (by kernel_rfl)
      have HS := hid s
      have HVV := hid hv1
      clear hrg hps s hv1 hk1 hk2
      go_upto_region 11 with (first
        | (refine wpList_load_mid rfl 37 (.tmp 49) rfl gr (o + j * 4) rfl [.int .i64 d, .int .i64 k, .int .i64 x, vp] _ HRG.out Try.underlying37 rfl HS.out ?_)
        | (refine al_row rfl 37 rfl _ z ?_; refine st_new rfl 37 (.tmp 12) (.tmp 50) rfl [.int .i64 d, .int .i64 k, .int .i64 x, vp] rfl rfl _ _ HS.out rfl HVV.out ?_))
      try simp only [Act.put, List.setIfInBounds_toArray, List.set_cons_succ, List.set_cons_zero]
      have HB2 := hid (HB.out.alloc HB.out.size (.cells [.int .i64 d, .int .i64 k, .int .i64 x, vp].toArray 37))
      have HD2 := hid (HD.out.below (below_walk wr (.cells [.int .i64 d, .int .i64 k, .int .i64 x, vp].toArray 37)))
      have HN2 := hid (hp_new wr (.cells [.int .i64 d, .int .i64 k, .int .i64 x, vp].toArray 37))
      generalize wr.alloc (.cells [.int .i64 d, .int .i64 k, .int .i64 x, vp].toArray 37) = w2 at HB2 HD2 HN2 ⊢
      generalize wr.heap.size = b2 at HN2 ⊢
      clear z HRG HD HB
      have HG := hid (does_any HD2.out d k x vp ks HK1.out (fun W hW => HPS.out W (HB2.out.trans hW)))
      go_wp2_with (first
        | (refine ld_row rfl 37 (.tmp 12) rfl b2 rfl [.int .i64 d, .int .i64 k, .int .i64 x, vp] 37 HN2.out _ Try.underlying37 rfl HS.out ?_))
      refine HG.out.mono ?_
      rintro e w4 ⟨rfl, most4, L4, h4, mi4, g4, F4, v4, q4, s4⟩
      have HB4 := hid (HB2.out.trans (HD2.out.low s4))
      have HD4 := hid q4
      clear HG q4 s4 HD2 HB2
      go_wp2
      exact ⟨⟨j + 1, _, _, _, _, _, _, _, hlt, by simp, HD4, HB4⟩, by simp [intOf]; omega⟩
    · have HC := hid (icopy_mo HD.out.p)
      go_wp2_with fail
      refine HC.out.mono ?_
      rintro e w3 ⟨c, F3, rfl, q3, b3⟩
      have HP3 := hid q3
      have HD3 := hid (HD.out.below b3)
      have HB3 := hid (HB.out.trans (b3.mono HB.out.size))
      have HZ3 : Hid (wr.heap.size ≤ w3.heap.size) := hid b3.size
      have HFR : Hid (∀ x ∈ bq :: F, x < wr.heap.size) := hid (fun x hx => by
        rcases List.mem_cons.1 hx with rfl | hx
        · exact HD.out.r.lt
        · exact HD.out.p.lts x hx)
      clear q3 b3 HC
      go_wp2_with fail
      obtain ⟨av, cvv, hvv⟩ := HD3.out.r.own.shape
      have HSR := hid HD3.out.r.own.src
      subst hvv
      have HLT3 : Hid (bq < w3.heap.size) := hid HD3.out.r.lt
      have hLL := HD3.out.r.le
      have HC0 := hid HD3.out.r.c0
      have HC1 := hid HD3.out.r.c1
      have HRU : Hid (∀ W, Below w3.heap.size w3 W → W.rangeAt bq 2 [.int .i64 h, .int .i64 mi, .int .i64 g]) := hid (fun W hW j u hu => by rw [hW.cell (p := ⟨bq, 2 + j, none⟩) HLT3.out]; match j, hu with | 0, hu => cases hu; exact HD3.out.r.c2 | 1, hu => cases hu; exact HD3.out.r.c3 | 2, hu => cases hu; exact HD3.out.r.c4)
      obtain ⟨_, su⟩ := zero_of_info (P := Try.prog) (t := 29) (v := .agg #[.int .i64 0, .int .i64 0, .int .i64 0]) (n := 3) (by kernel_rfl)
      have HSU := hid su
      clear su
      obtain ⟨LL, HLL⟩ : ∃ LL, Hid (L.length = LL) := ⟨_, rfl⟩
      rw [HLL.out] at HSR HC1 hLL
      refine wp_noPanic (wp_region_held_drew (S := fun W => Below w3.heap.size w3 W) (by kernel_rfl) (show Below w3.heap.size w3 w3.drew from (Below.refl _ _).drew) ?_)
      intro hHeld
      refine wpAnyH_take (i := 0) (v := .pointer (some ⟨bq, 0, none⟩)) rfl (by kernel_rfl) (by kernel_rfl) (by kernel_rfl) (fun _ _ _ h => h) (Or.inl ⟨by rfl, fun W _ => by go_simp⟩) hHeld ?_
      simp only [Act.put, List.getElem_toArray, List.getElem_cons_zero, List.setIfInBounds_toArray, List.set_cons_succ, List.set_cons_zero]
      refine wpAnyH_take (i := 1) (v := .int .i64 most) rfl (by kernel_rfl) (by kernel_rfl) (by kernel_rfl) (fun _ _ _ h => h) (Or.inl ⟨by rfl, fun W hW => by have hcell := (hW.cell (p := ⟨bq, 0, none⟩) HLT3.out).trans HC0.out; clear hW; go_simp⟩) hHeld ?_
      simp only [Act.put, List.getElem_toArray, List.getElem_cons_zero, List.getElem_cons_succ, List.setIfInBounds_toArray, List.set_cons_succ, List.set_cons_zero]
      refine wpAnyH_take (i := 2) (v := .pointer (some ⟨bq, 1, none⟩)) rfl (by kernel_rfl) (by kernel_rfl) (by kernel_rfl) (fun _ _ _ h => h) (Or.inl ⟨by rfl, fun W _ => by go_simp⟩) hHeld ?_
      simp only [Act.put, List.getElem_toArray, List.getElem_cons_zero, List.getElem_cons_succ, List.setIfInBounds_toArray, List.set_cons_succ, List.set_cons_zero]
      refine wpAnyH_take (i := 3) (v := .slice av LL cvv) rfl (by kernel_rfl) (by kernel_rfl) (by kernel_rfl) (fun _ _ _ h => h) (Or.inl ⟨by rfl, fun W hW => by have hcell := (hW.cell (p := ⟨bq, 1, none⟩) HLT3.out).trans HC1.out; clear hW; go_simp⟩) hHeld ?_
      simp only [Act.put, List.getElem_toArray, List.getElem_cons_zero, List.getElem_cons_succ, List.setIfInBounds_toArray, List.set_cons_succ, List.set_cons_zero]
      refine wpAnyH_take (i := 5) (v := .pointer (some ⟨bq, 2, none⟩)) rfl (by kernel_rfl) (by kernel_rfl) (by kernel_rfl) (fun _ _ _ h => h) (Or.inl ⟨by rfl, fun W _ => by go_simp⟩) hHeld ?_
      simp only [Act.put, List.getElem_toArray, List.getElem_cons_zero, List.getElem_cons_succ, List.setIfInBounds_toArray, List.set_cons_succ, List.set_cons_zero]
      refine wpAnyH_take (i := 6) (v := .agg #[.int .i64 h, .int .i64 mi, .int .i64 g]) rfl (by kernel_rfl) (by kernel_rfl) (by kernel_rfl) (fun _ _ _ h => h) (yieldsIf_load_mid (by rfl) 29 (.tmp 64) rfl bq 2 rfl [.int .i64 h, .int .i64 mi, .int .i64 g] _ (fun W hW => HRU.out W hW) Try.underlying29 rfl HSU.out) hHeld ?_
      simp only [Act.put, List.getElem_toArray, List.getElem_cons_zero, List.getElem_cons_succ, List.setIfInBounds_toArray, List.set_cons_succ, List.set_cons_zero]
      refine wpAnyH_ready (rs := [4, 8]) (by kernel_rfl) (by simp) ?_
      refine AllReadyH.cons rfl (fun K hK => ?_) (AllReadyH.cons rfl (fun K hK => ?_) AllReadyH.nil)
      · refine step_app_pairs rfl _ _ rfl w3.heap.size (.slice none 0 0) [] rfl (OwnP.nil _ _) (.slice av LL cvv) L rfl (HSR.out.below hHeld) (by rw [List.length_nil, HLL.out]; omega) hHeld.size ?_
        intro v4 w4 ho4 hg4
        rw [List.nil_append] at ho4
        have hs4 : Below w3.heap.size w3 w4 := hHeld.trans ⟨hg4.os, hg4.tape, hg4.output, hg4.size, fun k hk => hg4.block k (Nat.lt_of_lt_of_le hk hHeld.size) (by simp [Value.ownBlock])⟩
        obtain ⟨a4, c4, hv4⟩ := ho4.shape
        have HO4 := hid ho4
        subst hv4
        obtain ⟨v4, HV4⟩ : ∃ v4, Hid (Value.slice a4 L.length c4 = v4) := ⟨_, rfl⟩
        have HV41 : Hid (v4.oneCell' = true) := hid (by rw [← HV4.out]; rfl)
        rw [HV4.out] at HO4 ⊢
        clear ho4
        refine hK.out _ _ hs4 (fun hHeld => ?_)
        clear hK K
        simp only [Act.put, List.getElem_toArray, List.getElem_cons_zero, List.getElem_cons_succ, List.setIfInBounds_toArray, List.set_cons_succ, List.set_cons_zero]
        refine wpAnyH_take (i := 7) (v := .agg #[.int .i64 most, v4, .int .i64 h, .int .i64 mi, .int .i64 g]) rfl (by kernel_rfl) (by kernel_rfl) (by kernel_rfl) (fun _ _ _ h => h) (yields_build (by rfl) 31 #[(0, .tmp 60), (1, .tmp 63), (2, .tmp 65)] rfl [(0, .int .i64 most), (1, v4), (2, .agg #[.int .i64 h, .int .i64 mi, .int .i64 g])] (by simp [Act.eval]) _ (by rw [← HV4.out]; kernel_rfl)) hHeld ?_
        simp only [Act.put, List.getElem_toArray, List.getElem_cons_zero, List.getElem_cons_succ, List.setIfInBounds_toArray, List.set_cons_succ, List.set_cons_zero]
        refine wpAnyH_ready (rs := [8]) (by kernel_rfl) (by simp) ?_
        refine AllReadyH.cons rfl (fun K hK => ?_) AllReadyH.nil
        refine step_alloc_row rfl 31 rfl #[.int .i64 0, .slice none 0 0, .int .i64 0, .int .i64 0, .int .i64 0] z5 ?_
        refine hK.out _ _ (hHeld.alloc hHeld.size _) (fun hHeld => ?_)
        clear hK K
        simp only [Act.put, List.getElem_toArray, List.getElem_cons_zero, List.getElem_cons_succ, List.setIfInBounds_toArray, List.set_cons_succ, List.set_cons_zero]
        have HBPL : Hid (w3.heap.size ≤ w4.heap.size) := hid hs4.size
        have HO5 : Hid (OwnP (w4.alloc (.cells #[.int .i64 0, .slice none 0 0, .int .i64 0, .int .i64 0, .int .i64 0] 31)) w3.heap.size v4 L) := hid (HO4.out.below (below_walk _ _))
        refine wpAnyH_ready (rs := [9]) (by kernel_rfl) (by simp) ?_
        refine AllReadyH.cons rfl (fun K hK => ?_) AllReadyH.nil
        refine step_store_row rfl 31 (.tmp 14) (.tmp 66) rfl w4.heap.size [.int .i64 most, v4, .int .i64 h, .int .i64 mi, .int .i64 g] rfl rfl 31 #[.int .i64 0, .slice none 0 0, .int .i64 0, .int .i64 0, .int .i64 0] (by exact hp_new w4 (.cells #[.int .i64 0, .slice none 0 0, .int .i64 0, .int .i64 0, .int .i64 0] 31)) HS5.out rfl (five_one rfl HV41.out rfl rfl rfl) ?_
        intro w6 hs6
        have hb6 : Below w3.heap.size w3 w6 := hHeld.trans ⟨hs6.grown.os, hs6.grown.tape, hs6.grown.output, hs6.grown.size, fun k hk => hs6.grown.block k (Nat.lt_of_lt_of_le hk hHeld.size) (by have := HBPL.out; simp; omega)⟩
        have HB6 := hid hb6
        have HN6 := hid hs6.blk
        have HO6 : Hid (OwnP w6 w3.heap.size v4 L) := hid (HO5.out.fr (F := [w4.heap.size]) ⟨hs6.grown.os, hs6.grown.tape, hs6.grown.output, hs6.grown.size, fun k hk hF => hs6.grown.block k hk (by simpa using hF)⟩ (fun k hk e => by simp at e; subst e; obtain ⟨cur, e1, _⟩ := HO5.out.typ hk; have e2 := (by exact hp_new w4 (.cells #[.int .i64 0, .slice none 0 0, .int .i64 0, .int .i64 0, .int .i64 0] 31)); rw [e2] at e1; injection e1 with e1; injection e1 with _ e1 _; exact absurd e1 (by decide)))
        refine hK.out _ _ hb6 (fun hHeld => ?_)
        clear hK K
        simp only [Act.put, List.getElem_toArray, List.getElem_cons_zero, List.getElem_cons_succ]
        refine wpAnyH_done (by kernel_rfl) ?_ _
        simp only [noPanic]
        clear hHeld
        clear hs6 hb6
        obtain ⟨bp, HBP⟩ : ∃ bp, Hid (w4.heap.size = bp) := ⟨_, rfl⟩
        have HBL : Hid (w3.heap.size ≤ bp) := hid (by have := HBPL.out; have := HBP.out; omega)
        rw [HBP.out] at HN6
        first | rw [HBP.out] | rw [show w3.drew.heap.size = bp from HBP.out]
        have HBo : Hid (Both w6 w.heap.size bm bq c bp) := hid ⟨⟨_, _, _, _, _, _, _, _, _, _, _, _, _, _, HD3.out.below HB6.out, ⟨(HP3.out.below HB6.out).lw HB.out.size, ⟨Nat.le_trans HB3.out.size HBL.out, HN6.out, HO6.out.lw HB3.out.size, HD3.out.r.kd, HD3.out.r.le⟩⟩, far_mk HFR.out (Nat.le_trans HZ3.out HBL.out) HP3.out.lo⟩⟩
        have HB7 := hid (HB3.out.trans (HB6.out.mono HB3.out.size))
        clear HD3 HP3 HFR HB3 HZ3 HN6 HO6 HB6 HO4 HO5 HC0 HC1 HRU HSR HV4 HV41 HLL hLL HLT3 HSU
        try clear HN4
        go_upto_region 18 with fail
        all_goals
          try have hmx := Nat.lt_or_ge n1 n2
          obtain ⟨_, sA⟩ := zero_of_info (P := Try.prog) (t := 37) (v := .agg #[.int .i64 0, .int .i64 0, .int .i64 0, .slice none 0 0]) (n := 4) (by kernel_rfl)
          have HS := hid sA
          clear sA
          go_loopw [72] (fun vi wr => ∃ (j : Nat), j ≤ n1 + n2 ∧ vi = .int .i64 j ∧ Hid (Both wr w.heap.size bm bq c bp) ∧ Hid (Below w.heap.size w wr)) (fun vi _ => n1 + n2 - (intOf vi).toNat)
          case atStart => exact ⟨0, by omega, rfl, HBo, HB7⟩
          case round =>
            clear HBo HB7
            obtain ⟨j, hj, rfl, HBo, HBW⟩ := hrel
            by_cases hA : j < n1
            · by_cases hC : j < n2
              · have hlt : j < n1 + n2 := by omega
                as_aux_lemma =>
                  obtain ⟨gr21, o21, hao21, d21, k21, x21, vp21, ks21, hrg21, hps21, hkk21, _, hvv21⟩ := HV1.out.at j hA
                  subst hao21
                  have HG21 := hid (both_first HBo.out d21 k21 x21 vp21 ks21 hkk21 (fun W hW => hps21 W (HBW.out.trans hW)))
                  have HRG21 := hid (hrg21 _ HBW.out)
                  clear hrg21 hps21 hkk21 hvv21
                  go_wp2_with (first
                    | (refine unguard (by rfl) ?_; refine wpList_load_mid rfl 37 (.tmp 83) rfl gr21 (o21 + j * 4) rfl [.int .i64 d21, .int .i64 k21, .int .i64 x21, vp21] _ HRG21.out Try.underlying37 rfl HS.out ?_)
                    | (refine wpList_load_mid rfl 37 (.tmp 83) rfl gr21 (o21 + j * 4) rfl [.int .i64 d21, .int .i64 k21, .int .i64 x21, vp21] _ HRG21.out Try.underlying37 rfl HS.out ?_))
                  refine HG21.out.mono ?_
                  rintro e w21 ⟨rfl, q21, b21⟩
                  replace HBo := hid q21
                  replace HBW := hid (HBW.out.trans b21)
                  clear q21 b21 HG21 HRG21
                  obtain ⟨gr22, o22, hao22, d22, k22, x22, vp22, ks22, hrg22, hps22, hkk22, _, hvv22⟩ := HV2.out.at j hC
                  subst hao22
                  have HG22 := hid (both_second HBo.out d22 k22 x22 vp22 ks22 hkk22 (fun W hW => hps22 W (HBW.out.trans hW)))
                  have HRG22 := hid (hrg22 _ HBW.out)
                  clear hrg22 hps22 hkk22 hvv22
                  go_wp2_with (first
                    | (refine unguard (by rfl) ?_; refine wpList_load_mid rfl 37 (.tmp 97) rfl gr22 (o22 + j * 4) rfl [.int .i64 d22, .int .i64 k22, .int .i64 x22, vp22] _ HRG22.out Try.underlying37 rfl HS.out ?_)
                    | (refine wpList_load_mid rfl 37 (.tmp 97) rfl gr22 (o22 + j * 4) rfl [.int .i64 d22, .int .i64 k22, .int .i64 x22, vp22] _ HRG22.out Try.underlying37 rfl HS.out ?_))
                  refine HG22.out.mono ?_
                  rintro e w22 ⟨rfl, q22, b22⟩
                  replace HBo := hid q22
                  replace HBW := hid (HBW.out.trans b22)
                  clear q22 b22 HG22 HRG22
                  go_wp2
                  exact ⟨⟨j + 1, by omega, by simp, HBo, HBW⟩, by simp [intOf]; omega⟩
              · first
                  | (exfalso; omega)
                  | (have hlt : j < n1 + n2 := by omega
                     as_aux_lemma =>
                       obtain ⟨gr23, o23, hao23, d23, k23, x23, vp23, ks23, hrg23, hps23, hkk23, _, hvv23⟩ := HV1.out.at j hA
                       subst hao23
                       have HG23 := hid (both_first HBo.out d23 k23 x23 vp23 ks23 hkk23 (fun W hW => hps23 W (HBW.out.trans hW)))
                       have HRG23 := hid (hrg23 _ HBW.out)
                       clear hrg23 hps23 hkk23 hvv23
                       go_wp2_with (first
                         | (refine unguard (by rfl) ?_; refine wpList_load_mid rfl 37 (.tmp 83) rfl gr23 (o23 + j * 4) rfl [.int .i64 d23, .int .i64 k23, .int .i64 x23, vp23] _ HRG23.out Try.underlying37 rfl HS.out ?_)
                         | (refine wpList_load_mid rfl 37 (.tmp 83) rfl gr23 (o23 + j * 4) rfl [.int .i64 d23, .int .i64 k23, .int .i64 x23, vp23] _ HRG23.out Try.underlying37 rfl HS.out ?_))
                       refine HG23.out.mono ?_
                       rintro e w23 ⟨rfl, q23, b23⟩
                       replace HBo := hid q23
                       replace HBW := hid (HBW.out.trans b23)
                       clear q23 b23 HG23 HRG23
                       go_wp2
                       exact ⟨⟨j + 1, by omega, by simp, HBo, HBW⟩, by simp [intOf]; omega⟩)
            · by_cases hC : j < n2
              · first
                  | (exfalso; omega)
                  | (have hlt : j < n1 + n2 := by omega
                     as_aux_lemma =>
                       obtain ⟨gr24, o24, hao24, d24, k24, x24, vp24, ks24, hrg24, hps24, hkk24, _, hvv24⟩ := HV2.out.at j hC
                       subst hao24
                       have HG24 := hid (both_second HBo.out d24 k24 x24 vp24 ks24 hkk24 (fun W hW => hps24 W (HBW.out.trans hW)))
                       have HRG24 := hid (hrg24 _ HBW.out)
                       clear hrg24 hps24 hkk24 hvv24
                       go_wp2_with (first
                         | (refine unguard (by rfl) ?_; refine wpList_load_mid rfl 37 (.tmp 97) rfl gr24 (o24 + j * 4) rfl [.int .i64 d24, .int .i64 k24, .int .i64 x24, vp24] _ HRG24.out Try.underlying37 rfl HS.out ?_)
                         | (refine wpList_load_mid rfl 37 (.tmp 97) rfl gr24 (o24 + j * 4) rfl [.int .i64 d24, .int .i64 k24, .int .i64 x24, vp24] _ HRG24.out Try.underlying37 rfl HS.out ?_))
                       refine HG24.out.mono ?_
                       rintro e w24 ⟨rfl, q24, b24⟩
                       replace HBo := hid q24
                       replace HBW := hid (HBW.out.trans b24)
                       clear q24 b24 HG24 HRG24
                       go_wp2
                       exact ⟨⟨j + 1, by omega, by simp, HBo, HBW⟩, by simp [intOf]; omega⟩)
              · have HG := hid (both_stands1 HBo.out)
                go_wp2_with fail
                refine HG.out.mono ?_
                rintro e w8 ⟨rfl, b8⟩
                have HB8 := hid (HBW.out.trans (b8.mono HBW.out.size))
                have HBo8 := hid (HBo.out.below b8)
                clear b8 HG HBW HBo
                have HG := hid (both_stands2 HBo8.out)
                go_wp2_with fail
                refine HG.out.mono ?_
                rintro e w9 ⟨rfl, b9⟩
                have HB9 := hid (HB8.out.trans (b9.mono HB8.out.size))
                clear b9
                go_wp2
                go_ret
                exact ⟨rfl, HB9.out⟩
      · refine step_alloc_row rfl 31 rfl #[.int .i64 0, .slice none 0 0, .int .i64 0, .int .i64 0, .int .i64 0] z5 ?_
        refine hK.out _ _ (hHeld.alloc hHeld.size _) (fun hHeld => ?_)
        clear hK K
        simp only [Act.put, List.getElem_toArray, List.getElem_cons_zero, List.getElem_cons_succ, List.setIfInBounds_toArray, List.set_cons_succ, List.set_cons_zero]
        refine wpAnyH_ready (rs := [4]) (by kernel_rfl) (by simp) ?_
        refine AllReadyH.cons rfl (fun K hK => ?_) AllReadyH.nil
        refine step_app_pairs rfl _ _ rfl w3.heap.size (.slice none 0 0) [] rfl (OwnP.nil _ _) (.slice av LL cvv) L rfl (HSR.out.below hHeld) (by rw [List.length_nil, HLL.out]; omega) hHeld.size ?_
        intro v4 w4 ho4 hg4
        rw [List.nil_append] at ho4
        have hs4 : Below w3.heap.size w3 w4 := hHeld.trans ⟨hg4.os, hg4.tape, hg4.output, hg4.size, fun k hk => hg4.block k (Nat.lt_of_lt_of_le hk hHeld.size) (by simp [Value.ownBlock])⟩
        obtain ⟨a4, c4, hv4⟩ := ho4.shape
        have HO4 := hid ho4
        subst hv4
        obtain ⟨v4, HV4⟩ : ∃ v4, Hid (Value.slice a4 L.length c4 = v4) := ⟨_, rfl⟩
        have HV41 : Hid (v4.oneCell' = true) := hid (by rw [← HV4.out]; rfl)
        rw [HV4.out] at HO4 ⊢
        clear ho4
        have HN4 : Hid (w4.heap[w3.heap.size]? = some (.cells #[.int .i64 0, .slice none 0 0, .int .i64 0, .int .i64 0, .int .i64 0] 31 (0, 0))) := hid ((hg4.block w3.heap.size (by simp) (by simp [Value.ownBlock])).trans (hp_new w3 (.cells #[.int .i64 0, .slice none 0 0, .int .i64 0, .int .i64 0, .int .i64 0] 31)))
        refine hK.out _ _ hs4 (fun hHeld => ?_)
        clear hK K
        simp only [Act.put, List.getElem_toArray, List.getElem_cons_zero, List.getElem_cons_succ, List.setIfInBounds_toArray, List.set_cons_succ, List.set_cons_zero]
        refine wpAnyH_take (i := 7) (v := .agg #[.int .i64 most, v4, .int .i64 h, .int .i64 mi, .int .i64 g]) rfl (by kernel_rfl) (by kernel_rfl) (by kernel_rfl) (fun _ _ _ h => h) (yields_build (by rfl) 31 #[(0, .tmp 60), (1, .tmp 63), (2, .tmp 65)] rfl [(0, .int .i64 most), (1, v4), (2, .agg #[.int .i64 h, .int .i64 mi, .int .i64 g])] (by simp [Act.eval]) _ (by rw [← HV4.out]; kernel_rfl)) hHeld ?_
        simp only [Act.put, List.getElem_toArray, List.getElem_cons_zero, List.getElem_cons_succ, List.setIfInBounds_toArray, List.set_cons_succ, List.set_cons_zero]
        have HBPL : Hid (w3.heap.size ≤ w3.heap.size) := hid (Nat.le_refl _)
        have HO5 := HO4
        refine wpAnyH_ready (rs := [9]) (by kernel_rfl) (by simp) ?_
        refine AllReadyH.cons rfl (fun K hK => ?_) AllReadyH.nil
        refine step_store_row rfl 31 (.tmp 14) (.tmp 66) rfl w3.heap.size [.int .i64 most, v4, .int .i64 h, .int .i64 mi, .int .i64 g] rfl rfl 31 #[.int .i64 0, .slice none 0 0, .int .i64 0, .int .i64 0, .int .i64 0] (by exact HN4.out) HS5.out rfl (five_one rfl HV41.out rfl rfl rfl) ?_
        intro w6 hs6
        have hb6 : Below w3.heap.size w3 w6 := hHeld.trans ⟨hs6.grown.os, hs6.grown.tape, hs6.grown.output, hs6.grown.size, fun k hk => hs6.grown.block k (Nat.lt_of_lt_of_le hk hHeld.size) (by have := HBPL.out; simp; omega)⟩
        have HB6 := hid hb6
        have HN6 := hid hs6.blk
        have HO6 : Hid (OwnP w6 w3.heap.size v4 L) := hid (HO5.out.fr (F := [w3.heap.size]) ⟨hs6.grown.os, hs6.grown.tape, hs6.grown.output, hs6.grown.size, fun k hk hF => hs6.grown.block k hk (by simpa using hF)⟩ (fun k hk e => by simp at e; subst e; obtain ⟨cur, e1, _⟩ := HO5.out.typ hk; have e2 := (by exact HN4.out); rw [e2] at e1; injection e1 with e1; injection e1 with _ e1 _; exact absurd e1 (by decide)))
        refine hK.out _ _ hb6 (fun hHeld => ?_)
        clear hK K
        simp only [Act.put, List.getElem_toArray, List.getElem_cons_zero, List.getElem_cons_succ]
        refine wpAnyH_done (by kernel_rfl) ?_ _
        simp only [noPanic]
        clear hHeld
        clear hs6 hb6
        obtain ⟨bp, HBP⟩ : ∃ bp, Hid (w3.heap.size = bp) := ⟨_, rfl⟩
        have HBL : Hid (w3.heap.size ≤ bp) := hid (by have := HBPL.out; have := HBP.out; omega)
        rw [HBP.out] at HN6
        first | rw [HBP.out] | rw [show w3.drew.heap.size = bp from HBP.out]
        have HBo : Hid (Both w6 w.heap.size bm bq c bp) := hid ⟨⟨_, _, _, _, _, _, _, _, _, _, _, _, _, _, HD3.out.below HB6.out, ⟨(HP3.out.below HB6.out).lw HB.out.size, ⟨Nat.le_trans HB3.out.size HBL.out, HN6.out, HO6.out.lw HB3.out.size, HD3.out.r.kd, HD3.out.r.le⟩⟩, far_mk HFR.out (Nat.le_trans HZ3.out HBL.out) HP3.out.lo⟩⟩
        have HB7 := hid (HB3.out.trans (HB6.out.mono HB3.out.size))
        clear HD3 HP3 HFR HB3 HZ3 HN6 HO6 HB6 HO4 HO5 HC0 HC1 HRU HSR HV4 HV41 HLL hLL HLT3 HSU
        try clear HN4
        go_upto_region 18 with fail
        all_goals
          try have hmx := Nat.lt_or_ge n1 n2
          obtain ⟨_, sA⟩ := zero_of_info (P := Try.prog) (t := 37) (v := .agg #[.int .i64 0, .int .i64 0, .int .i64 0, .slice none 0 0]) (n := 4) (by kernel_rfl)
          have HS := hid sA
          clear sA
          go_loopw [72] (fun vi wr => ∃ (j : Nat), j ≤ n1 + n2 ∧ vi = .int .i64 j ∧ Hid (Both wr w.heap.size bm bq c bp) ∧ Hid (Below w.heap.size w wr)) (fun vi _ => n1 + n2 - (intOf vi).toNat)
          case atStart => exact ⟨0, by omega, rfl, HBo, HB7⟩
          case round =>
            clear HBo HB7
            obtain ⟨j, hj, rfl, HBo, HBW⟩ := hrel
            by_cases hA : j < n1
            · by_cases hC : j < n2
              · have hlt : j < n1 + n2 := by omega
                as_aux_lemma =>
                  obtain ⟨gr21, o21, hao21, d21, k21, x21, vp21, ks21, hrg21, hps21, hkk21, _, hvv21⟩ := HV1.out.at j hA
                  subst hao21
                  have HG21 := hid (both_first HBo.out d21 k21 x21 vp21 ks21 hkk21 (fun W hW => hps21 W (HBW.out.trans hW)))
                  have HRG21 := hid (hrg21 _ HBW.out)
                  clear hrg21 hps21 hkk21 hvv21
                  go_wp2_with (first
                    | (refine unguard (by rfl) ?_; refine wpList_load_mid rfl 37 (.tmp 83) rfl gr21 (o21 + j * 4) rfl [.int .i64 d21, .int .i64 k21, .int .i64 x21, vp21] _ HRG21.out Try.underlying37 rfl HS.out ?_)
                    | (refine wpList_load_mid rfl 37 (.tmp 83) rfl gr21 (o21 + j * 4) rfl [.int .i64 d21, .int .i64 k21, .int .i64 x21, vp21] _ HRG21.out Try.underlying37 rfl HS.out ?_))
                  refine HG21.out.mono ?_
                  rintro e w21 ⟨rfl, q21, b21⟩
                  replace HBo := hid q21
                  replace HBW := hid (HBW.out.trans b21)
                  clear q21 b21 HG21 HRG21
                  obtain ⟨gr22, o22, hao22, d22, k22, x22, vp22, ks22, hrg22, hps22, hkk22, _, hvv22⟩ := HV2.out.at j hC
                  subst hao22
                  have HG22 := hid (both_second HBo.out d22 k22 x22 vp22 ks22 hkk22 (fun W hW => hps22 W (HBW.out.trans hW)))
                  have HRG22 := hid (hrg22 _ HBW.out)
                  clear hrg22 hps22 hkk22 hvv22
                  go_wp2_with (first
                    | (refine unguard (by rfl) ?_; refine wpList_load_mid rfl 37 (.tmp 97) rfl gr22 (o22 + j * 4) rfl [.int .i64 d22, .int .i64 k22, .int .i64 x22, vp22] _ HRG22.out Try.underlying37 rfl HS.out ?_)
                    | (refine wpList_load_mid rfl 37 (.tmp 97) rfl gr22 (o22 + j * 4) rfl [.int .i64 d22, .int .i64 k22, .int .i64 x22, vp22] _ HRG22.out Try.underlying37 rfl HS.out ?_))
                  refine HG22.out.mono ?_
                  rintro e w22 ⟨rfl, q22, b22⟩
                  replace HBo := hid q22
                  replace HBW := hid (HBW.out.trans b22)
                  clear q22 b22 HG22 HRG22
                  go_wp2
                  exact ⟨⟨j + 1, by omega, by simp, HBo, HBW⟩, by simp [intOf]; omega⟩
              · first
                  | (exfalso; omega)
                  | (have hlt : j < n1 + n2 := by omega
                     as_aux_lemma =>
                       obtain ⟨gr23, o23, hao23, d23, k23, x23, vp23, ks23, hrg23, hps23, hkk23, _, hvv23⟩ := HV1.out.at j hA
                       subst hao23
                       have HG23 := hid (both_first HBo.out d23 k23 x23 vp23 ks23 hkk23 (fun W hW => hps23 W (HBW.out.trans hW)))
                       have HRG23 := hid (hrg23 _ HBW.out)
                       clear hrg23 hps23 hkk23 hvv23
                       go_wp2_with (first
                         | (refine unguard (by rfl) ?_; refine wpList_load_mid rfl 37 (.tmp 83) rfl gr23 (o23 + j * 4) rfl [.int .i64 d23, .int .i64 k23, .int .i64 x23, vp23] _ HRG23.out Try.underlying37 rfl HS.out ?_)
                         | (refine wpList_load_mid rfl 37 (.tmp 83) rfl gr23 (o23 + j * 4) rfl [.int .i64 d23, .int .i64 k23, .int .i64 x23, vp23] _ HRG23.out Try.underlying37 rfl HS.out ?_))
                       refine HG23.out.mono ?_
                       rintro e w23 ⟨rfl, q23, b23⟩
                       replace HBo := hid q23
                       replace HBW := hid (HBW.out.trans b23)
                       clear q23 b23 HG23 HRG23
                       go_wp2
                       exact ⟨⟨j + 1, by omega, by simp, HBo, HBW⟩, by simp [intOf]; omega⟩)
            · by_cases hC : j < n2
              · first
                  | (exfalso; omega)
                  | (have hlt : j < n1 + n2 := by omega
                     as_aux_lemma =>
                       obtain ⟨gr24, o24, hao24, d24, k24, x24, vp24, ks24, hrg24, hps24, hkk24, _, hvv24⟩ := HV2.out.at j hC
                       subst hao24
                       have HG24 := hid (both_second HBo.out d24 k24 x24 vp24 ks24 hkk24 (fun W hW => hps24 W (HBW.out.trans hW)))
                       have HRG24 := hid (hrg24 _ HBW.out)
                       clear hrg24 hps24 hkk24 hvv24
                       go_wp2_with (first
                         | (refine unguard (by rfl) ?_; refine wpList_load_mid rfl 37 (.tmp 97) rfl gr24 (o24 + j * 4) rfl [.int .i64 d24, .int .i64 k24, .int .i64 x24, vp24] _ HRG24.out Try.underlying37 rfl HS.out ?_)
                         | (refine wpList_load_mid rfl 37 (.tmp 97) rfl gr24 (o24 + j * 4) rfl [.int .i64 d24, .int .i64 k24, .int .i64 x24, vp24] _ HRG24.out Try.underlying37 rfl HS.out ?_))
                       refine HG24.out.mono ?_
                       rintro e w24 ⟨rfl, q24, b24⟩
                       replace HBo := hid q24
                       replace HBW := hid (HBW.out.trans b24)
                       clear q24 b24 HG24 HRG24
                       go_wp2
                       exact ⟨⟨j + 1, by omega, by simp, HBo, HBW⟩, by simp [intOf]; omega⟩)
              · have HG := hid (both_stands1 HBo.out)
                go_wp2_with fail
                refine HG.out.mono ?_
                rintro e w8 ⟨rfl, b8⟩
                have HB8 := hid (HBW.out.trans (b8.mono HBW.out.size))
                have HBo8 := hid (HBo.out.below b8)
                clear b8 HG HBW HBo
                have HG := hid (both_stands2 HBo8.out)
                go_wp2_with fail
                refine HG.out.mono ?_
                rintro e w9 ⟨rfl, b9⟩
                have HB9 := hid (HB8.out.trans (b9.mono HB8.out.size))
                clear b9
                go_wp2
                go_ret
                exact ⟨rfl, HB9.out⟩


end Go.Proofs.Ytnbbebapfiocpaa
