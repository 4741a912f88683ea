/- Contracts and pure facts that the proof needs, joined. -/
import Derived.Test.YtnbbebapfiocpaaG2
import Derived.Test.YtnbbebapfiocpaaG1

/- LruCopies (written by lcopies.py). -/
namespace Go.Proofs.Ytnbbebapfiocpaa
open Go.RowKit

section
variable {w w' : World} {base m b most : Nat} {L : List (Int × Int)} {h mi g : Int} {F : List Nat} {v : Value} {c p most2 : Nat} {L2 : List (Int × Int)} {h2 mi2 g2 : Int} {G : List Nat} {u : Value}
theorem Du.row2 (q : Du w base m b most L h mi g F v) (r : Du w base c p most2 L2 h2 mi2 g2 G u) : ∀ k, u.ownBlock = some k → k ∉ b :: F := fun k hk e => by
  obtain ⟨cur, h1, _⟩ := r.r.own.typ hk
  rcases List.mem_cons.1 e with rfl | e
  · rw [q.r.blk] at h1; injection h1 with h1; injection h1 with _ e _; exact absurd e (by decide)
  · exact q.p.typ h1 (by decide) (by decide) e
/-- two that are apart: whatever the one does, the other stays -/
def Far (b p : Nat) (F G : List Nat) : Prop := ∀ x ∈ b :: F, x ∉ p :: G
theorem far_mk {b p s : Nat} {F G : List Nat} (h1 : ∀ x ∈ b :: F, x < s) (h2 : s ≤ p) (h3 : ∀ x ∈ G, s ≤ x) : Far b p F G := fun x hx e => by
  have := h1 x hx
  rcases List.mem_cons.1 e with rfl | e
  · omega
  · have := h3 x e; omega
theorem Far.symm {F G : List Nat} {b p : Nat} (f : Far b p F G) : Far p b G F := fun x hx e => f x e hx
theorem Du.keeps (q : Du w base m b most L h mi g F v) (r : Du w base c p most2 L2 h2 mi2 g2 G u) (f : Far b p F G) {F' : List Nat} (s : Ds w w' b F F') : Du w' base c p most2 L2 h2 mi2 g2 G u ∧ Far b p F' G := by
  refine ⟨⟨r.p.fr s.1 (fun x hx e => f x e (List.mem_cons_of_mem _ hx)), r.r.fr s.1 (fun e => f p e (List.mem_cons_self ..)) (fun k hk => q.row2 r k hk)⟩, fun x hx e => ?_⟩
  rcases List.mem_cons.1 hx with rfl | hx
  · exact f x (List.mem_cons_self ..) e
  · rcases s.2 x hx with h | h
    · exact f x (List.mem_cons_of_mem _ h) e
    · rcases List.mem_cons.1 e with rfl | e
      · have := r.r.lt; omega
      · have := r.p.lts x e; omega
end

/-- both, and apart -/
structure Both (w : World) (base m b c p : Nat) : Prop where
  out : ∃ most L h mi g F v most2 L2 h2 mi2 g2 G u, Du w base m b most L h mi g F v ∧ Du w base c p most2 L2 h2 mi2 g2 G u ∧ Far b p F G
theorem Both.below {w w' : World} {base m b c p : Nat} (q : Both w base m b c p) (s : Below w.heap.size w w') : Both w' base m b c p := by
  obtain ⟨_, _, _, _, _, _, _, _, _, _, _, _, _, _, q1, q2, f⟩ := q.out
  exact ⟨⟨_, _, _, _, _, _, _, _, _, _, _, _, _, _, q1.below s, q2.below s, f⟩⟩
theorem both_first {w : World} {base m b c p : Nat} (q : Both w base m b c p) (d k x : Int) (vp : Value) (ks : List Int) (hk : iKok k) (hv : ∀ W, Below base w W → Ints W vp ks) :
    Calls Try.prog 13 #[pt m, pt b, .agg #[.int .i64 d, .int .i64 k, .int .i64 x, vp]] w fun e w' => e = .returned (.bool true) ∧ Both w' base m b c p ∧ Below base w w' := by
  obtain ⟨_, _, _, _, _, _, _, _, _, _, _, _, _, _, q1, q2, f⟩ := q.out
  refine (does_any q1 d k x vp ks hk hv).mono ?_
  rintro e w' ⟨rfl, _, _, _, _, _, _, _, q3, s⟩
  obtain ⟨q4, f4⟩ := q1.keeps q2 f s
  exact ⟨rfl, ⟨⟨_, _, _, _, _, _, _, _, _, _, _, _, _, _, q3, q4, f4⟩⟩, q1.low s⟩
theorem both_second {w : World} {base m b c p : Nat} (q : Both w base m b c p) (d k x : Int) (vp : Value) (ks : List Int) (hk : iKok k) (hv : ∀ W, Below base w W → Ints W vp ks) :
    Calls Try.prog 13 #[pt c, pt p, .agg #[.int .i64 d, .int .i64 k, .int .i64 x, vp]] w fun e w' => e = .returned (.bool true) ∧ Both w' base m b c p ∧ Below base w w' := by
  obtain ⟨_, _, _, _, _, _, _, _, _, _, _, _, _, _, q1, q2, f⟩ := q.out
  refine (does_any q2 d k x vp ks hk hv).mono ?_
  rintro e w' ⟨rfl, _, _, _, _, _, _, _, q3, s⟩
  obtain ⟨q4, f4⟩ := q2.keeps q1 f.symm s
  exact ⟨rfl, ⟨⟨_, _, _, _, _, _, _, _, _, _, _, _, _, _, q4, q3, f4.symm⟩⟩, q2.low s⟩
theorem both_stands1 {w : World} {base m b c p : Nat} (q : Both w base m b c p) :
    Calls Try.prog 14 #[pt m, pt b] w fun e w' => e = .returned (.bool true) ∧ Below w.heap.size w w' := by
  obtain ⟨_, _, _, _, _, _, _, _, _, _, _, _, _, _, q1, q2, f⟩ := q.out
  exact stands_any q1
theorem both_stands2 {w : World} {base m b c p : Nat} (q : Both w base m b c p) :
    Calls Try.prog 14 #[pt c, pt p] w fun e w' => e = .returned (.bool true) ∧ Below w.heap.size w w' := by
  obtain ⟨_, _, _, _, _, _, _, _, _, _, _, _, _, _, q1, q2, f⟩ := q.out
  exact stands_any q2

theorem unguard {P : Program} {ops : Array Oper} {Q : Exit → Act → World → Prop} {a : Act} {w : World} {rest : List Oper} {d : Option Tmp} {op : Op} {ty : TypeId} {pos : String} {af : Array Edge} {g : Option (Nat × Bool)}
    (hw : Region.wanted ⟨d, op, ty, pos, af, g⟩ (yielded ops a.tmps) = true) (h : wpList P ops Q (⟨d, op, ty, pos, af, none⟩ :: rest) a w) : wpList P ops Q (⟨d, op, ty, pos, af, g⟩ :: rest) a w := by
  have hn : Region.wanted ⟨d, op, ty, pos, af, none⟩ (yielded ops a.tmps) = true := by simp [Region.wanted]
  simp only [wpList] at h ⊢
  rw [if_pos hn] at h
  rw [if_pos hw]
  exact h
theorem five_one {a b c d e : Value} (h1 : a.oneCell' = true) (h2 : b.oneCell' = true) (h3 : c.oneCell' = true) (h4 : d.oneCell' = true) (h5 : e.oneCell' = true) : ∀ v ∈ [a, b, c, d, e], v.oneCell' = true := by
  intro u hu
  simp only [List.mem_cons, List.not_mem_nil, or_false] at hu
  rcases hu with rfl | rfl | rfl | rfl | rfl
  · exact h1
  · exact h2
  · exact h3
  · exact h4
  · exact h5
theorem step_alloc_row {P : Program} {ops : Array Oper} {o : Oper} {a : Act} {w : World} {K : Act → World → Prop} {Q : Exit → Act → World → Prop} {E : Prop} (hgd : o.guard = none) (ty : TypeId) (ho : o.op = .alloc ty)
    (cs : Array Value) (hz : ∀ w, (zeroValue ty).run P w = .ok (.agg cs) w)
    (h : K (a.put o.dst (.pointer (some ⟨w.heap.size, 0, none⟩))) (w.alloc (.cells cs ty))) : if Region.wanted o (yielded ops a.tmps) = true then Oper.wp P o a w K Q else E := by
  rw [if_pos (by simp [Region.wanted, hgd])]
  unfold Oper.wp execOp
  simp only [ho, Instr.alloc, Sem.run_bind, hz, newVar, newRow, run_newObj_alloc, Sem.run_pure, Result.andThen_ok, Value.cells]
  exact h
theorem yields_build {P : Program} {ops : Array Oper} {S : World → Prop} {o : Oper} {a : Act} (hw : Region.wanted o (yielded ops a.tmps) = true) (t : TypeId) (parts : Array (Nat × Operand)) (ho : o.op = .build t parts)
    (vs : List (Nat × Value)) (hvs : (parts.map fun (i, x) => (i, a.eval x)).toList = vs) (cs : Array Value) (hb : P.built t vs = some cs) : YieldsIf P ops S o (.agg cs) a :=
  .inl ⟨hw, fun w _ => by
    unfold execOp
    simp only [ho, Sem.run_bind, run_build w t (parts.map fun (i, x) => (i, a.eval x)) cs (by rw [hvs]; exact hb), Sem.run_pure, Result.andThen_ok]⟩
theorem step_store_row {P : Program} {ops : Array Oper} {o : Oper} {a : Act} {w : World} {K : Act → World → Prop} {Q : Exit → Act → World → Prop} {E : Prop} (hgd : o.guard = none) (ty : TypeId) (x y : Operand) (ho : o.op = .store ty x y)
    (g : Nat) (cs : List Value) (hx : a.eval x = .pointer (some ⟨g, 0, none⟩)) (hy : a.eval y = .agg cs.toArray)
    (t : TypeId) (old : Array Value) (hg : w.heap[g]? = some (.cells old t (0, 0))) (hi : (P.info? ty).map (·.size) = some cs.length) (hold : old.size = cs.length) (h1 : ∀ v ∈ cs, v.oneCell' = true)
    (h : ∀ w', RowSet w w' g cs t → K (a.put o.dst undef) w') : if Region.wanted o (yielded ops a.tmps) = true then Oper.wp P o a w K Q else E := by
  rw [if_pos (by simp [Region.wanted, hgd])]
  exact wp_store_row ty x y ho g cs.toArray hx hy t old hg (by rw [List.size_toArray]; exact hi) (by rw [List.size_toArray]; exact hold) (by simpa using h1) (h _ (rowSet w g cs t old hg))
/-- what must be shown where no step can panic -/
def noPanic (Q : Exit → Act → World → Prop) : Exit → Act → World → Prop := fun e a w => match e with
  | .panic _ => False
  | e => Q e a w
theorem wp_noPanic {P : Program} {c : Code} {Q : Exit → Act → World → Prop} {a : Act} {w : World} (h : c.wp P (noPanic Q) a w) : c.wp P Q a w :=
  Code.wp_mono (fun e a w h => by
    cases e
    all_goals first | exact h | exact h.elim) h
theorem below_set {w w' : World} {B : Nat} (h : Below B w w') (p i : Nat) (hp : B ≤ p) (v : Value) : Below B w (w'.setCell ⟨p, i, none⟩ v) := h.setCell (p := ⟨p, i, none⟩) hp v

set_option maxRecDepth 100000 in
set_option maxHeartbeats 8000000 in
theorem lawCopies_any (w : World) (p x1 : Int) (va vb vc vk : Value) (n n1 n2 : Nat) (ha : Acts w va n) (hb : Acts w vb n1) (hc : Acts w vc n2) :
    Calls Try.prog 4 #[.agg #[.int .i64 p, .int .i64 x1, va, vb, vc, vk]] w fun e w' => e = .returned (.bool true) ∧ Below w.heap.size w w' := by
  have hn := ha.len
  have hn1 := hb.len
  have hn2 := hc.len
  obtain ⟨ao, cv, rfl⟩ := ha.shape
  obtain ⟨ao1, cv1, rfl⟩ := hb.shape
  obtain ⟨ao2, cv2, rfl⟩ := hc.shape
  have HV := hid ha
  have HV1 := hid hb
  have HV2 := hid hc
  clear ha hb hc
  obtain ⟨z5, s5⟩ := zero_of_info Try.infoMemo
  have HS5 := hid s5
  have hnw := hp_new w (.cells #[.int .i64 p, .int .i64 x1, .slice ao n cv, .slice ao1 n1 cv1, .slice ao2 n2 cv2, vk] 44)
  have d0 : (w.alloc (.cells #[.int .i64 p, .int .i64 x1, .slice ao n cv, .slice ao1 n1 cv1, .slice ao2 n2 cv2, vk] 44)).cell? ⟨w.heap.size, 0, none⟩ = some (.int .i64 p) := (cell_of_row _ _ 0 _ _ _ hnw).trans rfl
  have d2 : (w.alloc (.cells #[.int .i64 p, .int .i64 x1, .slice ao n cv, .slice ao1 n1 cv1, .slice ao2 n2 cv2, vk] 44)).cell? ⟨w.heap.size, 2, none⟩ = some (.slice ao n cv) := (cell_of_row _ _ 2 _ _ _ hnw).trans rfl
  have d3 : (w.alloc (.cells #[.int .i64 p, .int .i64 x1, .slice ao n cv, .slice ao1 n1 cv1, .slice ao2 n2 cv2, vk] 44)).cell? ⟨w.heap.size, 3, none⟩ = some (.slice ao1 n1 cv1) := (cell_of_row _ _ 3 _ _ _ hnw).trans rfl
  have d4 : (w.alloc (.cells #[.int .i64 p, .int .i64 x1, .slice ao n cv, .slice ao1 n1 cv1, .slice ao2 n2 cv2, vk] 44)).cell? ⟨w.heap.size, 4, none⟩ = some (.slice ao2 n2 cv2) := (cell_of_row _ _ 4 _ _ _ hnw).trans rfl
  have HB1 := hid (below_walk w (.cells #[.int .i64 p, .int .i64 x1, .slice ao n cv, .slice ao1 n1 cv1, .slice ao2 n2 cv2, vk] 44))
  clear s5 hnw
  go_enter Try.func4, Try.ntmps4
  go_upto_region 1 with (refine bx_row rfl 44 (.tmp 0) rfl #[.int .i64 p, .int .i64 x1, .slice ao n cv, .slice ao1 n1 cv1, .slice ao2 n2 cv2, vk] rfl ?_)
  generalize w.alloc (.cells #[.int .i64 p, .int .i64 x1, .slice ao n cv, .slice ao1 n1 cv1, .slice ao2 n2 cv2, vk] 44) = w1 at d0 d2 d3 d4 HB1 ⊢
  obtain ⟨bt, HBT⟩ : ∃ bt, Hid (w.heap.size = bt) := ⟨_, rfl⟩
  rw [HBT.out] at d0 d2 d3 d4 ⊢
  go_quiet (fail)
  have HB2 : Hid (Below w.heap.size w (w1.drewN nq)) := hid ⟨HB1.out.os, HB1.out.tape, HB1.out.output, HB1.out.size, HB1.out.block⟩
  clear d0 d2 d3 d4 HB1
  generalize w1.drewN nq = w2 at HB2 ⊢
  by_cases hp : p < 1 ∨ 4096 < p
  · have HP := hid hp
    clear hp
    go_wp2_with fail
    refine (inew_bad w2 p HP.out).mono ?_
    rintro e w3 ⟨rfl, hw3⟩
    have hw3 := hw3.symm
    subst hw3
    go_wp2_with fail
    refine (rnew_bad _ p HP.out).mono ?_
    rintro e w4 ⟨rfl, hb4⟩
    have HB4 := hid (HB2.out.trans (hb4.mono HB2.out.size))
    clear hb4
    go_upto_region 4 with (first
        | (refine al_row rfl 31 rfl _ z5 ?_; refine st_new rfl 31 (.tmp 9) (.tmp 32) rfl [.int .i64 0, .slice none 0 0, .int .i64 0, .int .i64 0, .int .i64 0] rfl rfl _ _ HS5.out rfl (by simp [Value.oneCell']) ?_))
    try simp only [Act.put, List.setIfInBounds_toArray, List.set_cons_succ, List.set_cons_zero]
    have HB5 := hid (HB4.out.alloc HB4.out.size (.cells [.int .i64 0, .slice none 0 0, .int .i64 0, .int .i64 0, .int .i64 0].toArray 31))
    generalize w4.alloc (.cells [.int .i64 0, .slice none 0 0, .int .i64 0, .int .i64 0, .int .i64 0].toArray 31) = w5 at HB5 ⊢
    clear HB4
    go_wp2_with fail
    refine (alive_any _).mono ?_
    rintro e w6 ⟨rfl, hb6⟩
    have HB6 := hid (HB5.out.trans (hb6.mono HB5.out.size))
    clear hb6
    go_wp2
    go_ret
    exact ⟨rfl, HB6.out⟩
  obtain ⟨most, rfl⟩ : ∃ M : Nat, p = (M : Int) := ⟨p.toNat, by omega⟩
  have m1 : 1 ≤ most := by omega
  have m2 : most ≤ 4096 := by omega
  clear hp
  go_wp2_with fail
  refine (inew_mo w2 most m1 m2).mono ?_
  rintro e w3 ⟨bm, F1, rfl, q1, b1⟩
  have HQ1 := hid q1
  have HB3 := hid (HB2.out.trans (b1.mono HB2.out.size))
  have HLE := hid HB2.out.size
  clear q1 b1 HB2
  go_wp2_with fail
  refine (rnew_ok _ most m1 m2).mono ?_
  rintro e w4 ⟨rfl, b2⟩
  have HQ2 := hid (HQ1.out.below b2)
  have HB4 := hid (HB3.out.trans (b2.mono HB3.out.size))
  clear b2 HQ1 HB3
  go_upto_region 4 with (first
      | (refine al_row rfl 31 rfl _ z5 ?_; refine st_new rfl 31 (.tmp 9) (.tmp 32) rfl [.int .i64 most, .slice none 0 0, .int .i64 0, .int .i64 0, .int .i64 0] rfl rfl _ _ HS5.out rfl (by simp [Value.oneCell']) ?_))
  try simp only [Act.put, List.setIfInBounds_toArray, List.set_cons_succ, List.set_cons_zero]
  have HB5 := hid (HB4.out.alloc HB4.out.size (.cells [.int .i64 most, .slice none 0 0, .int .i64 0, .int .i64 0, .int .i64 0].toArray 31))
  have HQ3 := hid (HQ2.out.below (below_walk w4 (.cells [.int .i64 most, .slice none 0 0, .int .i64 0, .int .i64 0, .int .i64 0].toArray 31)))
  have HN3 := hid (hp_new w4 (.cells [.int .i64 most, .slice none 0 0, .int .i64 0, .int .i64 0, .int .i64 0].toArray 31))
  generalize w4.alloc (.cells [.int .i64 most, .slice none 0 0, .int .i64 0, .int .i64 0, .int .i64 0].toArray 31) = w5 at HB5 HQ3 HN3 ⊢
  have HD3 : Hid (Du w5 w.heap.size bm w4.heap.size most [] 0 0 0 F1 (.slice none 0 0)) := hid ⟨HQ3.out.lw HLE.out, ⟨HB4.out.size, HN3.out, OwnP.nil _ _, by simp, by simp⟩⟩
  generalize w4.heap.size = bq at HD3 HN3 ⊢
  clear HB4 HQ2 HQ3 HN3 HLE
  go_wp2_with fail
  refine (alive_any _).mono ?_
  rintro e w6 ⟨rfl, hb6⟩
  have HB6 := hid (HB5.out.trans (hb6.mono HB5.out.size))
  have HD6 := hid (HD3.out.below hb6)
  clear hb6 HB5 HD3
  go_wp2
  go_loopw [47] (fun vi wr => ∃ (j most : Nat) (L : List (Int × Int)) (h mi g : Int) (F : List Nat) (v : Value), j ≤ n ∧ vi = .int .i64 j ∧ Hid (Du wr w.heap.size bm bq most L h mi g F v) ∧ Hid (Below w.heap.size w wr)) (fun vi _ => n - (intOf vi).toNat)
  case atStart => exact ⟨0, most, [], 0, 0, 0, F1, _, by omega, rfl, HD6, HB6⟩
  case round =>
    clear HD6 HB6
    obtain ⟨j, most, L, h, mi, g, F, v, hj, rfl, HD, HB⟩ := hrel
    by_cases hlt : j < n
    · as_aux_lemma =>
      obtain ⟨gr, o, rfl, d, k, x, vp, ks, hrg, hps, hk1, hk2, hv1⟩ := HV.out.at j hlt
      have HRG := hid (hrg _ HB.out)
      have HK1 := hid hk1
      have HPS := hid hps
      obtain ⟨z, s⟩ := zero_of_info (P := Try.prog) (t := 37) (v := .agg #[.int .i64 0, .int .i64 0, .int .i64 0, .slice none 0 0]) (n := 4) (by kernel_rfl)
      have HS := hid s
      have HVV := hid hv1
      clear hrg hps s hv1 hk1 hk2
      go_upto_region 11 with (first
        | (refine wpList_load_mid rfl 37 (.tmp 49) rfl gr (o + j * 4) rfl [.int .i64 d, .int .i64 k, .int .i64 x, vp] _ HRG.out Try.underlying37 rfl HS.out ?_)
        | (refine al_row rfl 37 rfl _ z ?_; refine st_new rfl 37 (.tmp 12) (.tmp 50) rfl [.int .i64 d, .int .i64 k, .int .i64 x, vp] rfl rfl _ _ HS.out rfl HVV.out ?_))
      try simp only [Act.put, List.setIfInBounds_toArray, List.set_cons_succ, List.set_cons_zero]
      have HB2 := hid (HB.out.alloc HB.out.size (.cells [.int .i64 d, .int .i64 k, .int .i64 x, vp].toArray 37))
      have HD2 := hid (HD.out.below (below_walk wr (.cells [.int .i64 d, .int .i64 k, .int .i64 x, vp].toArray 37)))
      have HN2 := hid (hp_new wr (.cells [.int .i64 d, .int .i64 k, .int .i64 x, vp].toArray 37))
      generalize wr.alloc (.cells [.int .i64 d, .int .i64 k, .int .i64 x, vp].toArray 37) = w2 at HB2 HD2 HN2 ⊢
      generalize wr.heap.size = b2 at HN2 ⊢
      clear z HRG HD HB
      have HG := hid (does_any HD2.out d k x vp ks HK1.out (fun W hW => HPS.out W (HB2.out.trans hW)))
      go_wp2_with (first
        | (refine ld_row rfl 37 (.tmp 12) rfl b2 rfl [.int .i64 d, .int .i64 k, .int .i64 x, vp] 37 HN2.out _ Try.underlying37 rfl HS.out ?_))
      refine HG.out.mono ?_
      rintro e w4 ⟨rfl, most4, L4, h4, mi4, g4, F4, v4, q4, s4⟩
      have HB4 := hid (HB2.out.trans (HD2.out.low s4))
      have HD4 := hid q4
      clear HG q4 s4 HD2 HB2
      go_wp2
      exact ⟨⟨j + 1, _, _, _, _, _, _, _, hlt, by simp, HD4, HB4⟩, by simp [intOf]; omega⟩
    · have HC := hid (icopy_mo HD.out.p)
      go_wp2_with fail
      refine HC.out.mono ?_
      rintro e w3 ⟨c, F3, rfl, q3, b3⟩
      have HP3 := hid q3
      have HD3 := hid (HD.out.below b3)
      have HB3 := hid (HB.out.trans (b3.mono HB.out.size))
      have HZ3 : Hid (wr.heap.size ≤ w3.heap.size) := hid b3.size
      have HFR : Hid (∀ x ∈ bq :: F, x < wr.heap.size) := hid (fun x hx => by
        rcases List.mem_cons.1 hx with rfl | hx
        · exact HD.out.r.lt
        · exact HD.out.p.lts x hx)
      clear q3 b3 HC
      go_wp2_with fail
      obtain ⟨av, cvv, hvv⟩ := HD3.out.r.own.shape
      have HSR := hid HD3.out.r.own.src
      subst hvv
      have HLT3 : Hid (bq < w3.heap.size) := hid HD3.out.r.lt
      have hLL := HD3.out.r.le
      have HC0 := hid HD3.out.r.c0
      have HC1 := hid HD3.out.r.c1
      have HRU : Hid (∀ W, Below w3.heap.size w3 W → W.rangeAt bq 2 [.int .i64 h, .int .i64 mi, .int .i64 g]) := hid (fun W hW j u hu => by rw [hW.cell (p := ⟨bq, 2 + j, none⟩) HLT3.out]; match j, hu with | 0, hu => cases hu; exact HD3.out.r.c2 | 1, hu => cases hu; exact HD3.out.r.c3 | 2, hu => cases hu; exact HD3.out.r.c4)
      obtain ⟨_, su⟩ := zero_of_info (P := Try.prog) (t := 29) (v := .agg #[.int .i64 0, .int .i64 0, .int .i64 0]) (n := 3) (by kernel_rfl)
      have HSU := hid su
      clear su
      obtain ⟨LL, HLL⟩ : ∃ LL, Hid (L.length = LL) := ⟨_, rfl⟩
      rw [HLL.out] at HSR HC1 hLL
      refine wp_noPanic (wp_region_held_drew (S := fun W => Below w3.heap.size w3 W) (by kernel_rfl) (show Below w3.heap.size w3 w3.drew from (Below.refl _ _).drew) ?_)
      intro hHeld
      refine wpAnyH_take (i := 0) (v := .pointer (some ⟨bq, 0, none⟩)) rfl (by kernel_rfl) (by kernel_rfl) (by kernel_rfl) (fun _ _ _ h => h) (Or.inl ⟨by rfl, fun W _ => by go_simp⟩) hHeld ?_
      simp only [Act.put, List.getElem_toArray, List.getElem_cons_zero, List.setIfInBounds_toArray, List.set_cons_succ, List.set_cons_zero]
      refine wpAnyH_take (i := 1) (v := .int .i64 most) rfl (by kernel_rfl) (by kernel_rfl) (by kernel_rfl) (fun _ _ _ h => h) (Or.inl ⟨by rfl, fun W hW => by have hcell := (hW.cell (p := ⟨bq, 0, none⟩) HLT3.out).trans HC0.out; clear hW; go_simp⟩) hHeld ?_
      simp only [Act.put, List.getElem_toArray, List.getElem_cons_zero, List.getElem_cons_succ, List.setIfInBounds_toArray, List.set_cons_succ, List.set_cons_zero]
      refine wpAnyH_take (i := 2) (v := .pointer (some ⟨bq, 1, none⟩)) rfl (by kernel_rfl) (by kernel_rfl) (by kernel_rfl) (fun _ _ _ h => h) (Or.inl ⟨by rfl, fun W _ => by go_simp⟩) hHeld ?_
      simp only [Act.put, List.getElem_toArray, List.getElem_cons_zero, List.getElem_cons_succ, List.setIfInBounds_toArray, List.set_cons_succ, List.set_cons_zero]
      refine wpAnyH_take (i := 3) (v := .slice av LL cvv) rfl (by kernel_rfl) (by kernel_rfl) (by kernel_rfl) (fun _ _ _ h => h) (Or.inl ⟨by rfl, fun W hW => by have hcell := (hW.cell (p := ⟨bq, 1, none⟩) HLT3.out).trans HC1.out; clear hW; go_simp⟩) hHeld ?_
      simp only [Act.put, List.getElem_toArray, List.getElem_cons_zero, List.getElem_cons_succ, List.setIfInBounds_toArray, List.set_cons_succ, List.set_cons_zero]
      refine wpAnyH_take (i := 5) (v := .pointer (some ⟨bq, 2, none⟩)) rfl (by kernel_rfl) (by kernel_rfl) (by kernel_rfl) (fun _ _ _ h => h) (Or.inl ⟨by rfl, fun W _ => by go_simp⟩) hHeld ?_
      simp only [Act.put, List.getElem_toArray, List.getElem_cons_zero, List.getElem_cons_succ, List.setIfInBounds_toArray, List.set_cons_succ, List.set_cons_zero]
      refine wpAnyH_take (i := 6) (v := .agg #[.int .i64 h, .int .i64 mi, .int .i64 g]) rfl (by kernel_rfl) (by kernel_rfl) (by kernel_rfl) (fun _ _ _ h => h) (yieldsIf_load_mid (by rfl) 29 (.tmp 64) rfl bq 2 rfl [.int .i64 h, .int .i64 mi, .int .i64 g] _ (fun W hW => HRU.out W hW) Try.underlying29 rfl HSU.out) hHeld ?_
      simp only [Act.put, List.getElem_toArray, List.getElem_cons_zero, List.getElem_cons_succ, List.setIfInBounds_toArray, List.set_cons_succ, List.set_cons_zero]
      refine wpAnyH_ready (rs := [4, 8]) (by kernel_rfl) (by simp) ?_
      refine AllReadyH.cons rfl (fun K hK => ?_) (AllReadyH.cons rfl (fun K hK => ?_) AllReadyH.nil)
      · refine step_app_pairs rfl _ _ rfl w3.heap.size (.slice none 0 0) [] rfl (OwnP.nil _ _) (.slice av LL cvv) L rfl (HSR.out.below hHeld) (by rw [List.length_nil, HLL.out]; omega) hHeld.size ?_
        intro v4 w4 ho4 hg4
        rw [List.nil_append] at ho4
        have hs4 : Below w3.heap.size w3 w4 := hHeld.trans ⟨hg4.os, hg4.tape, hg4.output, hg4.size, fun k hk => hg4.block k (Nat.lt_of_lt_of_le hk hHeld.size) (by simp [Value.ownBlock])⟩
        obtain ⟨a4, c4, hv4⟩ := ho4.shape
        have HO4 := hid ho4
        subst hv4
        obtain ⟨v4, HV4⟩ : ∃ v4, Hid (Value.slice a4 L.length c4 = v4) := ⟨_, rfl⟩
        have HV41 : Hid (v4.oneCell' = true) := hid (by rw [← HV4.out]; rfl)
        rw [HV4.out] at HO4 ⊢
        clear ho4
        refine hK.out _ _ hs4 (fun hHeld => ?_)
        clear hK K
        simp only [Act.put, List.getElem_toArray, List.getElem_cons_zero, List.getElem_cons_succ, List.setIfInBounds_toArray, List.set_cons_succ, List.set_cons_zero]
        refine wpAnyH_take (i := 7) (v := .agg #[.int .i64 most, v4, .int .i64 h, .int .i64 mi, .int .i64 g]) rfl (by kernel_rfl) (by kernel_rfl) (by kernel_rfl) (fun _ _ _ h => h) (yields_build (by rfl) 31 #[(0, .tmp 60), (1, .tmp 63), (2, .tmp 65)] rfl [(0, .int .i64 most), (1, v4), (2, .agg #[.int .i64 h, .int .i64 mi, .int .i64 g])] (by simp [Act.eval]) _ (by rw [← HV4.out]; kernel_rfl)) hHeld ?_
        simp only [Act.put, List.getElem_toArray, List.getElem_cons_zero, List.getElem_cons_succ, List.setIfInBounds_toArray, List.set_cons_succ, List.set_cons_zero]
        refine wpAnyH_ready (rs := [8]) (by kernel_rfl) (by simp) ?_
        refine AllReadyH.cons rfl (fun K hK => ?_) AllReadyH.nil
        refine step_alloc_row rfl 31 rfl #[.int .i64 0, .slice none 0 0, .int .i64 0, .int .i64 0, .int .i64 0] z5 ?_
        refine hK.out _ _ (hHeld.alloc hHeld.size _) (fun hHeld => ?_)
        clear hK K
        simp only [Act.put, List.getElem_toArray, List.getElem_cons_zero, List.getElem_cons_succ, List.setIfInBounds_toArray, List.set_cons_succ, List.set_cons_zero]
        have HBPL : Hid (w3.heap.size ≤ w4.heap.size) := hid hs4.size
        have HO5 : Hid (OwnP (w4.alloc (.cells #[.int .i64 0, .slice none 0 0, .int .i64 0, .int .i64 0, .int .i64 0] 31)) w3.heap.size v4 L) := hid (HO4.out.below (below_walk _ _))
        refine wpAnyH_ready (rs := [9]) (by kernel_rfl) (by simp) ?_
        refine AllReadyH.cons rfl (fun K hK => ?_) AllReadyH.nil
        refine step_store_row rfl 31 (.tmp 14) (.tmp 66) rfl w4.heap.size [.int .i64 most, v4, .int .i64 h, .int .i64 mi, .int .i64 g] rfl rfl 31 #[.int .i64 0, .slice none 0 0, .int .i64 0, .int .i64 0, .int .i64 0] (by exact hp_new w4 (.cells #[.int .i64 0, .slice none 0 0, .int .i64 0, .int .i64 0, .int .i64 0] 31)) HS5.out rfl (five_one rfl HV41.out rfl rfl rfl) ?_
        intro w6 hs6
        have hb6 : Below w3.heap.size w3 w6 := hHeld.trans ⟨hs6.grown.os, hs6.grown.tape, hs6.grown.output, hs6.grown.size, fun k hk => hs6.grown.block k (Nat.lt_of_lt_of_le hk hHeld.size) (by have := HBPL.out; simp; omega)⟩
        have HB6 := hid hb6
        have HN6 := hid hs6.blk
        have HO6 : Hid (OwnP w6 w3.heap.size v4 L) := hid (HO5.out.fr (F := [w4.heap.size]) ⟨hs6.grown.os, hs6.grown.tape, hs6.grown.output, hs6.grown.size, fun k hk hF => hs6.grown.block k hk (by simpa using hF)⟩ (fun k hk e => by simp at e; subst e; obtain ⟨cur, e1, _⟩ := HO5.out.typ hk; have e2 := (by exact hp_new w4 (.cells #[.int .i64 0, .slice none 0 0, .int .i64 0, .int .i64 0, .int .i64 0] 31)); rw [e2] at e1; injection e1 with e1; injection e1 with _ e1 _; exact absurd e1 (by decide)))
        refine hK.out _ _ hb6 (fun hHeld => ?_)
        clear hK K
        simp only [Act.put, List.getElem_toArray, List.getElem_cons_zero, List.getElem_cons_succ]
        refine wpAnyH_done (by kernel_rfl) ?_ _
        simp only [noPanic]
        clear hHeld
        clear hs6 hb6
        obtain ⟨bp, HBP⟩ : ∃ bp, Hid (w4.heap.size = bp) := ⟨_, rfl⟩
        have HBL : Hid (w3.heap.size ≤ bp) := hid (by have := HBPL.out; have := HBP.out; omega)
        rw [HBP.out] at HN6
        first | rw [HBP.out] | rw [show w3.drew.heap.size = bp from HBP.out]
        have HBo : Hid (Both w6 w.heap.size bm bq c bp) := hid ⟨⟨_, _, _, _, _, _, _, _, _, _, _, _, _, _, HD3.out.below HB6.out, ⟨(HP3.out.below HB6.out).lw HB.out.size, ⟨Nat.le_trans HB3.out.size HBL.out, HN6.out, HO6.out.lw HB3.out.size, HD3.out.r.kd, HD3.out.r.le⟩⟩, far_mk HFR.out (Nat.le_trans HZ3.out HBL.out) HP3.out.lo⟩⟩
        have HB7 := hid (HB3.out.trans (HB6.out.mono HB3.out.size))
        clear HD3 HP3 HFR HB3 HZ3 HN6 HO6 HB6 HO4 HO5 HC0 HC1 HRU HSR HV4 HV41 HLL hLL HLT3 HSU
        try clear HN4
        go_upto_region 18 with fail
        all_goals
          try have hmx := Nat.lt_or_ge n1 n2
          obtain ⟨_, sA⟩ := zero_of_info (P := Try.prog) (t := 37) (v := .agg #[.int .i64 0, .int .i64 0, .int .i64 0, .slice none 0 0]) (n := 4) (by kernel_rfl)
          have HS := hid sA
          clear sA
          go_loopw [72] (fun vi wr => ∃ (j : Nat), j ≤ n1 + n2 ∧ vi = .int .i64 j ∧ Hid (Both wr w.heap.size bm bq c bp) ∧ Hid (Below w.heap.size w wr)) (fun vi _ => n1 + n2 - (intOf vi).toNat)
          case atStart => exact ⟨0, by omega, rfl, HBo, HB7⟩
          case round =>
            clear HBo HB7
            obtain ⟨j, hj, rfl, HBo, HBW⟩ := hrel
            by_cases hA : j < n1
            · by_cases hC : j < n2
              · have hlt : j < n1 + n2 := by omega
                as_aux_lemma =>
                  obtain ⟨gr21, o21, hao21, d21, k21, x21, vp21, ks21, hrg21, hps21, hkk21, _, hvv21⟩ := HV1.out.at j hA
                  subst hao21
                  have HG21 := hid (both_first HBo.out d21 k21 x21 vp21 ks21 hkk21 (fun W hW => hps21 W (HBW.out.trans hW)))
                  have HRG21 := hid (hrg21 _ HBW.out)
                  clear hrg21 hps21 hkk21 hvv21
                  go_wp2_with (first
                    | (refine unguard (by rfl) ?_; refine wpList_load_mid rfl 37 (.tmp 83) rfl gr21 (o21 + j * 4) rfl [.int .i64 d21, .int .i64 k21, .int .i64 x21, vp21] _ HRG21.out Try.underlying37 rfl HS.out ?_)
                    | (refine wpList_load_mid rfl 37 (.tmp 83) rfl gr21 (o21 + j * 4) rfl [.int .i64 d21, .int .i64 k21, .int .i64 x21, vp21] _ HRG21.out Try.underlying37 rfl HS.out ?_))
                  refine HG21.out.mono ?_
                  rintro e w21 ⟨rfl, q21, b21⟩
                  replace HBo := hid q21
                  replace HBW := hid (HBW.out.trans b21)
                  clear q21 b21 HG21 HRG21
                  obtain ⟨gr22, o22, hao22, d22, k22, x22, vp22, ks22, hrg22, hps22, hkk22, _, hvv22⟩ := HV2.out.at j hC
                  subst hao22
                  have HG22 := hid (both_second HBo.out d22 k22 x22 vp22 ks22 hkk22 (fun W hW => hps22 W (HBW.out.trans hW)))
                  have HRG22 := hid (hrg22 _ HBW.out)
                  clear hrg22 hps22 hkk22 hvv22
                  go_wp2_with (first
                    | (refine unguard (by rfl) ?_; refine wpList_load_mid rfl 37 (.tmp 97) rfl gr22 (o22 + j * 4) rfl [.int .i64 d22, .int .i64 k22, .int .i64 x22, vp22] _ HRG22.out Try.underlying37 rfl HS.out ?_)
                    | (refine wpList_load_mid rfl 37 (.tmp 97) rfl gr22 (o22 + j * 4) rfl [.int .i64 d22, .int .i64 k22, .int .i64 x22, vp22] _ HRG22.out Try.underlying37 rfl HS.out ?_))
                  refine HG22.out.mono ?_
                  rintro e w22 ⟨rfl, q22, b22⟩
                  replace HBo := hid q22
                  replace HBW := hid (HBW.out.trans b22)
                  clear q22 b22 HG22 HRG22
                  go_wp2
                  exact ⟨⟨j + 1, by omega, by simp, HBo, HBW⟩, by simp [intOf]; omega⟩
              · first
                  | (exfalso; omega)
                  | (have hlt : j < n1 + n2 := by omega
                     as_aux_lemma =>
                       obtain ⟨gr23, o23, hao23, d23, k23, x23, vp23, ks23, hrg23, hps23, hkk23, _, hvv23⟩ := HV1.out.at j hA
                       subst hao23
                       have HG23 := hid (both_first HBo.out d23 k23 x23 vp23 ks23 hkk23 (fun W hW => hps23 W (HBW.out.trans hW)))
                       have HRG23 := hid (hrg23 _ HBW.out)
                       clear hrg23 hps23 hkk23 hvv23
                       go_wp2_with (first
                         | (refine unguard (by rfl) ?_; refine wpList_load_mid rfl 37 (.tmp 83) rfl gr23 (o23 + j * 4) rfl [.int .i64 d23, .int .i64 k23, .int .i64 x23, vp23] _ HRG23.out Try.underlying37 rfl HS.out ?_)
                         | (refine wpList_load_mid rfl 37 (.tmp 83) rfl gr23 (o23 + j * 4) rfl [.int .i64 d23, .int .i64 k23, .int .i64 x23, vp23] _ HRG23.out Try.underlying37 rfl HS.out ?_))
                       refine HG23.out.mono ?_
                       rintro e w23 ⟨rfl, q23, b23⟩
                       replace HBo := hid q23
                       replace HBW := hid (HBW.out.trans b23)
                       clear q23 b23 HG23 HRG23
                       go_wp2
                       exact ⟨⟨j + 1, by omega, by simp, HBo, HBW⟩, by simp [intOf]; omega⟩)
            · by_cases hC : j < n2
              · first
                  | (exfalso; omega)
                  | (have hlt : j < n1 + n2 := by omega
                     as_aux_lemma =>
                       obtain ⟨gr24, o24, hao24, d24, k24, x24, vp24, ks24, hrg24, hps24, hkk24, _, hvv24⟩ := HV2.out.at j hC
                       subst hao24
                       have HG24 := hid (both_second HBo.out d24 k24 x24 vp24 ks24 hkk24 (fun W hW => hps24 W (HBW.out.trans hW)))
                       have HRG24 := hid (hrg24 _ HBW.out)
                       clear hrg24 hps24 hkk24 hvv24
                       go_wp2_with (first
                         | (refine unguard (by rfl) ?_; refine wpList_load_mid rfl 37 (.tmp 97) rfl gr24 (o24 + j * 4) rfl [.int .i64 d24, .int .i64 k24, .int .i64 x24, vp24] _ HRG24.out Try.underlying37 rfl HS.out ?_)
                         | (refine wpList_load_mid rfl 37 (.tmp 97) rfl gr24 (o24 + j * 4) rfl [.int .i64 d24, .int .i64 k24, .int .i64 x24, vp24] _ HRG24.out Try.underlying37 rfl HS.out ?_))
                       refine HG24.out.mono ?_
                       rintro e w24 ⟨rfl, q24, b24⟩
                       replace HBo := hid q24
                       replace HBW := hid (HBW.out.trans b24)
                       clear q24 b24 HG24 HRG24
                       go_wp2
                       exact ⟨⟨j + 1, by omega, by simp, HBo, HBW⟩, by simp [intOf]; omega⟩)
              · have HG := hid (both_stands1 HBo.out)
                go_wp2_with fail
                refine HG.out.mono ?_
                rintro e w8 ⟨rfl, b8⟩
                have HB8 := hid (HBW.out.trans (b8.mono HBW.out.size))
                have HBo8 := hid (HBo.out.below b8)
                clear b8 HG HBW HBo
                have HG := hid (both_stands2 HBo8.out)
                go_wp2_with fail
                refine HG.out.mono ?_
                rintro e w9 ⟨rfl, b9⟩
                have HB9 := hid (HB8.out.trans (b9.mono HB8.out.size))
                clear b9
                go_wp2
                go_ret
                exact ⟨rfl, HB9.out⟩
      · refine step_alloc_row rfl 31 rfl #[.int .i64 0, .slice none 0 0, .int .i64 0, .int .i64 0, .int .i64 0] z5 ?_
        refine hK.out _ _ (hHeld.alloc hHeld.size _) (fun hHeld => ?_)
        clear hK K
        simp only [Act.put, List.getElem_toArray, List.getElem_cons_zero, List.getElem_cons_succ, List.setIfInBounds_toArray, List.set_cons_succ, List.set_cons_zero]
        refine wpAnyH_ready (rs := [4]) (by kernel_rfl) (by simp) ?_
        refine AllReadyH.cons rfl (fun K hK => ?_) AllReadyH.nil
        refine step_app_pairs rfl _ _ rfl w3.heap.size (.slice none 0 0) [] rfl (OwnP.nil _ _) (.slice av LL cvv) L rfl (HSR.out.below hHeld) (by rw [List.length_nil, HLL.out]; omega) hHeld.size ?_
        intro v4 w4 ho4 hg4
        rw [List.nil_append] at ho4
        have hs4 : Below w3.heap.size w3 w4 := hHeld.trans ⟨hg4.os, hg4.tape, hg4.output, hg4.size, fun k hk => hg4.block k (Nat.lt_of_lt_of_le hk hHeld.size) (by simp [Value.ownBlock])⟩
        obtain ⟨a4, c4, hv4⟩ := ho4.shape
        have HO4 := hid ho4
        subst hv4
        obtain ⟨v4, HV4⟩ : ∃ v4, Hid (Value.slice a4 L.length c4 = v4) := ⟨_, rfl⟩
        have HV41 : Hid (v4.oneCell' = true) := hid (by rw [← HV4.out]; rfl)
        rw [HV4.out] at HO4 ⊢
        clear ho4
        have HN4 : Hid (w4.heap[w3.heap.size]? = some (.cells #[.int .i64 0, .slice none 0 0, .int .i64 0, .int .i64 0, .int .i64 0] 31 (0, 0))) := hid ((hg4.block w3.heap.size (by simp) (by simp [Value.ownBlock])).trans (hp_new w3 (.cells #[.int .i64 0, .slice none 0 0, .int .i64 0, .int .i64 0, .int .i64 0] 31)))
        refine hK.out _ _ hs4 (fun hHeld => ?_)
        clear hK K
        simp only [Act.put, List.getElem_toArray, List.getElem_cons_zero, List.getElem_cons_succ, List.setIfInBounds_toArray, List.set_cons_succ, List.set_cons_zero]
        refine wpAnyH_take (i := 7) (v := .agg #[.int .i64 most, v4, .int .i64 h, .int .i64 mi, .int .i64 g]) rfl (by kernel_rfl) (by kernel_rfl) (by kernel_rfl) (fun _ _ _ h => h) (yields_build (by rfl) 31 #[(0, .tmp 60), (1, .tmp 63), (2, .tmp 65)] rfl [(0, .int .i64 most), (1, v4), (2, .agg #[.int .i64 h, .int .i64 mi, .int .i64 g])] (by simp [Act.eval]) _ (by rw [← HV4.out]; kernel_rfl)) hHeld ?_
        simp only [Act.put, List.getElem_toArray, List.getElem_cons_zero, List.getElem_cons_succ, List.setIfInBounds_toArray, List.set_cons_succ, List.set_cons_zero]
        have HBPL : Hid (w3.heap.size ≤ w3.heap.size) := hid (Nat.le_refl _)
        have HO5 := HO4
        refine wpAnyH_ready (rs := [9]) (by kernel_rfl) (by simp) ?_
        refine AllReadyH.cons rfl (fun K hK => ?_) AllReadyH.nil
        refine step_store_row rfl 31 (.tmp 14) (.tmp 66) rfl w3.heap.size [.int .i64 most, v4, .int .i64 h, .int .i64 mi, .int .i64 g] rfl rfl 31 #[.int .i64 0, .slice none 0 0, .int .i64 0, .int .i64 0, .int .i64 0] (by exact HN4.out) HS5.out rfl (five_one rfl HV41.out rfl rfl rfl) ?_
        intro w6 hs6
        have hb6 : Below w3.heap.size w3 w6 := hHeld.trans ⟨hs6.grown.os, hs6.grown.tape, hs6.grown.output, hs6.grown.size, fun k hk => hs6.grown.block k (Nat.lt_of_lt_of_le hk hHeld.size) (by have := HBPL.out; simp; omega)⟩
        have HB6 := hid hb6
        have HN6 := hid hs6.blk
        have HO6 : Hid (OwnP w6 w3.heap.size v4 L) := hid (HO5.out.fr (F := [w3.heap.size]) ⟨hs6.grown.os, hs6.grown.tape, hs6.grown.output, hs6.grown.size, fun k hk hF => hs6.grown.block k hk (by simpa using hF)⟩ (fun k hk e => by simp at e; subst e; obtain ⟨cur, e1, _⟩ := HO5.out.typ hk; have e2 := (by exact HN4.out); rw [e2] at e1; injection e1 with e1; injection e1 with _ e1 _; exact absurd e1 (by decide)))
        refine hK.out _ _ hb6 (fun hHeld => ?_)
        clear hK K
        simp only [Act.put, List.getElem_toArray, List.getElem_cons_zero, List.getElem_cons_succ]
        refine wpAnyH_done (by kernel_rfl) ?_ _
        simp only [noPanic]
        clear hHeld
        clear hs6 hb6
        obtain ⟨bp, HBP⟩ : ∃ bp, Hid (w3.heap.size = bp) := ⟨_, rfl⟩
        have HBL : Hid (w3.heap.size ≤ bp) := hid (by have := HBPL.out; have := HBP.out; omega)
        rw [HBP.out] at HN6
        first | rw [HBP.out] | rw [show w3.drew.heap.size = bp from HBP.out]
        have HBo : Hid (Both w6 w.heap.size bm bq c bp) := hid ⟨⟨_, _, _, _, _, _, _, _, _, _, _, _, _, _, HD3.out.below HB6.out, ⟨(HP3.out.below HB6.out).lw HB.out.size, ⟨Nat.le_trans HB3.out.size HBL.out, HN6.out, HO6.out.lw HB3.out.size, HD3.out.r.kd, HD3.out.r.le⟩⟩, far_mk HFR.out (Nat.le_trans HZ3.out HBL.out) HP3.out.lo⟩⟩
        have HB7 := hid (HB3.out.trans (HB6.out.mono HB3.out.size))
        clear HD3 HP3 HFR HB3 HZ3 HN6 HO6 HB6 HO4 HO5 HC0 HC1 HRU HSR HV4 HV41 HLL hLL HLT3 HSU
        try clear HN4
        go_upto_region 18 with fail
        all_goals
          try have hmx := Nat.lt_or_ge n1 n2
          obtain ⟨_, sA⟩ := zero_of_info (P := Try.prog) (t := 37) (v := .agg #[.int .i64 0, .int .i64 0, .int .i64 0, .slice none 0 0]) (n := 4) (by kernel_rfl)
          have HS := hid sA
          clear sA
          go_loopw [72] (fun vi wr => ∃ (j : Nat), j ≤ n1 + n2 ∧ vi = .int .i64 j ∧ Hid (Both wr w.heap.size bm bq c bp) ∧ Hid (Below w.heap.size w wr)) (fun vi _ => n1 + n2 - (intOf vi).toNat)
          case atStart => exact ⟨0, by omega, rfl, HBo, HB7⟩
          case round =>
            clear HBo HB7
            obtain ⟨j, hj, rfl, HBo, HBW⟩ := hrel
            by_cases hA : j < n1
            · by_cases hC : j < n2
              · have hlt : j < n1 + n2 := by omega
                as_aux_lemma =>
                  obtain ⟨gr21, o21, hao21, d21, k21, x21, vp21, ks21, hrg21, hps21, hkk21, _, hvv21⟩ := HV1.out.at j hA
                  subst hao21
                  have HG21 := hid (both_first HBo.out d21 k21 x21 vp21 ks21 hkk21 (fun W hW => hps21 W (HBW.out.trans hW)))
                  have HRG21 := hid (hrg21 _ HBW.out)
                  clear hrg21 hps21 hkk21 hvv21
                  go_wp2_with (first
                    | (refine unguard (by rfl) ?_; refine wpList_load_mid rfl 37 (.tmp 83) rfl gr21 (o21 + j * 4) rfl [.int .i64 d21, .int .i64 k21, .int .i64 x21, vp21] _ HRG21.out Try.underlying37 rfl HS.out ?_)
                    | (refine wpList_load_mid rfl 37 (.tmp 83) rfl gr21 (o21 + j * 4) rfl [.int .i64 d21, .int .i64 k21, .int .i64 x21, vp21] _ HRG21.out Try.underlying37 rfl HS.out ?_))
                  refine HG21.out.mono ?_
                  rintro e w21 ⟨rfl, q21, b21⟩
                  replace HBo := hid q21
                  replace HBW := hid (HBW.out.trans b21)
                  clear q21 b21 HG21 HRG21
                  obtain ⟨gr22, o22, hao22, d22, k22, x22, vp22, ks22, hrg22, hps22, hkk22, _, hvv22⟩ := HV2.out.at j hC
                  subst hao22
                  have HG22 := hid (both_second HBo.out d22 k22 x22 vp22 ks22 hkk22 (fun W hW => hps22 W (HBW.out.trans hW)))
                  have HRG22 := hid (hrg22 _ HBW.out)
                  clear hrg22 hps22 hkk22 hvv22
                  go_wp2_with (first
                    | (refine unguard (by rfl) ?_; refine wpList_load_mid rfl 37 (.tmp 97) rfl gr22 (o22 + j * 4) rfl [.int .i64 d22, .int .i64 k22, .int .i64 x22, vp22] _ HRG22.out Try.underlying37 rfl HS.out ?_)
                    | (refine wpList_load_mid rfl 37 (.tmp 97) rfl gr22 (o22 + j * 4) rfl [.int .i64 d22, .int .i64 k22, .int .i64 x22, vp22] _ HRG22.out Try.underlying37 rfl HS.out ?_))
                  refine HG22.out.mono ?_
                  rintro e w22 ⟨rfl, q22, b22⟩
                  replace HBo := hid q22
                  replace HBW := hid (HBW.out.trans b22)
                  clear q22 b22 HG22 HRG22
                  go_wp2
                  exact ⟨⟨j + 1, by omega, by simp, HBo, HBW⟩, by simp [intOf]; omega⟩
              · first
                  | (exfalso; omega)
                  | (have hlt : j < n1 + n2 := by omega
                     as_aux_lemma =>
                       obtain ⟨gr23, o23, hao23, d23, k23, x23, vp23, ks23, hrg23, hps23, hkk23, _, hvv23⟩ := HV1.out.at j hA
                       subst hao23
                       have HG23 := hid (both_first HBo.out d23 k23 x23 vp23 ks23 hkk23 (fun W hW => hps23 W (HBW.out.trans hW)))
                       have HRG23 := hid (hrg23 _ HBW.out)
                       clear hrg23 hps23 hkk23 hvv23
                       go_wp2_with (first
                         | (refine unguard (by rfl) ?_; refine wpList_load_mid rfl 37 (.tmp 83) rfl gr23 (o23 + j * 4) rfl [.int .i64 d23, .int .i64 k23, .int .i64 x23, vp23] _ HRG23.out Try.underlying37 rfl HS.out ?_)
                         | (refine wpList_load_mid rfl 37 (.tmp 83) rfl gr23 (o23 + j * 4) rfl [.int .i64 d23, .int .i64 k23, .int .i64 x23, vp23] _ HRG23.out Try.underlying37 rfl HS.out ?_))
                       refine HG23.out.mono ?_
                       rintro e w23 ⟨rfl, q23, b23⟩
                       replace HBo := hid q23
                       replace HBW := hid (HBW.out.trans b23)
                       clear q23 b23 HG23 HRG23
                       go_wp2
                       exact ⟨⟨j + 1, by omega, by simp, HBo, HBW⟩, by simp [intOf]; omega⟩)
            · by_cases hC : j < n2
              · first
                  | (exfalso; omega)
                  | (have hlt : j < n1 + n2 := by omega
                     as_aux_lemma =>
                       obtain ⟨gr24, o24, hao24, d24, k24, x24, vp24, ks24, hrg24, hps24, hkk24, _, hvv24⟩ := HV2.out.at j hC
                       subst hao24
                       have HG24 := hid (both_second HBo.out d24 k24 x24 vp24 ks24 hkk24 (fun W hW => hps24 W (HBW.out.trans hW)))
                       have HRG24 := hid (hrg24 _ HBW.out)
                       clear hrg24 hps24 hkk24 hvv24
                       go_wp2_with (first
                         | (refine unguard (by rfl) ?_; refine wpList_load_mid rfl 37 (.tmp 97) rfl gr24 (o24 + j * 4) rfl [.int .i64 d24, .int .i64 k24, .int .i64 x24, vp24] _ HRG24.out Try.underlying37 rfl HS.out ?_)
                         | (refine wpList_load_mid rfl 37 (.tmp 97) rfl gr24 (o24 + j * 4) rfl [.int .i64 d24, .int .i64 k24, .int .i64 x24, vp24] _ HRG24.out Try.underlying37 rfl HS.out ?_))
                       refine HG24.out.mono ?_
                       rintro e w24 ⟨rfl, q24, b24⟩
                       replace HBo := hid q24
                       replace HBW := hid (HBW.out.trans b24)
                       clear q24 b24 HG24 HRG24
                       go_wp2
                       exact ⟨⟨j + 1, by omega, by simp, HBo, HBW⟩, by simp [intOf]; omega⟩)
              · have HG := hid (both_stands1 HBo.out)
                go_wp2_with fail
                refine HG.out.mono ?_
                rintro e w8 ⟨rfl, b8⟩
                have HB8 := hid (HBW.out.trans (b8.mono HBW.out.size))
                have HBo8 := hid (HBo.out.below b8)
                clear b8 HG HBW HBo
                have HG := hid (both_stands2 HBo8.out)
                go_wp2_with fail
                refine HG.out.mono ?_
                rintro e w9 ⟨rfl, b9⟩
                have HB9 := hid (HB8.out.trans (b9.mono HB8.out.size))
                clear b9
                go_wp2
                go_ret
                exact ⟨rfl, HB9.out⟩


end Go.Proofs.Ytnbbebapfiocpaa

/- LruWalks (written by lwalks.py). -/
namespace Go.Proofs.Ytnbbebapfiocpaa
open Go.RowKit Go.Shelf

attribute [local go_sem] Oper.semAt_some

set_option maxRecDepth 100000 in
set_option maxHeartbeats 8000000 in
theorem lawWalks_any (w : World) (p x1 : Int) (va vb vc vk : Value) (n n1 : Nat) (ha : Acts w va n) (hb : Acts w vb n1) :
    Calls Try.prog 8 #[.agg #[.int .i64 p, .int .i64 x1, va, vb, vc, vk]] w fun e w' => e = .returned (.bool true) ∧ Below w.heap.size w w' := by
  have hn := ha.len
  have hn1 := hb.len
  obtain ⟨ao, cv, rfl⟩ := ha.shape
  obtain ⟨ao1, cv1, rfl⟩ := hb.shape
  have HV := hid ha
  have HV1 := hid hb
  clear ha hb
  obtain ⟨z5, s5⟩ := zero_of_info Try.infoMemo
  have HS5 := hid s5
  have hnw := (hp_old (w.alloc (.cells #[.int .i64 p, .int .i64 x1, .slice ao n cv, .slice ao1 n1 cv1, vc, vk] 44)) (.cells #[.bool false] 4) w.heap.size (by simp)).trans (hp_new w (.cells #[.int .i64 p, .int .i64 x1, .slice ao n cv, .slice ao1 n1 cv1, vc, vk] 44))
  have d0 : ((w.alloc (.cells #[.int .i64 p, .int .i64 x1, .slice ao n cv, .slice ao1 n1 cv1, vc, vk] 44)).alloc (.cells #[.bool false] 4)).cell? ⟨w.heap.size, 0, none⟩ = some (.int .i64 p) := (cell_of_row _ _ 0 _ _ _ hnw).trans rfl
  have d1 : ((w.alloc (.cells #[.int .i64 p, .int .i64 x1, .slice ao n cv, .slice ao1 n1 cv1, vc, vk] 44)).alloc (.cells #[.bool false] 4)).cell? ⟨w.heap.size, 1, none⟩ = some (.int .i64 x1) := (cell_of_row _ _ 1 _ _ _ hnw).trans rfl
  have d2 : ((w.alloc (.cells #[.int .i64 p, .int .i64 x1, .slice ao n cv, .slice ao1 n1 cv1, vc, vk] 44)).alloc (.cells #[.bool false] 4)).cell? ⟨w.heap.size, 2, none⟩ = some (.slice ao n cv) := (cell_of_row _ _ 2 _ _ _ hnw).trans rfl
  have d3 : ((w.alloc (.cells #[.int .i64 p, .int .i64 x1, .slice ao n cv, .slice ao1 n1 cv1, vc, vk] 44)).alloc (.cells #[.bool false] 4)).cell? ⟨w.heap.size, 3, none⟩ = some (.slice ao1 n1 cv1) := (cell_of_row _ _ 3 _ _ _ hnw).trans rfl
  have hr1 := hp_new (w.alloc (.cells #[.int .i64 p, .int .i64 x1, .slice ao n cv, .slice ao1 n1 cv1, vc, vk] 44)) (.cells #[.bool false] 4)
  rw [World.size_alloc] at hr1
  have HR1 := hid hr1
  have HB1 := hid ((below_walk w (.cells #[.int .i64 p, .int .i64 x1, .slice ao n cv, .slice ao1 n1 cv1, vc, vk] 44)).alloc (by simp) (.cells #[.bool false] 4))
  clear s5 hnw hr1
  refine (callsIn_wide (n := 9)).1 ?_
  refine callsIn_of_wp_marks Try.func8 rfl trivial ?_ rfl
  simp only [Try.ntmps8, List.size_toArray, List.length_cons, List.length_nil, Nat.reduceAdd, Nat.reduceSub, Array.replicate_succ, Array.replicate_zero, List.push_toArray, List.append_toArray, List.nil_append, List.cons_append]
  refine wpIn_wide.2 ?_
  go_upto_region 1 with (refine bx_row rfl 44 (.tmp 0) rfl #[.int .i64 p, .int .i64 x1, .slice ao n cv, .slice ao1 n1 cv1, vc, vk] rfl ?_)
  generalize ((w.alloc (.cells #[.int .i64 p, .int .i64 x1, .slice ao n cv, .slice ao1 n1 cv1, vc, vk] 44)).alloc (.cells #[.bool false] 4)) = w1 at d0 d1 d2 d3 HB1 HR1 ⊢
  obtain ⟨r, HR⟩ : ∃ r, Hid (w.heap.size + 1 = r) := ⟨_, hid rfl⟩
  rw [HR.out] at HR1
  try rw [World.size_alloc]
  try rw [HR.out]
  obtain ⟨bt, HBT⟩ : ∃ bt, Hid (w.heap.size = bt) := ⟨_, hid rfl⟩
  rw [HBT.out] at d0 d1 d2 d3 ⊢
  have hbt : bt < w1.heap.size := by have := HR1.out; have := hp_lt this; have := HR.out; have := HBT.out; omega
  refine wp_noPanic (wp_region_held_drew (S := fun W => Below w1.heap.size w1 W) (by kernel_rfl) (show Below w1.heap.size w1 w1.drew from (Below.refl _ _).drew) ?_)
  intro hHeld
  refine wpAnyH_take (i := 0) (v := .pointer (some ⟨bt, 0, none⟩)) rfl (by kernel_rfl) (by kernel_rfl) (by kernel_rfl) (fun _ _ _ h => h) (Or.inl ⟨by rfl, fun W _ => by go_simp⟩) hHeld ?_
  simp only [Act.put, List.getElem_toArray, List.getElem_cons_zero, List.setIfInBounds_toArray, List.set_cons_succ, List.set_cons_zero]
  refine wpAnyH_take (i := 1) (v := .int .i64 p) rfl (by kernel_rfl) (by kernel_rfl) (by kernel_rfl) (fun _ _ _ h => h) (Or.inl ⟨by rfl, fun W hW => by have hcell := (hW.cell (p := ⟨bt, 0, none⟩) hbt).trans d0; clear hW; go_simp⟩) hHeld ?_
  simp only [Act.put, List.getElem_toArray, List.getElem_cons_zero, List.getElem_cons_succ, List.setIfInBounds_toArray, List.set_cons_succ, List.set_cons_zero]
  refine wpAnyH_take (i := 2) (v := .pointer (some ⟨bt, 2, none⟩)) rfl (by kernel_rfl) (by kernel_rfl) (by kernel_rfl) (fun _ _ _ h => h) (Or.inl ⟨by rfl, fun W _ => by go_simp⟩) hHeld ?_
  simp only [Act.put, List.getElem_toArray, List.getElem_cons_zero, List.getElem_cons_succ, List.setIfInBounds_toArray, List.set_cons_succ, List.set_cons_zero]
  refine wpAnyH_take (i := 3) (v := .slice ao n cv) rfl (by kernel_rfl) (by kernel_rfl) (by kernel_rfl) (fun _ _ _ h => h) (Or.inl ⟨by rfl, fun W hW => by have hcell := (hW.cell (p := ⟨bt, 2, none⟩) hbt).trans d2; clear hW; go_simp⟩) hHeld ?_
  simp only [Act.put, List.getElem_toArray, List.getElem_cons_zero, List.getElem_cons_succ, List.setIfInBounds_toArray, List.set_cons_succ, List.set_cons_zero]
  refine wpAnyH_take (i := 4) (v := .pointer (some ⟨bt, 3, none⟩)) rfl (by kernel_rfl) (by kernel_rfl) (by kernel_rfl) (fun _ _ _ h => h) (Or.inl ⟨by rfl, fun W _ => by go_simp⟩) hHeld ?_
  simp only [Act.put, List.getElem_toArray, List.getElem_cons_zero, List.getElem_cons_succ, List.setIfInBounds_toArray, List.set_cons_succ, List.set_cons_zero]
  refine wpAnyH_take (i := 5) (v := .slice ao1 n1 cv1) rfl (by kernel_rfl) (by kernel_rfl) (by kernel_rfl) (fun _ _ _ h => h) (Or.inl ⟨by rfl, fun W hW => by have hcell := (hW.cell (p := ⟨bt, 3, none⟩) hbt).trans d3; clear hW; go_simp⟩) hHeld ?_
  simp only [Act.put, List.getElem_toArray, List.getElem_cons_zero, List.getElem_cons_succ, List.setIfInBounds_toArray, List.set_cons_succ, List.set_cons_zero]
  refine wpAnyH_take (i := 6) (v := .pointer (some ⟨bt, 1, none⟩)) rfl (by kernel_rfl) (by kernel_rfl) (by kernel_rfl) (fun _ _ _ h => h) (Or.inl ⟨by rfl, fun W _ => by go_simp⟩) hHeld ?_
  simp only [Act.put, List.getElem_toArray, List.getElem_cons_zero, List.getElem_cons_succ, List.setIfInBounds_toArray, List.set_cons_succ, List.set_cons_zero]
  refine wpAnyH_take (i := 7) (v := .int .i64 x1) rfl (by kernel_rfl) (by kernel_rfl) (by kernel_rfl) (fun _ _ _ h => h) (Or.inl ⟨by rfl, fun W hW => by have hcell := (hW.cell (p := ⟨bt, 1, none⟩) hbt).trans d1; clear hW; go_simp⟩) hHeld ?_
  simp only [Act.put, List.getElem_toArray, List.getElem_cons_zero, List.getElem_cons_succ, List.setIfInBounds_toArray, List.set_cons_succ, List.set_cons_zero]
  generalize w1.drew = X at hHeld ⊢
  have HXX := hid hHeld.size
  refine wpAnyH_ready (rs := [8]) (by kernel_rfl) (by simp) ?_
  refine AllReadyH.cons rfl (fun K hK => ?_) AllReadyH.nil
  go_simp
  refine hK.out _ _ (hHeld.alloc hHeld.size _) (fun hHeld2 => ?_)
  clear hK K hHeld
  have hHeld := hHeld2
  clear hHeld2
  try simp only [Act.put, List.getElem_toArray, List.getElem_cons_zero, List.getElem_cons_succ]
  refine wpAnyH_take (i := 9) (v := .int .i64 p) rfl (by kernel_rfl) (by kernel_rfl) (by kernel_rfl) (fun _ _ _ h => h) (Or.inl ⟨by rfl, fun W _ => by go_simp⟩) hHeld ?_
  simp only [Act.put, List.getElem_toArray, List.getElem_cons_zero, List.getElem_cons_succ, List.setIfInBounds_toArray, List.set_cons_succ, List.set_cons_zero]
  refine wpAnyH_take (i := 10) (v := .slice ao n cv) rfl (by kernel_rfl) (by kernel_rfl) (by kernel_rfl) (fun _ _ _ h => h) (Or.inl ⟨by rfl, fun W _ => by go_simp⟩) hHeld ?_
  simp only [Act.put, List.getElem_toArray, List.getElem_cons_zero, List.getElem_cons_succ, List.setIfInBounds_toArray, List.set_cons_succ, List.set_cons_zero]
  refine wpAnyH_take (i := 11) (v := .slice ao1 n1 cv1) rfl (by kernel_rfl) (by kernel_rfl) (by kernel_rfl) (fun _ _ _ h => h) (Or.inl ⟨by rfl, fun W _ => by go_simp⟩) hHeld ?_
  simp only [Act.put, List.getElem_toArray, List.getElem_cons_zero, List.getElem_cons_succ, List.setIfInBounds_toArray, List.set_cons_succ, List.set_cons_zero]
  have hn6 := hp_new X (.cells #[.int .i64 0] 3)
  have hz6 := World.size_alloc X (.cells #[.int .i64 0] 3)
  have hgx := hHeld.size
  obtain ⟨b6, HB6⟩ : ∃ b6, Hid (X.heap.size = b6) := ⟨_, hid rfl⟩
  have hb6l : w1.heap.size ≤ b6 := by rw [← HB6.out]; exact HXX.out
  rw [HB6.out] at hn6 hz6 ⊢
  generalize X.alloc (.cells #[.int .i64 0] 3) = Y at hn6 hz6 hgx hHeld ⊢
  have y0 : Y.cell? ⟨b6, 0, none⟩ = some (.int .i64 0) := (cell_of_row _ _ _ _ _ _ hn6).trans rfl
  have y1 : Y.frozen? ⟨b6, 0, none⟩ = false := by simp [World.frozen?, hn6]
  refine wpAnyH_ready (rs := [12]) (by kernel_rfl) (by simp) ?_
  refine AllReadyH.cons rfl (fun K hK => ?_) AllReadyH.nil
  go_simp
  refine hK.out _ _ (hHeld.setCell (p := ⟨b6, 0, none⟩) hb6l _) (fun hHeld2 => ?_)
  clear hK K hHeld
  try simp only [Act.put]
  refine wpAnyH_done (by kernel_rfl) ?_ _
  simp only [noPanic]
  have HC6 := hid (blk_set hn6 (i := 0) (.int .i64 x1))
  have HB2 := hid (HB1.out.trans (hHeld2.mono HB1.out.size))
  have HR2 := hid ((hHeld2.block r (hp_lt HR1.out)).trans HR1.out)
  clear hHeld2 hn6 hz6 hgx y0 y1 d0 d1 d2 d3 HB1 HR1
  generalize Y.setCell ⟨b6, 0, none⟩ (.int .i64 x1) = w2 at HC6 HB2 HR2 ⊢
  have HC6 : Hid (w2.heap[b6]? = some (.cells #[.int .i64 x1] 3 (0, 0))) := HC6
  have HWR : Hid (Wr w2 r b6 x1) := hid ⟨HR2.out, HC6.out⟩
  clear HR2 HC6
  by_cases hp : p < 1 ∨ 4096 < p
  · have HP := hid hp
    clear hp
    go_wp2_with fail
    refine (inew_bad w2 p HP.out).mono ?_
    rintro e w3 ⟨rfl, hw3⟩
    have hw3 := hw3.symm
    subst hw3
    go_wp2_with fail
    refine (rnew_bad _ p HP.out).mono ?_
    rintro e w4 ⟨rfl, hb4⟩
    have HB4 := hid (HB2.out.trans (hb4.mono HB2.out.size))
    have HW4 := hid (HWR.out.below hb4)
    clear hb4
    go_upto_region 4 with (first
        | (refine al_row rfl 31 rfl _ z5 ?_; refine st_new rfl 31 (.tmp 9) (.tmp 40) rfl [.int .i64 0, .slice none 0 0, .int .i64 0, .int .i64 0, .int .i64 0] rfl rfl _ _ HS5.out rfl (by simp [Value.oneCell']) ?_))
    try simp only [Act.put, List.setIfInBounds_toArray, List.set_cons_succ, List.set_cons_zero]
    have HB5 := hid (HB4.out.alloc HB4.out.size (.cells [.int .i64 0, .slice none 0 0, .int .i64 0, .int .i64 0, .int .i64 0].toArray 31))
    have HW5 := hid (HW4.out.below (below_walk w4 (.cells [.int .i64 0, .slice none 0 0, .int .i64 0, .int .i64 0, .int .i64 0].toArray 31)))
    generalize w4.alloc (.cells [.int .i64 0, .slice none 0 0, .int .i64 0, .int .i64 0, .int .i64 0].toArray 31) = w5 at HB5 HW5 ⊢
    clear HB4 HW4
    go_wp2_with fail
    refine (alive_any _).mono ?_
    rintro e w6 ⟨rfl, hb6⟩
    have HB6' := hid (HB5.out.trans (hb6.mono HB5.out.size))
    have HW6 := hid (HW5.out.below hb6)
    clear hb6
    have hrr := HW6.out.c2
    have hcr : w6.cell? ⟨r, 0, none⟩ = some (.bool false) := (cell_of_row _ _ _ _ _ _ hrr).trans rfl
    have hfr : w6.frozen? ⟨r, 0, none⟩ = false := by simp [World.frozen?, hrr]
    have HE6 := hid (blk_set hrr (i := 0) (.bool true))
    have HBE : Hid (Below w.heap.size w (w6.setCell ⟨r, 0, none⟩ (.bool true))) := hid (HB6'.out.setCell (p := ⟨r, 0, none⟩) (by show w.heap.size ≤ r; rw [← HR.out]; omega) _)
    clear hrr
    go_wp2
    refine leaves_marks (B := w.heap.size) (.bool true) [] (w6.setCell ⟨r, 0, none⟩ (.bool true)).heap.size _ trivial HBE.out.size (fun w' hb' hk => ?_)
    have hbb := (hk r (fun D _ hD e => by subst e; rw [HE6.out] at hD; cases hD)).trans HE6.out
    have hc : w'.cell? ⟨r, 0, none⟩ = some (.bool true) := (cell_of_row _ _ _ _ _ _ hbb).trans rfl
    refine ⟨?_, rfl, HBE.out.trans (hb'.mono (by omega))⟩
    simp [results, Try.f8, go_sem, hc]
  obtain ⟨most, rfl⟩ : ∃ M : Nat, p = (M : Int) := ⟨p.toNat, by omega⟩
  have m1 : 1 ≤ most := by omega
  have m2 : most ≤ 4096 := by omega
  clear hp
  go_wp2_with fail
  refine (inew_mo w2 most m1 m2).mono ?_
  rintro e w3 ⟨bm, F1, rfl, q1, b1⟩
  have HQ1 := hid q1
  have HB3 := hid (HB2.out.trans (b1.mono HB2.out.size))
  have HLE := hid HB2.out.size
  have HW3 := hid (HWR.out.below b1)
  clear q1 b1 HB2
  go_wp2_with fail
  refine (rnew_ok _ most m1 m2).mono ?_
  rintro e w4 ⟨rfl, b2⟩
  have HQ2 := hid (HQ1.out.below b2)
  have HB4 := hid (HB3.out.trans (b2.mono HB3.out.size))
  have HW4 := hid (HW3.out.below b2)
  clear b2 HQ1 HB3
  go_upto_region 4 with (first
      | (refine al_row rfl 31 rfl _ z5 ?_; refine st_new rfl 31 (.tmp 9) (.tmp 40) rfl [.int .i64 most, .slice none 0 0, .int .i64 0, .int .i64 0, .int .i64 0] rfl rfl _ _ HS5.out rfl (by simp [Value.oneCell']) ?_))
  try simp only [Act.put, List.setIfInBounds_toArray, List.set_cons_succ, List.set_cons_zero]
  have HB5 := hid (HB4.out.alloc HB4.out.size (.cells [.int .i64 most, .slice none 0 0, .int .i64 0, .int .i64 0, .int .i64 0].toArray 31))
  have HQ3 := hid (HQ2.out.below (below_walk w4 (.cells [.int .i64 most, .slice none 0 0, .int .i64 0, .int .i64 0, .int .i64 0].toArray 31)))
  have HN3 := hid (hp_new w4 (.cells [.int .i64 most, .slice none 0 0, .int .i64 0, .int .i64 0, .int .i64 0].toArray 31))
  have HW5 := hid (HW4.out.below (below_walk w4 (.cells [.int .i64 most, .slice none 0 0, .int .i64 0, .int .i64 0, .int .i64 0].toArray 31)))
  generalize w4.alloc (.cells [.int .i64 most, .slice none 0 0, .int .i64 0, .int .i64 0, .int .i64 0].toArray 31) = w5 at HB5 HQ3 HN3 HW5 ⊢
  have HD3 : Hid (Du w5 w.heap.size bm w4.heap.size most [] 0 0 0 F1 (.slice none 0 0)) := hid ⟨HQ3.out.lw HLE.out, ⟨HB4.out.size, HN3.out, OwnP.nil _ _, by simp, by simp⟩⟩
  generalize w4.heap.size = bq at HD3 HN3 ⊢
  clear HB4 HQ2 HQ3 HN3 HLE
  go_wp2
  go_loopw [63] (fun vi wr => ∃ (j most : Nat) (L : List (Int × Int)) (h mi g : Int) (F : List Nat) (v : Value), j ≤ n ∧ vi = .int .i64 j ∧ Hid (Du wr w.heap.size bm bq most L h mi g F v) ∧ Hid (Below w.heap.size w wr) ∧ Hid (Wr wr r b6 x1)) (fun vi _ => n - (intOf vi).toNat)
  case atStart => exact ⟨0, most, [], 0, 0, 0, F1, _, by omega, rfl, HD3, HB5, HW5⟩
  case round =>
    clear HD3 HB5 HW5
    obtain ⟨j, most, L, h, mi, g, F, v, hj, rfl, HD, HB, HWR⟩ := hrel
    by_cases hlt : j < n
    · as_aux_lemma =>
      obtain ⟨gr, o, rfl, d, k, x, vp, kz, hrg, hps, hk1, hk2, hv1⟩ := HV.out.at j hlt
      have HRG := hid (hrg _ HB.out)
      have HK1 := hid hk1
      have HPS := hid hps
      obtain ⟨z, s⟩ := zero_of_info (P := Try.prog) (t := 37) (v := .agg #[.int .i64 0, .int .i64 0, .int .i64 0, .slice none 0 0]) (n := 4) (by kernel_rfl)
      have HS := hid s
      have HVV := hid hv1
      clear hrg hps s hv1 hk1 hk2
      go_upto_region 11 with (first
        | (refine wpList_load_mid rfl 37 (.tmp 65) rfl gr (o + j * 4) rfl [.int .i64 d, .int .i64 k, .int .i64 x, vp] _ HRG.out Try.underlying37 rfl HS.out ?_)
        | (refine al_row rfl 37 rfl _ z ?_; refine st_new rfl 37 (.tmp 12) (.tmp 66) rfl [.int .i64 d, .int .i64 k, .int .i64 x, vp] rfl rfl _ _ HS.out rfl HVV.out ?_))
      try simp only [Act.put, List.setIfInBounds_toArray, List.set_cons_succ, List.set_cons_zero]
      have HB2 := hid (HB.out.alloc HB.out.size (.cells [.int .i64 d, .int .i64 k, .int .i64 x, vp].toArray 37))
      have HD2 := hid (HD.out.below (below_walk wr (.cells [.int .i64 d, .int .i64 k, .int .i64 x, vp].toArray 37)))
      have HN2 := hid (hp_new wr (.cells [.int .i64 d, .int .i64 k, .int .i64 x, vp].toArray 37))
      have HW2 := hid (HWR.out.below (below_walk wr (.cells [.int .i64 d, .int .i64 k, .int .i64 x, vp].toArray 37)))
      generalize wr.alloc (.cells [.int .i64 d, .int .i64 k, .int .i64 x, vp].toArray 37) = w2 at HB2 HD2 HN2 HW2 ⊢
      generalize wr.heap.size = b2 at HN2 ⊢
      clear z HRG HD HB
      have HG := hid (does_any HD2.out d k x vp kz HK1.out (fun W hW => HPS.out W (HB2.out.trans hW)))
      go_wp2_with (first
        | (refine ld_row rfl 37 (.tmp 12) rfl b2 rfl [.int .i64 d, .int .i64 k, .int .i64 x, vp] 37 HN2.out _ Try.underlying37 rfl HS.out ?_))
      refine HG.out.mono ?_
      rintro e w4 ⟨rfl, most4, L4, h4, mi4, g4, F4, v4, q4, s4⟩
      have HB4 := hid (HB2.out.trans (HD2.out.low s4))
      have HD4 := hid q4
      have HW4 := hid (HW2.out.step HD2.out s4)
      clear HG q4 s4 HD2 HB2 HW2
      go_wp2
      exact ⟨⟨j + 1, _, _, _, _, _, _, _, hlt, by simp, HD4, HB4, HW4⟩, by simp [intOf]; omega⟩
    · as_aux_lemma =>
      clear HV
      go_wp2_with fail
      refine (iall_blk HD.out.p).mono ?_
      rintro e w8 ⟨sv, bb, rfl, hbb, hcb, hoq, hb8⟩
      have hcf := eq_nf bb
      have HO8 := hid hoq
      have HCB := hid hcb
      have HD8 := hid (HD.out.below hb8)
      have HB8 := hid (HB.out.trans (hb8.mono HB.out.size))
      have HW8 := hid (HWR.out.below hb8)
      have HZ8 : Hid (w.heap.size ≤ wr.heap.size) := hid HB.out.size
      clear hoq hcb hbb hb8 HD HB HWR
      go_upto_region 16 with fail
      have hb9 := below_walk w8 (.cells #[.func (.func 46) #[] #[pt bb]] 56)
      have hn9 := hp_new w8 (.cells #[.func (.func 46) #[] #[pt bb]] 56)
      generalize w8.alloc (.cells #[.func (.func 46) #[] #[pt bb]] 56) = w9 at hb9 hn9 ⊢
      have HO9 := hid (HO8.out.below hb9)
      have HC9 := hid ((hb9.block _ (hp_lt HCB.out)).trans HCB.out)
      have HD9 := hid (HD8.out.below hb9)
      have HB9 := hid (HB8.out.trans (hb9.mono HB8.out.size))
      have HW9 := hid (HW8.out.below hb9)
      have HN9 := hid hn9
      generalize w8.heap.size = b13 at HN9 ⊢
      clear hb9 hn9 HO8 HCB HD8 HB8 HW8 hcf
      have c1 := HD9.out.r.c1
      have HSR := hid HD9.out.r.own.src
      have hLL := HD9.out.r.le
      obtain ⟨av, cvv, hvv⟩ := HD9.out.r.own.shape
      rw [hvv] at c1 HSR
      go_upto_region 17 with (first
        | (refine app_pairsL rfl _ _ rfl w9.heap.size (.slice none 0 0) [] rfl (OwnP.nil _ _) _ L rfl HSR.out (by simp; omega) (Nat.le_refl _) ?_
           intro v10 w10 ho10 hg10
           rw [List.nil_append] at ho10
           have hb10 : Below w9.heap.size w9 w10 := ⟨hg10.os, hg10.tape, hg10.output, hg10.size, fun q hq => hg10.block q hq (by simp [Value.ownBlock])⟩
           obtain ⟨aw, cw, hvw⟩ := ho10.shape
           have HO10 := hid ho10
           subst hvw
           clear ho10 hg10))
      have hb11 := below_walk w10 (.cells #[.slice aw L.length cw] 27)
      have hn11 := hp_new w10 (.cells #[.slice aw L.length cw] 27)
      have hb9b := hb10.trans (hb11.mono hb10.size)
      generalize w10.alloc (.cells #[.slice aw L.length cw] 27) = w11 at hb11 hn11 hb9b ⊢
      have HK11 : Hid (Wk w11 r b6 b13 w10.heap.size bb sv (.slice aw L.length cw) x1 w.heap.size L) := hid
        ⟨(HW9.out.below hb9b).c2, (HW9.out.below hb9b).c6, (hb9b.block _ (hp_lt HN9.out)).trans HN9.out, hn11, (hb9b.block _ (hp_lt HC9.out)).trans HC9.out, (HO9.out.below hb9b).lw HZ8.out, (HO10.out.below hb11).lw HB9.out.size⟩
      have HD11 := hid (HD9.out.below hb9b)
      have HB11 := hid (HB9.out.trans (hb9b.mono HB9.out.size))
      generalize w10.heap.size = b14 at HK11 ⊢
      obtain ⟨L0, HL0⟩ : ∃ L0, Hid (L = L0) := ⟨_, hid rfl⟩
      rw [HL0.out] at HK11
      have HLN : Hid (L.length = L0.length) := hid (by rw [HL0.out])
      rw [HLN.out]
      have hL0 : L0.length ≤ 8192 := by rw [← HLN.out]; exact hLL
      clear hb10 hb11 hn11 hb9b HO10 HW9 HN9 HC9 HO9 HD9 HB9 c1 HSR hLL hvv HL0
      go_wp2
      go_loopw [80] (fun vi wr => ∃ (j most : Nat) (L : List (Int × Int)) (h mi g : Int) (F : List Nat) (v : Value), j ≤ n1 ∧ vi = .int .i64 j ∧ Hid (Du wr w.heap.size bm bq most L h mi g F v) ∧ Hid (Below w.heap.size w wr) ∧ Hid (Wk wr r b6 b13 b14 bb sv (.slice aw L0.length cw) x1 w.heap.size L0)) (fun vi _ => n1 - (intOf vi).toNat)
      case atStart => exact ⟨0, _, _, _, _, _, _, _, by omega, rfl, HD11, HB11, HK11⟩
      case round =>
        clear HD11 HB11 HK11 HLN
        obtain ⟨j, most, L, h, mi, g, F, v, hj, rfl, HD, HB, HWK⟩ := hrel
        by_cases hlt : j < n1
        · as_aux_lemma =>
            obtain ⟨gr, o, rfl, d, k, x, vp, kz, hrg, hps, hk1, hk2, hv1⟩ := HV1.out.at j hlt
            have HRG := hid (hrg _ HB.out)
            have HK1 := hid hk1
            have HPS := hid hps
            obtain ⟨z, s⟩ := zero_of_info (P := Try.prog) (t := 37) (v := .agg #[.int .i64 0, .int .i64 0, .int .i64 0, .slice none 0 0]) (n := 4) (by kernel_rfl)
            have HS := hid s
            have HVV := hid hv1
            clear hrg hps s hv1 hk1 hk2
            go_upto_region 20 with (first
              | (refine wpList_load_mid rfl 37 (.tmp 82) rfl gr (o + j * 4) rfl [.int .i64 d, .int .i64 k, .int .i64 x, vp] _ HRG.out Try.underlying37 rfl HS.out ?_)
              | (refine al_row rfl 37 rfl _ z ?_; refine st_new rfl 37 (.tmp 16) (.tmp 83) rfl [.int .i64 d, .int .i64 k, .int .i64 x, vp] rfl rfl _ _ HS.out rfl HVV.out ?_))
            try simp only [Act.put, List.setIfInBounds_toArray, List.set_cons_succ, List.set_cons_zero]
            have HB2 := hid (HB.out.alloc HB.out.size (.cells [.int .i64 d, .int .i64 k, .int .i64 x, vp].toArray 37))
            have HD2 := hid (HD.out.below (below_walk wr (.cells [.int .i64 d, .int .i64 k, .int .i64 x, vp].toArray 37)))
            have HN2 := hid (hp_new wr (.cells [.int .i64 d, .int .i64 k, .int .i64 x, vp].toArray 37))
            have HW2 := hid (HWK.out.below (below_walk wr (.cells [.int .i64 d, .int .i64 k, .int .i64 x, vp].toArray 37)))
            generalize wr.alloc (.cells [.int .i64 d, .int .i64 k, .int .i64 x, vp].toArray 37) = w2 at HB2 HD2 HN2 HW2 ⊢
            generalize wr.heap.size = b2 at HN2 ⊢
            clear z HRG HD HB
            have HG := hid (does_any HD2.out d k x vp kz HK1.out (fun W hW => HPS.out W (HB2.out.trans hW)))
            go_wp2_with (first
              | (refine ld_row rfl 37 (.tmp 16) rfl b2 rfl [.int .i64 d, .int .i64 k, .int .i64 x, vp] 37 HN2.out _ Try.underlying37 rfl HS.out ?_))
            refine HG.out.mono ?_
            rintro e w4 ⟨rfl, most4, L4, h4, mi4, g4, F4, v4, q4, s4⟩
            have HB4 := hid (HB2.out.trans (HD2.out.low s4))
            have HD4 := hid q4
            have HW4 := hid (HW2.out.step HD2.out s4)
            clear HG q4 s4 HD2 HB2 HW2
            go_wp2
            exact ⟨⟨j + 1, _, _, _, _, _, _, _, hlt, by simp, HD4, HB4, HW4⟩, by simp [intOf]; omega⟩
        · clear HV1
          have hcl : (wr.alloc (.cells #[.int .i64 0] 3)).cell? ⟨b13, 0, none⟩ = some (.func (.func 46) #[] #[pt bb]) := (cell_of_row _ _ 0 _ _ _ (HWK.out.below (below_walk wr (.cells #[.int .i64 0] 3))).c13).trans rfl
          go_wp2_with fail
          clear hcl
          have hb12 := below_walk wr (.cells #[.int .i64 0] 3)
          have hn12 := hp_new wr (.cells #[.int .i64 0] 3)
          generalize wr.alloc (.cells #[.int .i64 0] 3) = w12 at hb12 hn12 ⊢
          have HK := hid (HWK.out.below hb12)
          have HDD := hid (HD.out.below hb12)
          have HBB := hid (HB.out.trans (hb12.mono HB.out.size))
          have H17 := hid hn12
          obtain ⟨b17, HB17⟩ : ∃ b17, Hid (wr.heap.size = b17) := ⟨_, hid rfl⟩
          have HLT : Hid (r < b17 ∧ b6 < b17 ∧ b13 < b17 ∧ b14 < b17 ∧ bb < b17 ∧ w.heap.size ≤ b17) := hid (by
            have k := HWK.out
            have h1 := hp_lt k.c2; have h2 := hp_lt k.c6; have h3 := hp_lt k.c13; have h4 := hp_lt k.c14; have h5 := hp_lt k.cb
            have h6 := HB.out.size
            rw [← HB17.out]
            exact ⟨h1, h2, h3, h4, h5, h6⟩)
          have HAL : Hid (∀ W, Fr w12 W [wr.heap.size] → Du W w.heap.size bm bq most L h mi g F v ∧ Wk W r b6 b13 b14 bb sv (.slice aw L0.length cw) x1 w.heap.size L0 ∧ Below w.heap.size w W) := hid (fun W hW => by
            have hb := hb12.trans (hW.below (base := wr.heap.size) hb12.size (fun k hk => by rw [List.mem_singleton.1 hk]; exact Nat.le_refl _))
            exact ⟨HD.out.below hb, HWK.out.below hb, HB.out.trans (hb.mono HB.out.size)⟩)
          rw [HB17.out] at H17 HAL ⊢
          clear hb12 hn12 HWK HD HB
          refine frame_gen (fun U => #[slotOf U 0, slotOf U 1, .pointer (some ⟨r, 0, none⟩), slotOf U 3, slotOf U 4, slotOf U 5, .pointer (some ⟨b6, 0, none⟩), pt bm, slotOf U 8, .pointer (some ⟨bq, 0, none⟩), slotOf U 10, slotOf U 11, slotOf U 12, .pointer (some ⟨b13, 0, none⟩), .pointer (some ⟨b14, 0, none⟩), slotOf U 15, slotOf U 16, .pointer (some ⟨b17, 0, none⟩), slotOf U 18, slotOf U 19, slotOf U 20, slotOf U 21, slotOf U 22, slotOf U 23, slotOf U 24, slotOf U 25, slotOf U 26, slotOf U 27, slotOf U 28, slotOf U 29, slotOf U 30, slotOf U 31, slotOf U 32, slotOf U 33, slotOf U 34, slotOf U 35, slotOf U 36, slotOf U 37, slotOf U 38, slotOf U 39, slotOf U 40, slotOf U 41, slotOf U 42, slotOf U 43, slotOf U 44, slotOf U 45, slotOf U 46, slotOf U 47, slotOf U 48, slotOf U 49, slotOf U 50, slotOf U 51, slotOf U 52, slotOf U 53, slotOf U 54, slotOf U 55, slotOf U 56, slotOf U 57, slotOf U 58, slotOf U 59, slotOf U 60, slotOf U 61, slotOf U 62, slotOf U 63, slotOf U 64, slotOf U 65, slotOf U 66, slotOf U 67, slotOf U 68, slotOf U 69, slotOf U 70, slotOf U 71, slotOf U 72, slotOf U 73, slotOf U 74, slotOf U 75, slotOf U 76, slotOf U 77, slotOf U 78, slotOf U 79, slotOf U 80, slotOf U 81, slotOf U 82, slotOf U 83, slotOf U 84, slotOf U 85, slotOf U 86, slotOf U 87, .func (.func 46) #[] #[pt bb], slotOf U 89, slotOf U 90, slotOf U 91, slotOf U 92, slotOf U 93, slotOf U 94, slotOf U 95, slotOf U 96, slotOf U 97, slotOf U 98, slotOf U 99, slotOf U 100, slotOf U 101, slotOf U 102, slotOf U 103, slotOf U 104, slotOf U 105, slotOf U 106, slotOf U 107, slotOf U 108, slotOf U 109, slotOf U 110, slotOf U 111, slotOf U 112, slotOf U 113, slotOf U 114, slotOf U 115, slotOf U 116, slotOf U 117, slotOf U 118, slotOf U 119, slotOf U 120, slotOf U 121, slotOf U 122, slotOf U 123, slotOf U 124, slotOf U 125, slotOf U 126, slotOf U 127, slotOf U 128, slotOf U 129, slotOf U 130, slotOf U 131, slotOf U 132, slotOf U 133, slotOf U 134, slotOf U 135, slotOf U 136, slotOf U 137, slotOf U 138, slotOf U 139, slotOf U 140, slotOf U 141, slotOf U 142, slotOf U 143, slotOf U 144, slotOf U 145, slotOf U 146, slotOf U 147, slotOf U 148, slotOf U 149, slotOf U 150, slotOf U 151, slotOf U 152, slotOf U 153, slotOf U 154, slotOf U 155, slotOf U 156, slotOf U 157, slotOf U 158, slotOf U 159, slotOf U 160, slotOf U 161, slotOf U 162, slotOf U 163, slotOf U 164, slotOf U 165, slotOf U 166, slotOf U 167, slotOf U 168, slotOf U 169, slotOf U 170]) _ (by kernel_rfl) ?_
          intro U
          dsimp only
          have hQ17 : ∀ k, sv.ownBlock = some k → k < b17 ∨ k ≠ b17 := fun k hk => Or.inr (fun e => by
            obtain ⟨cur, h1, _⟩ := HK.out.oq.typ hk
            rw [e, H17.out] at h1; injection h1 with h1; injection h1 with _ h1 _; exact absurd h1 (by decide))
          obtain ⟨bp, HBP⟩ : ∃ bp, Hid ((∀ k, sv.ownBlock = some k → k = bp) ∧ bp < w12.heap.size ∧ bp ≠ b17) := by
            cases hsv : sv.ownBlock with
            | none => exact ⟨bb, hid ⟨fun k e => by simp at e, hp_lt HK.out.cb, by have := HLT.out; omega⟩⟩
            | some k => exact ⟨k, hid ⟨fun j e => by simpa using e.symm, OwnQ.lt_of HK.out.oq hsv, (hQ17 k hsv).elim (fun h => by omega) id⟩⟩
          clear hQ17
          refine range_cut (id := 4) (fun D W => w12.heap.size ≤ D ∧ Fr w12 W [b17] ∧ W.heap[D]? = some (.deferred (some []))) ?r1 ?rest1 ?he1
          case he1 => exact fun _ _ h => h
          case r1 =>
            clear HDD HBB
            refine (wpIn_wide (n := 9)).1 ?_
            refine wpIn_rangeFunc_ownG rfl (by omega) (gf := 46) (lb := #[pt bb]) rfl trivial (enters_of Try.func46 (by kernel_rfl) rfl)
              (all2_stops Fence.wide _ trivial rfl (by omega) bb w.heap.size sv bp L0 hL0 w12 ((cell_of_row _ _ 0 _ _ _ HK.out.cb).trans rfl) (hp_lt HK.out.cb) HK.out.oq HBP.out.1) kpB_t (kpB_b HBP.out.2.1) (Below.refl _ _) (fun _ => rfl)
              (fun pre W => (Fr w12 W [b17] ∧ W.heap[b17]? = some (.cells #[.int .i64 pre.length] 3 (0, 0))) ∧ Hid (pre = L0.take pre.length))
              (fun c pre W => (c = .exit 4 ∧ Fr w12 W [b17]) ∨ Hid (pre ≠ L0.take pre.length))
              (OwnFrom.and (OwnFrom.and ownFrom_fr (ownFrom_blk (hp_lt H17.out) (fun pre : List (Int × Int) => Obj.cells #[.int .i64 pre.length] 3 (0, 0)))) (ownFrom_pure _ _))
              (fun c s A B row hs hg hr => hs.elim (fun h => Or.inl ⟨h.1, ownFrom_fr (β := Unit) () A B row h.2 hg hr⟩) Or.inr)
              ⟨⟨Fr.refl _ _, H17.out⟩, hid rfl⟩
              (fun x => { tmps := #[slotOf U 0, slotOf U 1, .pointer (some ⟨r, 0, none⟩), slotOf U 3, slotOf U 4, slotOf U 5, .pointer (some ⟨b6, 0, none⟩), pt bm, slotOf U 8, .pointer (some ⟨bq, 0, none⟩), slotOf U 10, slotOf U 11, slotOf U 12, .pointer (some ⟨b13, 0, none⟩), .pointer (some ⟨b14, 0, none⟩), slotOf U 15, slotOf U 16, .pointer (some ⟨b17, 0, none⟩), .int .i64 x.1, .int .i64 x.2, slotOf U 20, slotOf U 21, slotOf U 22, slotOf U 23, slotOf U 24, slotOf U 25, slotOf U 26, slotOf U 27, slotOf U 28, slotOf U 29, slotOf U 30, slotOf U 31, slotOf U 32, slotOf U 33, slotOf U 34, slotOf U 35, slotOf U 36, slotOf U 37, slotOf U 38, slotOf U 39, slotOf U 40, slotOf U 41, slotOf U 42, slotOf U 43, slotOf U 44, slotOf U 45, slotOf U 46, slotOf U 47, slotOf U 48, slotOf U 49, slotOf U 50, slotOf U 51, slotOf U 52, slotOf U 53, slotOf U 54, slotOf U 55, slotOf U 56, slotOf U 57, slotOf U 58, slotOf U 59, slotOf U 60, slotOf U 61, slotOf U 62, slotOf U 63, slotOf U 64, slotOf U 65, slotOf U 66, slotOf U 67, slotOf U 68, slotOf U 69, slotOf U 70, slotOf U 71, slotOf U 72, slotOf U 73, slotOf U 74, slotOf U 75, slotOf U 76, slotOf U 77, slotOf U 78, slotOf U 79, slotOf U 80, slotOf U 81, slotOf U 82, slotOf U 83, slotOf U 84, slotOf U 85, slotOf U 86, slotOf U 87, .func (.func 46) #[] #[pt bb], .int .i64 x.1, .int .i64 x.2, slotOf U 91, slotOf U 92, slotOf U 93, slotOf U 94, slotOf U 95, slotOf U 96, slotOf U 97, slotOf U 98, slotOf U 99, slotOf U 100, slotOf U 101, slotOf U 102, slotOf U 103, slotOf U 104, slotOf U 105, slotOf U 106, slotOf U 107, slotOf U 108, slotOf U 109, slotOf U 110, slotOf U 111, slotOf U 112, slotOf U 113, slotOf U 114, slotOf U 115, slotOf U 116, slotOf U 117, slotOf U 118, slotOf U 119, slotOf U 120, slotOf U 121, slotOf U 122, slotOf U 123, slotOf U 124, slotOf U 125, slotOf U 126, slotOf U 127, slotOf U 128, slotOf U 129, slotOf U 130, slotOf U 131, slotOf U 132, slotOf U 133, slotOf U 134, slotOf U 135, slotOf U 136, slotOf U 137, slotOf U 138, slotOf U 139, slotOf U 140, slotOf U 141, slotOf U 142, slotOf U 143, slotOf U 144, slotOf U 145, slotOf U 146, slotOf U 147, slotOf U 148, slotOf U 149, slotOf U 150, slotOf U 151, slotOf U 152, slotOf U 153, slotOf U 154, slotOf U 155, slotOf U 156, slotOf U 157, slotOf U 158, slotOf U 159, slotOf U 160, slotOf U 161, slotOf U 162, slotOf U 163, slotOf U 164, slotOf U 165, slotOf U 166, slotOf U 167, slotOf U 168, slotOf U 169, slotOf U 170], defers := [] }) ?assign ?body ?done ?stop
            case assign =>
              intro l x W K hK
              gi_wp2
              exact hK
            case done =>
              rintro D ys W hD rfl ⟨⟨hF, _⟩, _⟩ hK
              exact ⟨Or.inl rfl, D, rfl, hD, hF, hK⟩
            case stop =>
              rintro D c pre W hD ⟨k, hk, rfl⟩ (⟨rfl, hF⟩ | hne) hK
              · exact wpIn_exit ⟨Or.inr rfl, D, rfl, hD, hF, hK⟩
              · exact absurd (by rw [List.length_take, Nat.min_eq_left hk]) hne.out
            case body =>
              rintro l pre ⟨xk, xv⟩ W ⟨⟨hF, h17⟩, hpre⟩ hlt
              have kk := HK.out.fr hF ⟨HLT.out.1, HLT.out.2.1, HLT.out.2.2.1, HLT.out.2.2.2.1, HLT.out.2.2.2.2.1⟩ H17.out
              have c17 : W.cell? ⟨b17, 0, none⟩ = some (.int .i64 pre.length) := (cell_of_row _ _ 0 _ _ _ h17).trans rfl
              have f17 : W.frozen? ⟨b17, 0, none⟩ = false := by simp [World.frozen?, h17]
              have c6 : W.cell? ⟨b6, 0, none⟩ = some (.int .i64 x1) := (cell_of_row _ _ 0 _ _ _ kk.c6).trans rfl
              have c14 : W.cell? ⟨b14, 0, none⟩ = some (.slice aw L0.length cw) := (cell_of_row _ _ 0 _ _ _ kk.c14).trans rfl
              have c2 : W.cell? ⟨r, 0, none⟩ = some (.bool false) := (cell_of_row _ _ 0 _ _ _ kk.c2).trans rfl
              have f2 : W.frozen? ⟨r, 0, none⟩ = false := by simp [World.frozen?, kk.c2]
              have hget := pv_get L0 pre.length hlt
              rcases kk.op.src with ⟨_, e0⟩ | ⟨gg, o, c, hv, hl, hlt2, hc⟩
              · rw [e0] at hlt; simp at hlt
              have HY : Hid (L0.take (pre.length + 1) = pre ++ [L0.getD pre.length (0, 0)]) := hid (by
                rw [List.take_add_one, ← hpre.out, List.getElem?_eq_getElem hlt, List.getD_eq_getElem?_getD, List.getElem?_eq_getElem hlt]; rfl)
              have y0 := hc (2 * pre.length) _ hget.1
              have y1 := hc (2 * pre.length + 1) _ hget.2
              rw [hv] at c14
              rw [show o + 2 * pre.length = o + pre.length * 2 by omega] at y0
              rw [show o + (2 * pre.length + 1) = o + pre.length * 2 + 1 by omega] at y1
              have HF := hid hF
              have H17W := hid h17
              clear kk hc hget hv hF h17
              generalize hyy : L0.getD pre.length (0, 0) = y at y0 y1 HY
              obtain ⟨yk, yv⟩ := y
              have HTK : Hid (∀ k, pre ++ [k] = L0.take (pre ++ [k]).length → k = (yk, yv)) := hid (fun k e => by
                rw [List.length_append, List.length_singleton, HY.out] at e
                simpa using e)
              obtain ⟨p, HP⟩ : ∃ p, Hid (pre.length = p) := ⟨_, hid rfl⟩
              obtain ⟨M, HM⟩ : ∃ M, Hid (L0.length = M) := ⟨_, hid rfl⟩
              rw [HP.out] at hlt c17 y0 y1 HY H17W
              rw [HM.out] at hlt c14 hl
              have hMle : M ≤ 8192 := by rw [← HM.out]; exact hL0
              clear hyy hpre
              dsimp only at y0 y1 ⊢
              have hge : ¬ (M ≤ p) := by omega
              have hgi : ¬ ((M : Int) ≤ (p : Int)) := by omega
              by_cases hx1 : (p : Int) = x1
              · rw [← hx1] at c6
                clear hx1
                gi_wp2_with fail
                exact ⟨KeepsFrom.refl _ _, Or.inl ⟨rfl, HF.out⟩⟩
              · by_cases hk : yk = xk
                · by_cases hx : yv = xv
                  · subst hk hx
                    gi_wp2_with fail
                    clear y0 y1 c14 c6 c2 f2
                    refine ⟨(KeepsOthers.setCell W _ _).from _, ⟨heap_setCell_other W _ _ _ ?_, ?_⟩, ⟨⟨?_, ?_⟩, hid ?_⟩⟩
                    · show bp ≠ b17
                      exact HBP.out.2.2
                    · simp [World.setCell]
                    · exact HF.out.trans (Fr.set W b17 0 _) (fun q hq => Or.inl hq)
                    · rw [List.length_append, List.length_singleton, HP.out]
                      exact blk_set H17W.out (i := 0) _
                    · rw [List.length_append, List.length_singleton, HP.out]
                      exact HY.out.symm
                  · subst hk
                    have hx2 : ¬ xv = yv := fun e => hx e.symm
                    gi_wp2_with fail
                    exact ⟨(KeepsOthers.setCell W _ _).from _, Or.inr (hid (fun e => hx2 (congrArg Prod.snd (HTK.out _ e))))⟩
                · have hk2 : ¬ xk = yk := fun e => hk e.symm
                  have hk3 : (yk != xk) = true := by simp [hk]
                  gi_wp2_with fail
                  exact ⟨(KeepsOthers.setCell W _ _).from _, Or.inr (hid (fun e => hk2 (congrArg Prod.fst (HTK.out _ e))))⟩
          case rest1 =>
            rintro D W ⟨hD, hF, hK⟩
            obtain ⟨hDu, hWk, hBe⟩ := HAL.out W hF
            have HK1 := hid hWk
            have HD1 := hid hDu
            have HB1 := hid hBe
            have HMD := hid hK
            have HDL : Hid (b17 < D) := hid (Nat.lt_of_lt_of_le (hp_lt H17.out) hD)
            clear hDu hWk hBe hF hK hD HDD HBB HK HAL H17 HBP
            dsimp only
            go_upto_region 31 with fail
            have hb13 := (below_walk W (.cells #[.int .i64 0] 3)).alloc (by simp) (.cells #[.int .i64 0] 3)
            have hn20 := (hp_old (W.alloc (.cells #[.int .i64 0] 3)) (.cells #[.int .i64 0] 3) W.heap.size (by simp)).trans (hp_new W (.cells #[.int .i64 0] 3))
            have hn21 := hp_new (W.alloc (.cells #[.int .i64 0] 3)) (.cells #[.int .i64 0] 3)
            rw [World.size_alloc] at hn21
            generalize (W.alloc (.cells #[.int .i64 0] 3)).alloc (.cells #[.int .i64 0] 3) = w13 at hb13 hn20 hn21 ⊢
            have HAL2 : Hid (∀ W', Fr w13 W' [W.heap.size, W.heap.size + 1] → Du W' w.heap.size bm bq most L h mi g F v ∧ Wk W' r b6 b13 b14 bb sv (.slice aw L0.length cw) x1 w.heap.size L0 ∧ Below w.heap.size w W' ∧ W'.heap[D]? = some (.deferred (some []))) := hid (fun W' hW => by
              have hb := hb13.trans (hW.below (base := W.heap.size) hb13.size (fun k hk => by
                rcases List.mem_cons.1 hk with rfl | hk
                · exact Nat.le_refl _
                · rw [List.mem_singleton.1 hk]; omega))
              exact ⟨HD1.out.below hb, HK1.out.below hb, HB1.out.trans (hb.mono HB1.out.size), (hb.block _ (hp_lt HMD.out)).trans HMD.out⟩)
            have HLT2 : Hid (r < W.heap.size ∧ b6 < W.heap.size ∧ b13 < W.heap.size ∧ b14 < W.heap.size ∧ bb < W.heap.size ∧ w.heap.size ≤ W.heap.size ∧ D < W.heap.size) := hid (by
              have k := HK1.out
              exact ⟨hp_lt k.c2, hp_lt k.c6, hp_lt k.c13, hp_lt k.c14, hp_lt k.cb, HB1.out.size, hp_lt HMD.out⟩)
            obtain ⟨b20, HB20⟩ : ∃ b20, Hid (W.heap.size = b20) := ⟨_, hid rfl⟩
            rw [HB20.out] at hn20 hn21 HAL2 HLT2 ⊢
            obtain ⟨b21, HB21⟩ : ∃ b21, Hid (b20 + 1 = b21) := ⟨_, hid rfl⟩
            rw [HB21.out] at hn21 HAL2 ⊢
            have HN21b : Hid (b20 < b21) := hid (by have := HB21.out; omega)
            have H20 := hid hn20
            have H21 := hid hn21
            clear hb13 hn20 hn21 HD1 HK1 HB1 HMD
            obtain ⟨hDu, hWk, hBe, hM⟩ := HAL2.out w13 (Fr.refl _ _)
            have HK := hid hWk
            have hcl : w13.cell? ⟨b13, 0, none⟩ = some (.func (.func 46) #[] #[pt bb]) := (cell_of_row _ _ 0 _ _ _ hWk.c13).trans rfl
            clear hDu hBe hM hWk
            go_wp2_with fail
            clear hcl
            refine frame_gen (fun U => #[slotOf U 0, slotOf U 1, .pointer (some ⟨r, 0, none⟩), slotOf U 3, slotOf U 4, slotOf U 5, .pointer (some ⟨b6, 0, none⟩), pt bm, slotOf U 8, .pointer (some ⟨bq, 0, none⟩), slotOf U 10, slotOf U 11, slotOf U 12, .pointer (some ⟨b13, 0, none⟩), .pointer (some ⟨b14, 0, none⟩), slotOf U 15, slotOf U 16, .pointer (some ⟨b17, 0, none⟩), slotOf U 18, slotOf U 19, .pointer (some ⟨b20, 0, none⟩), .pointer (some ⟨b21, 0, none⟩), slotOf U 22, slotOf U 23, slotOf U 24, slotOf U 25, slotOf U 26, slotOf U 27, slotOf U 28, slotOf U 29, slotOf U 30, slotOf U 31, slotOf U 32, slotOf U 33, slotOf U 34, slotOf U 35, slotOf U 36, slotOf U 37, slotOf U 38, slotOf U 39, slotOf U 40, slotOf U 41, slotOf U 42, slotOf U 43, slotOf U 44, slotOf U 45, slotOf U 46, slotOf U 47, slotOf U 48, slotOf U 49, slotOf U 50, slotOf U 51, slotOf U 52, slotOf U 53, slotOf U 54, slotOf U 55, slotOf U 56, slotOf U 57, slotOf U 58, slotOf U 59, slotOf U 60, slotOf U 61, slotOf U 62, slotOf U 63, slotOf U 64, slotOf U 65, slotOf U 66, slotOf U 67, slotOf U 68, slotOf U 69, slotOf U 70, slotOf U 71, slotOf U 72, slotOf U 73, slotOf U 74, slotOf U 75, slotOf U 76, slotOf U 77, slotOf U 78, slotOf U 79, slotOf U 80, slotOf U 81, slotOf U 82, slotOf U 83, slotOf U 84, slotOf U 85, slotOf U 86, slotOf U 87, .func (.func 46) #[] #[pt bb], slotOf U 89, slotOf U 90, slotOf U 91, slotOf U 92, slotOf U 93, slotOf U 94, slotOf U 95, slotOf U 96, slotOf U 97, slotOf U 98, slotOf U 99, slotOf U 100, slotOf U 101, slotOf U 102, slotOf U 103, slotOf U 104, slotOf U 105, slotOf U 106, slotOf U 107, slotOf U 108, slotOf U 109, slotOf U 110, slotOf U 111, slotOf U 112, slotOf U 113, slotOf U 114, slotOf U 115, slotOf U 116, slotOf U 117, .func (.func 46) #[] #[pt bb], slotOf U 119, slotOf U 120, slotOf U 121, slotOf U 122, slotOf U 123, slotOf U 124, slotOf U 125, slotOf U 126, slotOf U 127, slotOf U 128, slotOf U 129, slotOf U 130, slotOf U 131, slotOf U 132, slotOf U 133, slotOf U 134, slotOf U 135, slotOf U 136, slotOf U 137, slotOf U 138, slotOf U 139, slotOf U 140, slotOf U 141, slotOf U 142, slotOf U 143, slotOf U 144, slotOf U 145, slotOf U 146, slotOf U 147, slotOf U 148, slotOf U 149, slotOf U 150, slotOf U 151, slotOf U 152, slotOf U 153, slotOf U 154, slotOf U 155, slotOf U 156, slotOf U 157, slotOf U 158, slotOf U 159, slotOf U 160, slotOf U 161, slotOf U 162, slotOf U 163, slotOf U 164, slotOf U 165, slotOf U 166, slotOf U 167, slotOf U 168, slotOf U 169, slotOf U 170]) _ (by kernel_rfl) ?_
            intro U
            dsimp only
            have hQB : ∀ k, sv.ownBlock = some k → k ≠ b20 ∧ k ≠ b21 := fun k hk => by
              obtain ⟨cur, h1, _⟩ := HK.out.oq.typ hk
              refine ⟨fun e => ?_, fun e => ?_⟩
              · rw [e, H20.out] at h1; injection h1 with h1; injection h1 with _ h1 _; exact absurd h1 (by decide)
              · rw [e, H21.out] at h1; injection h1 with h1; injection h1 with _ h1 _; exact absurd h1 (by decide)
            obtain ⟨bp, HBP⟩ : ∃ bp, Hid ((∀ k, sv.ownBlock = some k → k = bp) ∧ bp < w13.heap.size ∧ bp ≠ b20 ∧ bp ≠ b21) := by
              cases hsv : sv.ownBlock with
              | none => exact ⟨bb, hid ⟨fun k e => by simp at e, hp_lt HK.out.cb, by have := HLT2.out; omega, by have := HLT2.out; have := HN21b.out; omega⟩⟩
              | some k => exact ⟨k, hid ⟨fun j e => by simpa using e.symm, OwnQ.lt_of HK.out.oq hsv, (hQB k hsv).1, (hQB k hsv).2⟩⟩
            clear hQB
            refine range_cut (id := 6) (fun D2 W2 => w13.heap.size ≤ D2 ∧ Fr w13 W2 [b20, b21] ∧ W2.heap[D2]? = some (.deferred (some [])) ∧ W2.heap[b20]? = some (.cells #[.int .i64 L0.length] 3 (0, 0)) ∧ W2.heap[b21]? = some (.cells #[.int .i64 ((min 6 L0.length * L0.length : Nat) : Int)] 3 (0, 0))) ?r2 ?rest2 ?he2
            case he2 => exact fun _ _ h => h
            case r2 =>
              refine (wpIn_wide (n := 9)).1 ?_
              refine wpIn_rangeFunc_ownH rfl (by omega) (gf := 46) (lb := #[pt bb]) rfl trivial (enters_of Try.func46 (by kernel_rfl) rfl)
                (all2_stops Fence.wide _ trivial rfl (by omega) bb w.heap.size sv bp L0 hL0 w13 ((cell_of_row _ _ 0 _ _ _ HK.out.cb).trans rfl) (hp_lt HK.out.cb) HK.out.oq HBP.out.1) kpB_t (kpB_b HBP.out.2.1) (Below.refl _ _) (fun _ => rfl)
                (fun pre W => ((Fr w13 W [b20, b21] ∧ W.heap[b20]? = some (.cells #[.int .i64 pre.length] 3 (0, 0))) ∧ W.heap[b21]? = some (.cells #[.int .i64 ((min 6 pre.length * L0.length : Nat) : Int)] 3 (0, 0))) ∧ Hid (pre = L0.take pre.length))
                (fun _ pre _ => Hid (pre ≠ L0.take pre.length))
                (OwnFrom.and (OwnFrom.and (OwnFrom.and ownFrom_fr (ownFrom_blk (hp_lt H20.out) (fun pre : List (Int × Int) => Obj.cells #[.int .i64 pre.length] 3 (0, 0)))) (ownFrom_blk (hp_lt H21.out) (fun pre : List (Int × Int) => Obj.cells #[.int .i64 ((min 6 pre.length * L0.length : Nat) : Int)] 3 (0, 0)))) (ownFrom_pure _ _))
                (fun _ _ _ _ _ hs _ _ => hs)
                ⟨⟨⟨Fr.refl _ _, H20.out⟩, by simpa using H21.out⟩, hid rfl⟩
                (fun x a' _ => a' = { tmps := #[slotOf U 0, slotOf U 1, .pointer (some ⟨r, 0, none⟩), slotOf U 3, slotOf U 4, slotOf U 5, .pointer (some ⟨b6, 0, none⟩), pt bm, slotOf U 8, .pointer (some ⟨bq, 0, none⟩), slotOf U 10, slotOf U 11, slotOf U 12, .pointer (some ⟨b13, 0, none⟩), .pointer (some ⟨b14, 0, none⟩), slotOf U 15, slotOf U 16, .pointer (some ⟨b17, 0, none⟩), slotOf U 18, slotOf U 19, .pointer (some ⟨b20, 0, none⟩), .pointer (some ⟨b21, 0, none⟩), .int .i64 x.1, .int .i64 x.2, slotOf U 24, slotOf U 25, slotOf U 26, slotOf U 27, slotOf U 28, slotOf U 29, slotOf U 30, slotOf U 31, slotOf U 32, slotOf U 33, slotOf U 34, slotOf U 35, slotOf U 36, slotOf U 37, slotOf U 38, slotOf U 39, slotOf U 40, slotOf U 41, slotOf U 42, slotOf U 43, slotOf U 44, slotOf U 45, slotOf U 46, slotOf U 47, slotOf U 48, slotOf U 49, slotOf U 50, slotOf U 51, slotOf U 52, slotOf U 53, slotOf U 54, slotOf U 55, slotOf U 56, slotOf U 57, slotOf U 58, slotOf U 59, slotOf U 60, slotOf U 61, slotOf U 62, slotOf U 63, slotOf U 64, slotOf U 65, slotOf U 66, slotOf U 67, slotOf U 68, slotOf U 69, slotOf U 70, slotOf U 71, slotOf U 72, slotOf U 73, slotOf U 74, slotOf U 75, slotOf U 76, slotOf U 77, slotOf U 78, slotOf U 79, slotOf U 80, slotOf U 81, slotOf U 82, slotOf U 83, slotOf U 84, slotOf U 85, slotOf U 86, slotOf U 87, .func (.func 46) #[] #[pt bb], slotOf U 89, slotOf U 90, slotOf U 91, slotOf U 92, slotOf U 93, slotOf U 94, slotOf U 95, slotOf U 96, slotOf U 97, slotOf U 98, slotOf U 99, slotOf U 100, slotOf U 101, slotOf U 102, slotOf U 103, slotOf U 104, slotOf U 105, slotOf U 106, slotOf U 107, slotOf U 108, slotOf U 109, slotOf U 110, slotOf U 111, slotOf U 112, slotOf U 113, slotOf U 114, slotOf U 115, slotOf U 116, slotOf U 117, .func (.func 46) #[] #[pt bb], .int .i64 x.1, .int .i64 x.2, slotOf U 121, slotOf U 122, slotOf U 123, slotOf U 124, slotOf U 125, slotOf U 126, slotOf U 127, slotOf U 128, slotOf U 129, slotOf U 130, slotOf U 131, slotOf U 132, slotOf U 133, slotOf U 134, slotOf U 135, slotOf U 136, slotOf U 137, slotOf U 138, slotOf U 139, slotOf U 140, slotOf U 141, slotOf U 142, slotOf U 143, slotOf U 144, slotOf U 145, slotOf U 146, slotOf U 147, slotOf U 148, slotOf U 149, slotOf U 150, slotOf U 151, slotOf U 152, slotOf U 153, slotOf U 154, slotOf U 155, slotOf U 156, slotOf U 157, slotOf U 158, slotOf U 159, slotOf U 160, slotOf U 161, slotOf U 162, slotOf U 163, slotOf U 164, slotOf U 165, slotOf U 166, slotOf U 167, slotOf U 168, slotOf U 169, slotOf U 170], defers := [] }) (fun _ _ _ _ _ _ hs _ _ => hs) ?assign ?body ?done ?stop
              case assign =>
                intro l pre x W K hI hK
                gi_wp2
                exact hK _ _ (KeepsFrom.refl _ _) ⟨rfl, Nat.le_refl _⟩ hI rfl
              case done =>
                rintro D2 ys W hD2 rfl ⟨⟨⟨hF, h20⟩, h21⟩, _⟩ hK2
                exact ⟨Or.inl rfl, D2, rfl, hD2, hF, hK2, h20, h21⟩
              case stop =>
                rintro D2 c pre W hD2 ⟨k, hk, rfl⟩ hne hK2
                exact absurd (by rw [List.length_take, Nat.min_eq_left hk]) hne.out
              case body =>
                rintro l pre ⟨xk, xv⟩ a' W hl hrec ⟨⟨⟨hF, h20⟩, h21⟩, hpre⟩ rfl hlt
                obtain ⟨hDu, kk, hBe, hM⟩ := HAL2.out W hF
                clear hDu hBe hM
                have c20 : W.cell? ⟨b20, 0, none⟩ = some (.int .i64 pre.length) := (cell_of_row _ _ 0 _ _ _ h20).trans rfl
                have f20 : W.frozen? ⟨b20, 0, none⟩ = false := by simp [World.frozen?, h20]
                have c14 : W.cell? ⟨b14, 0, none⟩ = some (.slice aw L0.length cw) := (cell_of_row _ _ 0 _ _ _ kk.c14).trans rfl
                have c2 : W.cell? ⟨r, 0, none⟩ = some (.bool false) := (cell_of_row _ _ 0 _ _ _ kk.c2).trans rfl
                have f2 : W.frozen? ⟨r, 0, none⟩ = false := by simp [World.frozen?, kk.c2]
                have hget := pv_get L0 pre.length hlt
                rcases kk.op.src with ⟨_, e0⟩ | ⟨gg, o, c, hv, hl9, hlt2, hc⟩
                · rw [e0] at hlt; simp at hlt
                have HY : Hid (L0.take (pre.length + 1) = pre ++ [L0.getD pre.length (0, 0)]) := hid (by
                  rw [List.take_add_one, ← hpre.out, List.getElem?_eq_getElem hlt, List.getD_eq_getElem?_getD, List.getElem?_eq_getElem hlt]; rfl)
                have y0 := hc (2 * pre.length) _ hget.1
                have y1 := hc (2 * pre.length + 1) _ hget.2
                rw [hv] at c14
                rw [show o + 2 * pre.length = o + pre.length * 2 by omega] at y0
                rw [show o + (2 * pre.length + 1) = o + pre.length * 2 + 1 by omega] at y1
                have HF := hid hF
                have H20W := hid h20
                have H21W := hid h21
                have HRC := hid hrec
                have HLL := hid hl
                clear kk hc hget hv hF h20 h21 hrec hl
                generalize hyy : L0.getD pre.length (0, 0) = y at y0 y1 HY
                obtain ⟨yk, yv⟩ := y
                have HTK : Hid (∀ k, pre ++ [k] = L0.take (pre ++ [k]).length → k = (yk, yv)) := hid (fun k e => by
                  rw [List.length_append, List.length_singleton, HY.out] at e
                  simpa using e)
                obtain ⟨p, HP⟩ : ∃ p, Hid (pre.length = p) := ⟨_, hid rfl⟩
                obtain ⟨M, HM⟩ : ∃ M, Hid (L0.length = M) := ⟨_, hid rfl⟩
                rw [HP.out] at hlt c20 y0 y1 HY H20W H21W
                rw [HM.out] at hlt c14 hl9 H21W
                have hMle : M ≤ 8192 := by rw [← HM.out]; exact hL0
                clear hyy hpre
                dsimp only at y0 y1 ⊢
                have hge : ¬ (M ≤ p) := by omega
                have hgi : ¬ ((M : Int) ≤ (p : Int)) := by omega
                by_cases hk : yk = xk
                · by_cases hx : yv = xv
                  · subst hk hx
                    by_cases h6 : p + 1 ≤ 6
                    · have hi6 : ¬ ((6 : Int) < (p : Int) + 1) := by omega
                      have hcl : (W.setCell ⟨b20, 0, none⟩ (.int .i64 ((p : Int) + 1))).cell? ⟨b13, 0, none⟩ = some (.func (.func 46) #[] #[pt bb]) :=
                        (World.cell?_setCell_far W _ _ _ (by show b20 ≠ b13; have := HLT2.out; omega)).trans ((cell_of_row _ _ 0 _ _ _ (HAL2.out W HF.out).2.1.c13).trans rfl)
                      gi_wp2_with fail
                      clear hcl y0 y1 c14 c20 f20 c2 f2 hi6
                      refine frame_genN (fun U => #[slotOf U 0, slotOf U 1, slotOf U 2, slotOf U 3, slotOf U 4, slotOf U 5, slotOf U 6, slotOf U 7, slotOf U 8, slotOf U 9, slotOf U 10, slotOf U 11, slotOf U 12, slotOf U 13, slotOf U 14, slotOf U 15, slotOf U 16, slotOf U 17, slotOf U 18, slotOf U 19, slotOf U 20, .pointer (some ⟨b21, 0, none⟩), slotOf U 22, slotOf U 23, slotOf U 24, slotOf U 25, slotOf U 26, slotOf U 27, slotOf U 28, slotOf U 29, slotOf U 30, slotOf U 31, slotOf U 32, slotOf U 33, slotOf U 34, slotOf U 35, slotOf U 36, slotOf U 37, slotOf U 38, slotOf U 39, slotOf U 40, slotOf U 41, slotOf U 42, slotOf U 43, slotOf U 44, slotOf U 45, slotOf U 46, slotOf U 47, slotOf U 48, slotOf U 49, slotOf U 50, slotOf U 51, slotOf U 52, slotOf U 53, slotOf U 54, slotOf U 55, slotOf U 56, slotOf U 57, slotOf U 58, slotOf U 59, slotOf U 60, slotOf U 61, slotOf U 62, slotOf U 63, slotOf U 64, slotOf U 65, slotOf U 66, slotOf U 67, slotOf U 68, slotOf U 69, slotOf U 70, slotOf U 71, slotOf U 72, slotOf U 73, slotOf U 74, slotOf U 75, slotOf U 76, slotOf U 77, slotOf U 78, slotOf U 79, slotOf U 80, slotOf U 81, slotOf U 82, slotOf U 83, slotOf U 84, slotOf U 85, slotOf U 86, slotOf U 87, slotOf U 88, slotOf U 89, slotOf U 90, slotOf U 91, slotOf U 92, slotOf U 93, slotOf U 94, slotOf U 95, slotOf U 96, slotOf U 97, slotOf U 98, slotOf U 99, slotOf U 100, slotOf U 101, slotOf U 102, slotOf U 103, slotOf U 104, slotOf U 105, slotOf U 106, slotOf U 107, slotOf U 108, slotOf U 109, slotOf U 110, slotOf U 111, slotOf U 112, slotOf U 113, slotOf U 114, slotOf U 115, slotOf U 116, slotOf U 117, slotOf U 118, slotOf U 119, slotOf U 120, slotOf U 121, slotOf U 122, slotOf U 123, slotOf U 124, slotOf U 125, slotOf U 126, slotOf U 127, slotOf U 128, slotOf U 129, slotOf U 130, slotOf U 131, slotOf U 132, slotOf U 133, slotOf U 134, slotOf U 135, slotOf U 136, slotOf U 137, slotOf U 138, slotOf U 139, slotOf U 140, slotOf U 141, slotOf U 142, slotOf U 143, slotOf U 144, slotOf U 145, slotOf U 146, .func (.func 46) #[] #[pt bb], slotOf U 148, slotOf U 149, slotOf U 150, slotOf U 151, slotOf U 152, slotOf U 153, slotOf U 154, slotOf U 155, slotOf U 156, slotOf U 157, slotOf U 158, slotOf U 159, slotOf U 160, slotOf U 161, slotOf U 162, slotOf U 163, slotOf U 164, slotOf U 165, slotOf U 166, slotOf U 167, slotOf U 168, slotOf U 169, slotOf U 170]) _ (by kernel_rfl) ?_
                      intro U
                      dsimp only
                      have hFb : Fr w13 (W.setCell ⟨b20, 0, none⟩ (.int .i64 ((p : Int) + 1))) [b20, b21] := HF.out.trans (Fr.set W b20 0 _) (fun q hq => Or.inl (by rw [List.mem_singleton.1 hq]; exact List.mem_cons_self))
                      have HFB := hid hFb
                      have HKB := hid (HAL2.out _ hFb).2.1
                      have HSZ : Hid ((W.setCell ⟨b20, 0, none⟩ (.int .i64 ((p : Int) + 1))).heap.size = W.heap.size) := hid (by simp [World.setCell])
                      have HKF : Hid (KeepsFrom w13.heap.size W (W.setCell ⟨b20, 0, none⟩ (.int .i64 ((p : Int) + 1)))) := hid ((KeepsOthers.setCell W _ _).from _)
                      have H20B := hid (blk_set H20W.out (i := 0) (.int .i64 ((p : Int) + 1)))
                      have H21B : Hid ((W.setCell ⟨b20, 0, none⟩ (.int .i64 ((p : Int) + 1))).heap[b21]? = some (.cells #[.int .i64 ((min 6 p * M : Nat) : Int)] 3 (0, 0))) := hid ((heap_setCell_other W _ _ _ (by show b21 ≠ b20; have := HN21b.out; omega)).trans H21W.out)
                      obtain ⟨rc, hrc⟩ := HRC.out
                      have HR9 := hid ((KeepsOthers.setCell W ⟨b20, 0, none⟩ (.int .i64 ((p : Int) + 1))).same l _ hrc rfl)
                      generalize W.setCell ⟨b20, 0, none⟩ (.int .i64 ((p : Int) + 1)) = Wb at HFB HKB HSZ HKF H20B H21B HR9 ⊢
                      have H20B : Hid (Wb.heap[b20]? = some (.cells #[.int .i64 ((p : Int) + 1)] 3 (0, 0))) := H20B
                      clear hFb hrc
                      refine wpIn_rangeFunc_ownN (l₀ := l) rfl HR9.out (by omega) (gf := 46) (lb := #[pt bb]) rfl trivial (enters_of Try.func46 (by kernel_rfl) rfl)
                        ((all2_stops Fence.wide _ trivial rfl (by omega) bb w.heap.size sv bp L0 hL0 Wb ((cell_of_row _ _ 0 _ _ _ HKB.out.cb).trans rfl) (hp_lt HKB.out.cb) HKB.out.oq HBP.out.1).inRound l) kpB_t (kpB_b (Nat.lt_of_lt_of_le HBP.out.2.1 HFB.out.size)) (Below.refl _ _) (fun _ => rfl)
                        (fun pre2 X => ((Fr w13 X [b20, b21] ∧ KeepsFrom w13.heap.size W X) ∧ X.heap[b20]? = some (.cells #[.int .i64 ((p : Int) + 1)] 3 (0, 0))) ∧ X.heap[b21]? = some (.cells #[.int .i64 ((min 6 p * M + pre2.length : Nat) : Int)] 3 (0, 0)))
                        (fun _ _ _ => False)
                        (OwnFrom.and (OwnFrom.and (OwnFrom.and (ownFrom_frB HFB.out.size) (ownFrom_keepsFrom (Nat.le_of_eq HSZ.out.symm))) (ownFrom_blk (hp_lt H20B.out) (fun _ : List (Int × Int) => Obj.cells #[.int .i64 ((p : Int) + 1)] 3 (0, 0)))) (ownFrom_blk (hp_lt H21B.out) (fun pre2 : List (Int × Int) => Obj.cells #[.int .i64 ((min 6 p * M + pre2.length : Nat) : Int)] 3 (0, 0))))
                        (fun _ _ _ _ _ hs _ _ => hs)
                        ⟨⟨⟨HFB.out, HKF.out⟩, H20B.out⟩, by simpa using H21B.out⟩
                        (fun x a' _ => a' = { tmps := #[slotOf U 0, slotOf U 1, slotOf U 2, slotOf U 3, slotOf U 4, slotOf U 5, slotOf U 6, slotOf U 7, slotOf U 8, slotOf U 9, slotOf U 10, slotOf U 11, slotOf U 12, slotOf U 13, slotOf U 14, slotOf U 15, slotOf U 16, slotOf U 17, slotOf U 18, slotOf U 19, slotOf U 20, .pointer (some ⟨b21, 0, none⟩), slotOf U 22, slotOf U 23, slotOf U 24, slotOf U 25, slotOf U 26, slotOf U 27, slotOf U 28, slotOf U 29, slotOf U 30, slotOf U 31, slotOf U 32, slotOf U 33, slotOf U 34, slotOf U 35, slotOf U 36, slotOf U 37, slotOf U 38, slotOf U 39, slotOf U 40, slotOf U 41, slotOf U 42, slotOf U 43, slotOf U 44, slotOf U 45, slotOf U 46, slotOf U 47, slotOf U 48, slotOf U 49, slotOf U 50, slotOf U 51, slotOf U 52, slotOf U 53, slotOf U 54, slotOf U 55, slotOf U 56, slotOf U 57, slotOf U 58, slotOf U 59, slotOf U 60, slotOf U 61, slotOf U 62, slotOf U 63, slotOf U 64, slotOf U 65, slotOf U 66, slotOf U 67, slotOf U 68, slotOf U 69, slotOf U 70, slotOf U 71, slotOf U 72, slotOf U 73, slotOf U 74, slotOf U 75, slotOf U 76, slotOf U 77, slotOf U 78, slotOf U 79, slotOf U 80, slotOf U 81, slotOf U 82, slotOf U 83, slotOf U 84, slotOf U 85, slotOf U 86, slotOf U 87, slotOf U 88, slotOf U 89, slotOf U 90, slotOf U 91, slotOf U 92, slotOf U 93, slotOf U 94, slotOf U 95, slotOf U 96, slotOf U 97, slotOf U 98, slotOf U 99, slotOf U 100, slotOf U 101, slotOf U 102, slotOf U 103, slotOf U 104, slotOf U 105, slotOf U 106, slotOf U 107, slotOf U 108, slotOf U 109, slotOf U 110, slotOf U 111, slotOf U 112, slotOf U 113, slotOf U 114, slotOf U 115, slotOf U 116, slotOf U 117, slotOf U 118, slotOf U 119, slotOf U 120, slotOf U 121, slotOf U 122, slotOf U 123, slotOf U 124, slotOf U 125, slotOf U 126, slotOf U 127, slotOf U 128, slotOf U 129, slotOf U 130, slotOf U 131, slotOf U 132, slotOf U 133, slotOf U 134, slotOf U 135, slotOf U 136, slotOf U 137, slotOf U 138, slotOf U 139, slotOf U 140, slotOf U 141, slotOf U 142, slotOf U 143, slotOf U 144, slotOf U 145, slotOf U 146, .func (.func 46) #[] #[pt bb], .int .i64 x.1, .int .i64 x.2, slotOf U 150, slotOf U 151, slotOf U 152, slotOf U 153, slotOf U 154, slotOf U 155, slotOf U 156, slotOf U 157, slotOf U 158, slotOf U 159, slotOf U 160, slotOf U 161, slotOf U 162, slotOf U 163, slotOf U 164, slotOf U 165, slotOf U 166, slotOf U 167, slotOf U 168, slotOf U 169, slotOf U 170], defers := [] }) (fun _ _ _ _ _ _ hs _ _ => hs) ?assign2 ?body2 ?done2 ?stop2
                      case assign2 =>
                        intro l2 pre2 x X K hI hK
                        refine wpIn_skip (hK _ _ (KeepsFrom.refl _ _) ⟨rfl, Nat.le_refl _⟩ hI ?_)
                        first
                          | kernel_rfl
                          | (simp; done)
                      case stop2 => exact fun _ _ _ _ hh => hh.elim
                      case done2 =>
                        rintro xs X hxs ⟨⟨⟨hF9, hKF9⟩, h20⟩, h21⟩
                        have hx2 : xs = L0 := hxs
                        have hnb : bp ∉ [b20, b21] := fun e => by
                          rcases List.mem_cons.1 e with e | e
                          · exact HBP.out.2.2.1 e
                          · exact HBP.out.2.2.2 (List.mem_singleton.1 e)
                        have e6 : min 6 (p + 1) * L0.length = min 6 p * M + xs.length := by rw [hx2, HM.out, show min 6 (p + 1) = min 6 p + 1 by omega, Nat.succ_mul]
                        refine And.intro hKF9 (And.intro (And.intro ((hF9.block bp HBP.out.2.1 hnb).trans (HF.out.block bp HBP.out.2.1 hnb).symm) hKF9.size) (And.intro (And.intro (And.intro hF9 ?_) ?_) (hid ?_)))
                        · rw [List.length_append, List.length_singleton, HP.out]
                          exact h20
                        · rw [List.length_append, List.length_singleton, HP.out, e6]
                          exact h21
                        · rw [List.length_append, List.length_singleton, HP.out]
                          exact HY.out.symm
                      case body2 =>
                        rintro l2 pre2 x a' X hl2 hrec2 ⟨⟨⟨hF9, hKF9⟩, h20⟩, h21⟩ rfl hlt9
                        rw [HM.out] at hlt9
                        have hV : min 6 p * M + pre2.length ≤ 100000 := by
                          have := Nat.mul_le_mul_right M (Nat.min_le_left 6 p)
                          omega
                        obtain ⟨V, HV9⟩ : ∃ V, Hid (min 6 p * M + pre2.length = V) := ⟨_, hid rfl⟩
                        rw [HV9.out] at hV h21
                        have c21 : X.cell? ⟨b21, 0, none⟩ = some (.int .i64 V) := (cell_of_row _ _ 0 _ _ _ h21).trans rfl
                        have f21 : X.frozen? ⟨b21, 0, none⟩ = false := by simp [World.frozen?, h21]
                        have HF9 := hid hF9
                        have HKF9 := hid hKF9
                        have H20X := hid h20
                        have H21X := hid h21
                        clear hF9 hKF9 h20 h21 hrec2 hl2
                        gi_wp2_with fail
                        refine ⟨(KeepsOthers.setCell X _ _).from _, ⟨heap_setCell_other X _ _ _ ?_, ?_⟩, ⟨⟨⟨?_, ?_⟩, ?_⟩, ?_⟩⟩
                        · show bp ≠ b21
                          exact HBP.out.2.2.2
                        · simp [World.setCell]
                        · exact HF9.out.trans (Fr.set X b21 0 _) (fun q hq => Or.inl (by rw [List.mem_singleton.1 hq]; simp))
                        · exact HKF9.out.trans ((KeepsOthers.setCell X _ _).from _)
                        · exact (heap_setCell_other X _ _ _ (by show b20 ≠ b21; have := HN21b.out; omega)).trans H20X.out
                        · rw [List.length_append, List.length_singleton, ← Nat.add_assoc, HV9.out]
                          exact blk_set H21X.out (i := 0) _
                    · have hi6 : (6 : Int) < (p : Int) + 1 := by omega
                      gi_wp2_with fail
                      clear y0 y1 c14 c2 f2
                      refine ⟨(KeepsOthers.setCell W _ _).from _, ⟨heap_setCell_other W _ _ _ ?_, ?_⟩, ⟨⟨⟨?_, ?_⟩, ?_⟩, hid ?_⟩⟩
                      · show bp ≠ b20
                        exact HBP.out.2.2.1
                      · simp [World.setCell]
                      · exact HF.out.trans (Fr.set W b20 0 _) (fun q hq => Or.inl (by rw [List.mem_singleton.1 hq]; exact List.mem_cons_self))
                      · rw [List.length_append, List.length_singleton, HP.out]
                        exact blk_set H20W.out (i := 0) _
                      · rw [List.length_append, List.length_singleton, HP.out, HM.out, show min 6 (p + 1) = min 6 p by omega]
                        exact (heap_setCell_other W _ _ _ (by show b21 ≠ b20; have := HN21b.out; omega)).trans H21W.out
                      · rw [List.length_append, List.length_singleton, HP.out]
                        exact HY.out.symm
                  · subst hk
                    have hx2 : ¬ xv = yv := fun e => hx e.symm
                    gi_wp2_with fail
                    exact ⟨(KeepsOthers.setCell W _ _).from _, hid (fun e => hx2 (congrArg Prod.snd (HTK.out _ e)))⟩
                · have hk2 : ¬ xk = yk := fun e => hk e.symm
                  have hk3 : (yk != xk) = true := by simp [hk]
                  gi_wp2_with fail
                  exact ⟨(KeepsOthers.setCell W _ _).from _, hid (fun e => hk2 (congrArg Prod.fst (HTK.out _ e)))⟩
            case rest2 =>
              rintro D2 W2 ⟨hD2, hF2, hK2, h20, h21⟩
              obtain ⟨hDu, hWk, hBe, hM⟩ := HAL2.out W2 hF2
              have HD3 := hid hDu
              have HK3 := hid hWk
              have HB3 := hid hBe
              have HMD := hid hM
              have HMD2 := hid hK2
              have HDL2 : Hid (D < D2 ∧ w.heap.size ≤ D) := hid (by have := HLT2.out; have := hp_lt H20.out; have := HDL.out; have := HLT.out; omega)
              have c20 : W2.cell? ⟨b20, 0, none⟩ = some (.int .i64 L0.length) := (cell_of_row _ _ 0 _ _ _ h20).trans rfl
              have c21 : W2.cell? ⟨b21, 0, none⟩ = some (.int .i64 ((min 6 L0.length * L0.length : Nat) : Int)) := (cell_of_row _ _ 0 _ _ _ h21).trans rfl
              have c14 : W2.cell? ⟨b14, 0, none⟩ = some (.slice aw L0.length cw) := (cell_of_row _ _ 0 _ _ _ hWk.c14).trans rfl
              clear hDu hWk hBe hM hK2 h20 h21 hF2 hD2 HAL2 HK H20 H21 HBP
              have hMM : (((min 6 L0.length * L0.length : Nat) : Int) = (min 6 (L0.length : Int)) * (L0.length : Int)) := by rw [Int.natCast_mul]; congr 1; omega
              rw [hMM] at c21
              clear hMM
              obtain ⟨M, HM⟩ : ∃ M, Hid (L0.length = M) := ⟨_, hid rfl⟩
              rw [HM.out] at c14 c20 c21
              have hMle : M ≤ 8192 := by rw [← HM.out]; exact hL0
              dsimp only
              rcases Nat.lt_or_ge M 6 with h6 | h6
              · have hi6 : ¬ ((6 : Int) ≤ (M : Int)) := by omega
                rw [show min 6 (M : Int) = M by omega] at c21
                have hq := Nat.mul_le_mul (show M ≤ 5 by omega) (show M ≤ 5 by omega)
                have hq1 : (M : Int) * (M : Int) ≤ 25 := by rw [← Int.natCast_mul]; omega
                have hq0 : 0 ≤ (M : Int) * (M : Int) := by rw [← Int.natCast_mul]; omega
                clear hq
                go_wp2_with fail
                refine (stands_any HD3.out).mono ?_
                rintro e w5 ⟨rfl, b5⟩
                have HK5 := hid (HK3.out.below b5)
                have HB5 := hid (HB3.out.trans (b5.mono HB3.out.size))
                have HMA := hid ((b5.block _ (hp_lt HMD.out)).trans HMD.out)
                have HMB := hid ((b5.block _ (hp_lt HMD2.out)).trans HMD2.out)
                clear b5 HK3 HB3 HMD HMD2 HD3
                go_wp2_with fail
                refine (alive_any _).mono ?_
                rintro e w6 ⟨rfl, b6x⟩
                have HW6 := hid (HK5.out.below b6x)
                have HB6 := hid (HB5.out.trans (b6x.mono HB5.out.size))
                have HMA6 := hid ((b6x.block _ (hp_lt HMA.out)).trans HMA.out)
                have HMB6 := hid ((b6x.block _ (hp_lt HMB.out)).trans HMB.out)
                clear b6x HK5 HB5 HMA HMB
                have HMA7 := hid ((KeepsOthers.setCell w6 ⟨r, 0, none⟩ (.bool true)).same D _ HMA6.out rfl)
                have HMB7 := hid ((KeepsOthers.setCell w6 ⟨r, 0, none⟩ (.bool true)).same D2 _ HMB6.out rfl)
                have hrr := HW6.out.c2
                have hcr : w6.cell? ⟨r, 0, none⟩ = some (.bool false) := (cell_of_row _ _ _ _ _ _ hrr).trans rfl
                have hfr : w6.frozen? ⟨r, 0, none⟩ = false := by simp [World.frozen?, hrr]
                have HE6 := hid (blk_set hrr (i := 0) (.bool true))
                have HBE : Hid (Below w.heap.size w (w6.setCell ⟨r, 0, none⟩ (.bool true))) := hid (HB6.out.setCell (p := ⟨r, 0, none⟩) (by show w.heap.size ≤ r; rw [← HR.out]; omega) _)
                clear hrr
                go_wp2
                refine leaves_marks (B := w.heap.size) (.bool true) [{ target := .collected D2, args := #[] }, { target := .collected D, args := #[] }] (w6.setCell ⟨r, 0, none⟩ (.bool true)).heap.size _ ⟨D2, rfl, by have := HDL2.out; omega, hp_lt HMB7.out, HMB7.out, D, rfl, HDL2.out.2, HDL2.out.1, HMA7.out, trivial⟩ HBE.out.size (fun w' hb' hk => ?_)
                have hbb := (hk r (fun D _ hD e => by subst e; rw [HE6.out] at hD; cases hD)).trans HE6.out
                have hc : w'.cell? ⟨r, 0, none⟩ = some (.bool true) := (cell_of_row _ _ _ _ _ _ hbb).trans rfl
                refine ⟨?_, rfl, HBE.out.trans (hb'.mono (by omega))⟩
                simp [results, Try.f8, go_sem, hc]
              · have hi6 : (6 : Int) ≤ (M : Int) := by omega
                rw [show min 6 (M : Int) = 6 by omega] at c21
                go_wp2_with fail
                refine (stands_any HD3.out).mono ?_
                rintro e w5 ⟨rfl, b5⟩
                have HK5 := hid (HK3.out.below b5)
                have HB5 := hid (HB3.out.trans (b5.mono HB3.out.size))
                have HMA := hid ((b5.block _ (hp_lt HMD.out)).trans HMD.out)
                have HMB := hid ((b5.block _ (hp_lt HMD2.out)).trans HMD2.out)
                clear b5 HK3 HB3 HMD HMD2 HD3
                go_wp2_with fail
                refine (alive_any _).mono ?_
                rintro e w6 ⟨rfl, b6x⟩
                have HW6 := hid (HK5.out.below b6x)
                have HB6 := hid (HB5.out.trans (b6x.mono HB5.out.size))
                have HMA6 := hid ((b6x.block _ (hp_lt HMA.out)).trans HMA.out)
                have HMB6 := hid ((b6x.block _ (hp_lt HMB.out)).trans HMB.out)
                clear b6x HK5 HB5 HMA HMB
                have HMA7 := hid ((KeepsOthers.setCell w6 ⟨r, 0, none⟩ (.bool true)).same D _ HMA6.out rfl)
                have HMB7 := hid ((KeepsOthers.setCell w6 ⟨r, 0, none⟩ (.bool true)).same D2 _ HMB6.out rfl)
                have hrr := HW6.out.c2
                have hcr : w6.cell? ⟨r, 0, none⟩ = some (.bool false) := (cell_of_row _ _ _ _ _ _ hrr).trans rfl
                have hfr : w6.frozen? ⟨r, 0, none⟩ = false := by simp [World.frozen?, hrr]
                have HE6 := hid (blk_set hrr (i := 0) (.bool true))
                have HBE : Hid (Below w.heap.size w (w6.setCell ⟨r, 0, none⟩ (.bool true))) := hid (HB6.out.setCell (p := ⟨r, 0, none⟩) (by show w.heap.size ≤ r; rw [← HR.out]; omega) _)
                clear hrr
                go_wp2
                refine leaves_marks (B := w.heap.size) (.bool true) [{ target := .collected D2, args := #[] }, { target := .collected D, args := #[] }] (w6.setCell ⟨r, 0, none⟩ (.bool true)).heap.size _ ⟨D2, rfl, by have := HDL2.out; omega, hp_lt HMB7.out, HMB7.out, D, rfl, HDL2.out.2, HDL2.out.1, HMA7.out, trivial⟩ HBE.out.size (fun w' hb' hk => ?_)
                have hbb := (hk r (fun D _ hD e => by subst e; rw [HE6.out] at hD; cases hD)).trans HE6.out
                have hc : w'.cell? ⟨r, 0, none⟩ = some (.bool true) := (cell_of_row _ _ _ _ _ _ hbb).trans rfl
                refine ⟨?_, rfl, HBE.out.trans (hb'.mono (by omega))⟩
                simp [results, Try.f8, go_sem, hc]

end Go.Proofs.Ytnbbebapfiocpaa
