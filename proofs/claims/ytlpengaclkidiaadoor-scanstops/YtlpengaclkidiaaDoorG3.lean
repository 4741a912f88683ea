/- Contracts and pure facts that the proof needs, joined. -/
import Derived.Test.YtlpengaclkidiaaDoorG2
import Derived.Laws.StructEq
import Derived.Test.YtlpengaclkidiaaDoorG1
import Derived.Deep.QuietTactic

/- The program's Includes (written by yincl.py). -/
namespace Go.Proofs.YtlpengaclkidiaaDoor
open Go.RowKit

def toI (L : List (List UInt8 × List UInt8 × Nat)) : List (List UInt8 × List UInt8 × Int) := L.map fun x => (x.1, x.2.1, (x.2.2 : Int))
theorem toI_len (L : List (List UInt8 × List UInt8 × Nat)) : (toI L).length = L.length := by simp [toI]
theorem toI_app (L : List (List UInt8 × List UInt8 × Nat)) (x : List UInt8 × List UInt8 × Nat) : toI (L ++ [x]) = toI L ++ [(x.1, x.2.1, (x.2.2 : Int))] := by simp [toI]

theorem results_cc {fn : Func} {p q : Tmp} {ty ty2 : TypeId} (h : fn.results = #[.cell p ty, .cell q ty2]) (tmps : Array Value) (P : Program) (w : World) :
    (results fn tmps).run P w = ((asAddr (tmps.getD p undef)).run P w).andThen fun a w₁ => ((loadVar ty a).run P w₁).andThen fun v w₂ => ((asAddr (tmps.getD q undef)).run P w₂).andThen fun a2 w₃ => ((loadVar ty2 a2).run P w₃).andThen fun v2 w₄ => .ok (.tuple #[v, v2]) w₄ := by
  simp only [results, h]
  simp [Sem.run_bind, Result.andThen]
/-- the answers: a slice, and a fault, in variables -/
theorem leave_lf {R : Ending → World → Prop} {tmps : Array Value} {w : World} {g g2 : Nat} {v x y : Value} (hp : tmps.getD 2 undef = .pointer (some ⟨g, 0, none⟩)) (hq : tmps.getD 3 undef = .pointer (some ⟨g2, 0, none⟩))
    (h1 : w.heap[g]? = some (.cells #[v] 22 (0, 0))) (h2 : w.heap[g2]? = some (.cells #[x, y] 25 (0, 0))) (hR : R (.returned (.tuple #[v, .agg #[x, y]])) w) : Leaves Tryd.prog Tryd.f8 tmps R [] .returning w := by
  refine ⟨_, ?_, hR⟩
  rw [results_cc Tryd.results8, hp, hq]
  have e1 : w.cell? ⟨g, 0, none⟩ = some v := by rw [cell_of_row _ _ _ _ _ _ h1]; rfl
  have k2 := run_loadVar_mid (P := Tryd.prog) w g2 0 25 [x, y] _ (fun j v hv => by rw [Nat.zero_add, cell_of_row w g2 j #[x, y] 25 (0, 0) h2]; simpa using hv) Tryd.underlying25 rfl (by kernel_rfl)
  have k1 : (loadVar 22 ⟨g, 0, none⟩).run Tryd.prog w = .ok v w := by simp [go_sem, loadVar, e1]
  simp [asAddr, k1, k2]

/-- a reader's place, out of the world -/
def rdAt (w : World) (b : Nat) : Nat := match w.cell? ⟨b, 1, none⟩ with | some (.int _ n) => n.toNat | _ => 0
theorem Rs.rd {w : World} {b a : Nat} {l : List UInt8} (h : Rs w b l a) : rdAt w b = a := by unfold rdAt; rw [h.c1]; simp

/-- append(own, one include), as a step of a region that draws -/
theorem step_app_inc {ops : Array Oper} {o : Oper} {a : Act} {w : World} {K : Act → World → Prop} {Q : Exit → Act → World → Prop} {E : Prop} (hgd : o.guard = none) (s x : Operand)
    (ho : o.op = .call { callee := .builtin .append, args := #[s, x], argTypes := #[22, 22] })
    (base : Nat) (v : Value) (L : List (List UInt8 × List UInt8 × Int)) (hs : a.eval s = v) (hown : OwnN w base v L) (g c : Nat) (M : List (List UInt8 × List UInt8 × Int)) (hx : a.eval x = .slice (some ⟨g, 0, none⟩) M.length c)
    (hsrc : ∀ j u, (iv M)[j]? = some u → w.cell? ⟨g, j, none⟩ = some u) (hlen : L.length + M.length ≤ 1000000000000) (hbase : base ≤ w.heap.size)
    (h : ∀ v' w', OwnN w' base v' (L ++ M) → w.grownBy w' v.ownBlock → K (a.put o.dst v') w') : if Region.wanted o (yielded ops a.tmps) = true then Oper.wp Tryd.prog o a w K Q else E := by
  rw [if_pos (by simp [Region.wanted, hgd])]
  obtain ⟨i0, hi, hz0, hz1, hz2⟩ := info_parts Tryd.infoInc
  obtain ⟨v', w', hr, h1, h2, _⟩ := run_append_own (P := Tryd.prog) w base 22 o.type 35 i0 (.agg #[.string ⟨#[]⟩, .string ⟨#[]⟩, .int .i64 0]) 3 40 Tryd.underlying22 hi hz0 hz1 hz2 rfl (by decide) v L.length (iv L) hown ⟨g, 0, none⟩ M.length c (iv M) (iv_len M) (fun j u hj => by rw [addr_add]; exact hsrc j u hj) (iv_one M) (by unfold maxLen; omega) (by omega) hbase
  unfold Oper.wp
  simp [execOp, ho, resolve, invoke, builtin, hs, hx, hr, Result.andThen]
  refine h v' w' ?_ h2
  unfold OwnN
  rw [iv_app, List.length_append]
  exact h1

set_option maxRecDepth 20000 in
set_option maxHeartbeats 2000000 in
theorem incls_long (l : List UInt8) (hl : 65536 < l.length) (w : World) :
    Calls Tryd.prog 8 #[.string (mk l)] w fun r w' => ∃ v, r = .returned (.tuple #[v, .agg #[.int .i64 3, .int .i64 0]]) ∧ OwnN w' w.heap.size v [] ∧ Below w.heap.size w w' := by
  have hmk := mk_size l
  have q0 : (65536 : Int) < (l.length : Int) := by omega
  have hmf : ∀ (fn : Fn) (first cap : Array Value) (w : World), (Instr.makeFunc fn first cap).run Tryd.prog w = .ok (.func fn first cap) w := fun _ _ _ _ => rfl
  go_enter_defers Tryd.func8, Tryd.ntmps8
  go_wp2
  have e2 : ((w.alloc (.cells #[.slice none 0 0] 22)).alloc (.cells #[.int .i64 3, .int .i64 0] 25)).heap[w.heap.size + 1]? = some (.cells #[.int .i64 3, .int .i64 0] 25 (0, 0)) := by
    have := hp_new (w.alloc (.cells #[.slice none 0 0] 22)) (.cells #[.int .i64 3, .int .i64 0] 25)
    rw [hp_size] at this
    exact this
  have e1 : ((w.alloc (.cells #[.slice none 0 0] 22)).alloc (.cells #[.int .i64 3, .int .i64 0] 25)).heap[w.heap.size]? = some (.cells #[.slice none 0 0] 22 (0, 0)) := (hp_old _ _ _ (by rw [hp_size]; omega)).trans (hp_new w (.cells #[.slice none 0 0] 22))
  simp only [bodyPostD]
  refine leave_lf (g := w.heap.size) (g2 := w.heap.size + 1) (v := .slice none 0 0) (x := .int .i64 3) (y := .int .i64 0) ?_ ?_ e1 e2 ?_
  · rfl
  · rfl
  · exact ⟨_, rfl, OwnN.nil _ _, below_walk2 w _ _⟩

set_option maxRecDepth 20000 in
set_option maxHeartbeats 4000000 in
theorem incls_ok (l : List UInt8) (hl : l.length ≤ 65536) (w : World) (hT : Tabs w) :
    Calls Tryd.prog 8 #[.string (mk l)] w fun r w' => ∃ v, r = .returned (.tuple #[v, .agg #[.int .i64 (scP l 0).2.2.1, .int .i64 ((scP l 0).2.2.2 : Nat)]]) ∧ OwnN w' w.heap.size v (toI (scP l 0).1) ∧ Below w.heap.size w w' := by
  have hmk := mk_size l
  have q0 : ¬ (65536 : Int) < (l.length : Int) := by omega
  have hmf : ∀ (fn : Fn) (first cap : Array Value) (w : World), (Instr.makeFunc fn first cap).run Tryd.prog w = .ok (.func fn first cap) w := fun _ _ _ _ => rfl
  have HT := hid hT
  have H0 := hid (Sg.zero hl)
  have HW0 : Hid (((w.alloc (.cells #[.slice none 0 0] 22)).alloc (.cells #[.int .i64 0, .int .i64 0] 25)).alloc (.cells #[.string (mk l), .int .i64 0] 50) |>.heap[w.heap.size]? |> (· = some (.cells #[.slice none 0 0] 22 (0, 0)))) := ((hp_old _ _ _ (by rw [hp_size, hp_size]; omega)).trans ((hp_old _ _ _ (by rw [hp_size]; omega)).trans (hp_new w (.cells #[.slice none 0 0] 22))))
  have HW1 : Hid (((w.alloc (.cells #[.slice none 0 0] 22)).alloc (.cells #[.int .i64 0, .int .i64 0] 25)).alloc (.cells #[.string (mk l), .int .i64 0] 50) |>.heap[w.heap.size + 1]? |> (· = some (.cells #[.int .i64 0, .int .i64 0] 25 (0, 0)))) := by
    have := hp_new (w.alloc (.cells #[.slice none 0 0] 22)) (.cells #[.int .i64 0, .int .i64 0] 25)
    rw [hp_size] at this
    exact (hp_old _ _ _ (by rw [hp_size, hp_size]; omega)).trans this
  have HW2 : Hid (Rs (((w.alloc (.cells #[.slice none 0 0] 22)).alloc (.cells #[.int .i64 0, .int .i64 0] 25)).alloc (.cells #[.string (mk l), .int .i64 0] 50)) (w.heap.size + 1 + 1) l 0) := by
    have := hp_new ((w.alloc (.cells #[.slice none 0 0] 22)).alloc (.cells #[.int .i64 0, .int .i64 0] 25)) (.cells #[.string (mk l), .int .i64 0] 50)
    rw [hp_size, hp_size] at this
    exact this
  have HBW := hid ((below_walk2 w (.cells #[.slice none 0 0] 22) (.cells #[.int .i64 0, .int .i64 0] 25)).alloc (by rw [hp_size, hp_size]; omega) (.cells #[.string (mk l), .int .i64 0] 50))
  have hsz : (((w.alloc (.cells #[.slice none 0 0] 22)).alloc (.cells #[.int .i64 0, .int .i64 0] 25)).alloc (.cells #[.string (mk l), .int .i64 0] 50)).heap.size = w.heap.size + 3 := by rw [hp_size, hp_size, hp_size]
  clear hT
  go_enter_defers Tryd.func8, Tryd.ntmps8
  go_wp2
  generalize ((w.alloc (.cells #[.slice none 0 0] 22)).alloc (.cells #[.int .i64 0, .int .i64 0] 25)).alloc (.cells #[.string (mk l), .int .i64 0] 50) = w0 at *
  go_loopw [12] (fun _ wr => ∃ (a : Nat) (L : List (List UInt8 × List UInt8 × Nat)) (v : Value), Sg l a L ∧ Rs wr (w.heap.size + 1 + 1) l a ∧ wr.heap[w.heap.size]? = some (.cells #[v] 22 (0, 0)) ∧ wr.heap[w.heap.size + 1]? = some (.cells #[.int .i64 0, .int .i64 0] 25 (0, 0)) ∧ OwnN wr (w.heap.size + 3) v (toI L) ∧ Below w.heap.size w wr) (fun _ wr => l.length - rdAt wr (w.heap.size + 1 + 1))
  case atStart => exact ⟨0, [], .slice none 0 0, H0.out, HW2.out, HW0.out, HW1.out, OwnN.nil _ _, HBW.out⟩
  case round =>
    obtain ⟨a, L, v, hS, hR, h0, h1, hO, hB⟩ := hrel
    have HS := hid hS
    have HR := hid hR
    have H0c := hid h0
    have H1c := hid h1
    have HO := hid hO
    have HB := hid hB
    have HTr := hid (HT.out.below HB.out)
    have HA := hid (rat_is l a (w.heap.size + 1 + 1) hl HS.out.1 wr HTr.out HR.out)
    have HRD := hid HR.out.rd
    obtain ⟨sa, sc, hv⟩ := HO.out.shape
    rw [toI_len] at hv
    subst hv
    clear hS hR h0 h1 hO hB
    rcases sc_view hl HS.out.1 with ⟨t, e, he, hp⟩ | ⟨k, f, m, x1, x2, x3, hp, e, g, he, x4, hi⟩ | ⟨k, f, m, v1, n1, to, x1, x2, x3, x4, hp, hi⟩
    · have FIN := hid (HS.out.last hp he)
      rw [hp, decide_eq_false he] at HA
      clear hp
      go_wp2_with (go_at_call 20; refine HA.out.mono ?_; rintro r w2 ⟨rfl, hb2⟩; have HB2 := hid (HB.out.trans (hb2.mono HB.out.size)); have k0 := (hb2.block _ (hp_lt H0c.out)).trans H0c.out; have k1 := (hb2.block _ (hp_lt H1c.out)).trans H1c.out; have HO2 := hid (HO.out.below hb2); have HK0 := hid k0; have HK1 := hid k1; have c0 : w2.cell? ⟨w.heap.size, 0, none⟩ = some (.slice sa L.length sc) := (by rw [cell_of_row _ _ _ _ _ _ k0]; rfl); have z0 : w2.frozen? ⟨w.heap.size, 0, none⟩ = false := (by simp [World.frozen?, k0]); have d0 : w2.cell? ⟨w.heap.size + 1, 0, none⟩ = some (.int .i64 0) := (by rw [cell_of_row _ _ _ _ _ _ k1]; rfl); have d1 : w2.cell? ⟨w.heap.size + 1, 1, none⟩ = some (.int .i64 0) := (by rw [cell_of_row _ _ _ _ _ _ k1]; rfl); have y0 : w2.frozen? ⟨w.heap.size + 1, 0, none⟩ = false := (by simp [World.frozen?, k1]); have y1 : w2.frozen? ⟨w.heap.size + 1, 1, none⟩ = false := (by simp [World.frozen?, k1]); clear hb2 k0 k1)
      have e0 : (((w2.setCell ⟨w.heap.size, 0, none⟩ (.slice sa L.length sc)).setCell ⟨w.heap.size + 1, 0, none⟩ (.int .i64 0)).setCell ⟨w.heap.size + 1, 1, none⟩ (.int .i64 0)).heap[w.heap.size]? = some (.cells #[.slice sa L.length sc] 22 (0, 0)) := (hp_set _ _ _ _ _ (by omega)).trans ((hp_set _ _ _ _ _ (by omega)).trans (blk_set HK0.out _))
      have e1 : (((w2.setCell ⟨w.heap.size, 0, none⟩ (.slice sa L.length sc)).setCell ⟨w.heap.size + 1, 0, none⟩ (.int .i64 0)).setCell ⟨w.heap.size + 1, 1, none⟩ (.int .i64 0)).heap[w.heap.size + 1]? = some (.cells #[.int .i64 0, .int .i64 0] 25 (0, 0)) := blk_set (blk_set ((hp_set _ _ _ _ _ (by omega)).trans HK1.out) _) _
      have e2 : OwnN (((w2.setCell ⟨w.heap.size, 0, none⟩ (.slice sa L.length sc)).setCell ⟨w.heap.size + 1, 0, none⟩ (.int .i64 0)).setCell ⟨w.heap.size + 1, 1, none⟩ (.int .i64 0)) (w.heap.size + 3) (.slice sa L.length sc) (toI L) := ((HO2.out.kept (gb_set w2 ⟨w.heap.size, 0, none⟩ _) (Or.inr (fun x => absurd (HO2.out.lt _ x).1 (show ¬ w.heap.size + 3 ≤ w.heap.size by omega)))).kept (gb_set _ ⟨w.heap.size + 1, 0, none⟩ _) (Or.inr (fun x => absurd (HO2.out.lt _ x).1 (show ¬ w.heap.size + 3 ≤ w.heap.size + 1 by omega)))).kept (gb_set _ ⟨w.heap.size + 1, 1, none⟩ _) (Or.inr (fun x => absurd (HO2.out.lt _ x).1 (show ¬ w.heap.size + 3 ≤ w.heap.size + 1 by omega)))
      have e3 : Below w.heap.size w (((w2.setCell ⟨w.heap.size, 0, none⟩ (.slice sa L.length sc)).setCell ⟨w.heap.size + 1, 0, none⟩ (.int .i64 0)).setCell ⟨w.heap.size + 1, 1, none⟩ (.int .i64 0)) := ((HB2.out.setCell (p := ⟨w.heap.size, 0, none⟩) (Nat.le_refl _) _).setCell (p := ⟨w.heap.size + 1, 0, none⟩) (by show w.heap.size ≤ w.heap.size + 1; omega) _).setCell (p := ⟨w.heap.size + 1, 1, none⟩) (by show w.heap.size ≤ w.heap.size + 1; omega) _
      generalize (((w2.setCell ⟨w.heap.size, 0, none⟩ (.slice sa L.length sc)).setCell ⟨w.heap.size + 1, 0, none⟩ (.int .i64 0)).setCell ⟨w.heap.size + 1, 1, none⟩ (.int .i64 0)) = w3 at *
      refine leaves_cons (f := 19) (args := #[.pointer (some ⟨w.heap.size, 0, none⟩), .pointer (some ⟨w.heap.size + 1, 0, none⟩)]) (by simp) (by simp [go_sem]) ?_
      refine (catch_idle ⟨w.heap.size, 0, none⟩ ⟨w.heap.size + 1, 0, none⟩ w3).mono ?_
      rintro r u' w4 ⟨rfl, rfl, rfl⟩
      refine leave_lf (g := w.heap.size) (g2 := w.heap.size + 1) ?_ ?_ e0 e1 ?_
      · rfl
      · rfl
      · rw [FIN.out]
        exact ⟨_, rfl, e2.le (by omega), e3⟩
    · have FIN := hid (HS.out.bad hp hi he)
      rw [hp, decide_eq_true rfl] at HA
      have HI : Hid (∀ W, Tabs W → Rs W (w.heap.size + 1 + 1) l a → Calls Tryd.prog 21 #[.pointer (some ⟨w.heap.size + 1 + 1, 0, none⟩)] W fun r w' => r = .panicked (ftV e g) ∧ W.grownBy w' (some (w.heap.size + 1 + 1))) := fun W hT hR => by
        rcases in_cases hl x3 hi he with ⟨k1, m1, p1⟩ | ⟨k1, f1, m1, k2, m2, l1, p1, p2⟩ | ⟨k1, f1, m1, k2, f2, m2, k3, m3, l1, l2, p1, p2, p3⟩ | ⟨k1, f1, m1, k2, f2, m2, k3, f3, m3, k4, m4, l1, l2, l3, p1, p2, p3, p4⟩
        · exact inc_no1 hl HS.out.1 hp x3 p1 he W hT hR
        · exact inc_no2 hl HS.out.1 hp x3 p1 l1 p2 he W hT hR
        · exact inc_no3 hl HS.out.1 hp x3 p1 l1 p2 l2 p3 he W hT hR
        · exact inc_no4 hl HS.out.1 hp x3 p1 l1 p2 l2 p3 l3 p4 he W hT hR
      clear hp hi
      go_wp2_with (go_at_call 20; refine HA.out.mono ?_; rintro r w2 ⟨rfl, hb2⟩; have HB2 := hid (HB.out.trans (hb2.mono HB.out.size)); have HT2 := hid (HTr.out.below hb2); have HR2 := hid (HR.out.below hb2 HR.out.lt); have k0 := (hb2.block _ (hp_lt H0c.out)).trans H0c.out; have k1 := (hb2.block _ (hp_lt H1c.out)).trans H1c.out; have HK0 := hid k0; have HK1 := hid k1; have c0 : w2.cell? ⟨w.heap.size, 0, none⟩ = some (.slice sa L.length sc) := (by rw [cell_of_row _ _ _ _ _ _ k0]; rfl); clear hb2 k0 k1)
      have HT2d := hid (HT2.out.below (Below.refl _ _).drew)
      have HR2d : Hid (Rs w2.drew (w.heap.size + 1 + 1) l a) := HR2.out
      have c0d : w2.drew.cell? ⟨w.heap.size, 0, none⟩ = some (.slice sa L.length sc) := c0
      refine wp_region_held_drew (S := fun _ => True) (by kernel_rfl) trivial ?_
      intro hHeld
      refine wpAnyH_ready (rs := [0, 1]) (by kernel_rfl) (by simp) ?_
      refine AllReadyH.cons rfl (fun K hK => ?_) (AllReadyH.cons rfl (fun K hK => ?_) AllReadyH.nil)
      · go_simp
        refine hK.out _ _ trivial (fun hHeld => ?_)
        clear hK K
        try simp only [Act.put, List.getElem_toArray, List.getElem_cons_zero, List.getElem_cons_succ, List.setIfInBounds_toArray, List.set_cons_succ, List.set_cons_zero]
        refine wpAnyH_ready (rs := [1]) (by kernel_rfl) (by simp) ?_
        refine AllReadyH.cons rfl (fun K hK => ?_) AllReadyH.nil
        go_simp
        refine (HI.out _ HT2d.out HR2d.out).mono ?_
        rintro r w3 ⟨rfl, hg⟩
        go_wp2_with fail
        refine leaves_cons (f := 19) (args := #[.pointer (some ⟨w.heap.size, 0, none⟩), .pointer (some ⟨w.heap.size + 1, 0, none⟩)]) (by simp [ftV]) (by simp [go_sem]) ?_
        refine (catch_fault w.heap.size (w.heap.size + 1) e g w3 w.heap.size _ _ (by omega) ((hg.block _ (hp_lt HK0.out) (by intro e; injection e with e; omega)).trans HK0.out) ((hg.block _ (hp_lt HK1.out) (by intro e; injection e with e; omega)).trans HK1.out) rfl (Nat.le_refl _) (by omega)).mono ?_
        rintro r u' w4 ⟨rfl, rfl, e0, e1, e3⟩
        show Leaves Tryd.prog Tryd.f8 _ _ [] .returning _
        refine leave_lf (g := w.heap.size) (g2 := w.heap.size + 1) ?_ ?_ e0 e1 ?_
        · rfl
        · rfl
        · rw [FIN.out]
          exact ⟨_, rfl, OwnN.nil _ _, (((HB2.out.drew).grown hg HB2.out.size (fun k hk => by injection hk with hk; omega)).trans e3)⟩
      · go_simp
        refine (HI.out _ HT2d.out HR2d.out).mono ?_
        rintro r w3 ⟨rfl, hg⟩
        go_wp2_with fail
        refine leaves_cons (f := 19) (args := #[.pointer (some ⟨w.heap.size, 0, none⟩), .pointer (some ⟨w.heap.size + 1, 0, none⟩)]) (by simp [ftV]) (by simp [go_sem]) ?_
        refine (catch_fault w.heap.size (w.heap.size + 1) e g w3 w.heap.size _ _ (by omega) ((hg.block _ (hp_lt HK0.out) (by intro e; injection e with e; omega)).trans HK0.out) ((hg.block _ (hp_lt HK1.out) (by intro e; injection e with e; omega)).trans HK1.out) rfl (Nat.le_refl _) (by omega)).mono ?_
        rintro r u' w4 ⟨rfl, rfl, e0, e1, e3⟩
        show Leaves Tryd.prog Tryd.f8 _ _ [] .returning _
        refine leave_lf (g := w.heap.size) (g2 := w.heap.size + 1) ?_ ?_ e0 e1 ?_
        · rfl
        · rfl
        · rw [FIN.out]
          exact ⟨_, rfl, OwnN.nil _ _, (((HB2.out.drew).grown hg HB2.out.size (fun k hk => by injection hk with hk; omega)).trans e3)⟩
    · have FIN := hid (HS.out.more hl (by omega) x4 hp hi)
      rw [hp, decide_eq_true rfl] at HA
      have HI : Hid (∀ W, Tabs W → Rs W (w.heap.size + 1 + 1) l a → Calls Tryd.prog 21 #[.pointer (some ⟨w.heap.size + 1 + 1, 0, none⟩)] W fun r w' => r = .returned (.agg #[.string (mk v1), .string (mk n1), .int .i64 (f : Int)]) ∧ Rs w' (w.heap.size + 1 + 1) l to ∧ W.grownBy w' (some (w.heap.size + 1 + 1))) := fun W hT hR => by
        rcases in_view hl (a := m) (by omega) with ⟨e, g, h0, hg, hi2⟩ | ⟨f1, m1, k2, f2, m2, f3, m3, k4, f4, m4, i1, i2, i3, i4, i5, i6, i7, i8, i9, p1, p2, p3, p4, j3, j1, hi2⟩
        · rw [hi] at hi2
          simp only [Prod.mk.injEq] at hi2
          exact absurd hi2.1.symm h0
        · rw [hi] at hi2
          simp only [Prod.mk.injEq, true_and] at hi2
          obtain ⟨rfl, rfl, rfl⟩ := hi2
          exact inc_ok hl HS.out.1 hp (by omega) p1 (by omega) p2 (by omega) p3 (by omega) p4 (by omega) (by omega) j3 W hT hR
      clear hp hi
      go_wp2_with (go_at_call 20; refine HA.out.mono ?_; rintro r w2 ⟨rfl, hb2⟩; have HB2 := hid (HB.out.trans (hb2.mono HB.out.size)); have HT2 := hid (HTr.out.below hb2); have HR2 := hid (HR.out.below hb2 HR.out.lt); have HO2 := hid (HO.out.below hb2); have k0 := (hb2.block _ (hp_lt H0c.out)).trans H0c.out; have k1 := (hb2.block _ (hp_lt H1c.out)).trans H1c.out; have HK0 := hid k0; have HK1 := hid k1; have c0 : w2.cell? ⟨w.heap.size, 0, none⟩ = some (.slice sa L.length sc) := (by rw [cell_of_row _ _ _ _ _ _ k0]; rfl); clear hb2 k0 k1)
      have HT2d := hid (HT2.out.below (Below.refl _ _).drew)
      have HR2d : Hid (Rs w2.drew (w.heap.size + 1 + 1) l a) := HR2.out
      have c0d : w2.drew.cell? ⟨w.heap.size, 0, none⟩ = some (.slice sa L.length sc) := c0
      refine wp_noPanic (wp_region_held_drew (S := fun _ => True) (by kernel_rfl) trivial ?_)
      intro hHeld
      refine wpAnyH_ready (rs := [0, 1]) (by kernel_rfl) (by simp) ?_
      refine AllReadyH.cons rfl (fun K hK => ?_) (AllReadyH.cons rfl (fun K hK => ?_) AllReadyH.nil)
      · go_simp
        refine hK.out _ _ trivial (fun hHeld => ?_)
        clear hK K
        try simp only [Act.put, List.getElem_toArray, List.getElem_cons_zero, List.getElem_cons_succ, List.setIfInBounds_toArray, List.set_cons_succ, List.set_cons_zero]
        refine wpAnyH_ready (rs := [1]) (by kernel_rfl) (by simp) ?_
        refine AllReadyH.cons rfl (fun K hK => ?_) AllReadyH.nil
        go_simp
        refine (HI.out _ HT2d.out HR2d.out).mono ?_
        rintro r w3 ⟨rfl, hr3, hg⟩
        have HR3 := hid hr3
        have HL0 := hid ((hg.block _ (hp_lt HK0.out) (by intro e; injection e with e; omega)).trans HK0.out)
        have HL1 := hid ((hg.block _ (hp_lt HK1.out) (by intro e; injection e with e; omega)).trans HK1.out)
        have HO3 := hid (OwnN.kept (show OwnN w2.drew _ _ _ from HO2.out) hg (Or.inr (fun x => absurd (HO2.out.lt _ x).1 (show ¬ w.heap.size + 3 ≤ w.heap.size + 1 + 1 by omega))))
        have HB3 := hid ((HB2.out.drew).grown hg HB2.out.size (fun k hk => by injection hk with hk; omega))
        have HZ3 := hid (show w.heap.size + 3 ≤ w3.heap.size from Nat.le_trans (show w.heap.size + 3 ≤ w2.heap.size from HR2.out.lt) hg.size)
        clear hg hr3
        go_wp2_with fail
        refine hK.out _ _ trivial (fun hHeld => ?_)
        clear hK K
        try simp only [Act.put, List.getElem_toArray, List.getElem_cons_zero, List.getElem_cons_succ, List.setIfInBounds_toArray, List.set_cons_succ, List.set_cons_zero]
        refine wpAnyH_ready (rs := [2]) (by kernel_rfl) (by simp) ?_
        refine AllReadyH.cons rfl (fun K hK => ?_) AllReadyH.nil
        go_simp
        have HWA := hid (below_walk w3 (.cells #[.string (mk v1), .string (mk n1), .int .i64 (f : Int)] 35))
        have HSR := hid (src_inc w3 (v1, n1, (f : Int)))
        have HM0 := hid ((HWA.out.block _ (hp_lt HL0.out)).trans HL0.out)
        have HM1 := hid ((HWA.out.block _ (hp_lt HL1.out)).trans HL1.out)
        have HR4 := hid (HR3.out.below HWA.out HR3.out.lt)
        have HO4 := hid (HO3.out.below HWA.out)
        have HB4 := hid (HB3.out.trans (HWA.out.mono HB3.out.size))
        have HZ4 := hid (show w.heap.size + 3 ≤ (w3.alloc (.cells #[.string (mk v1), .string (mk n1), .int .i64 (f : Int)] 35)).heap.size by rw [hp_size]; have := HZ3.out; omega)
        refine hK.out _ _ trivial (fun hHeld => ?_)
        clear hK K
        try simp only [Act.put, List.getElem_toArray, List.getElem_cons_zero, List.getElem_cons_succ, List.setIfInBounds_toArray, List.set_cons_succ, List.set_cons_zero]
        refine wpAnyH_ready (rs := [3]) (by kernel_rfl) (by simp) ?_
        refine AllReadyH.cons rfl (fun K hK => ?_) AllReadyH.nil
        refine step_app_inc (by rfl) (.tmp 13) (.tmp 15) (by rfl) (w.heap.size + 3) _ (toI L) (by rfl) HO4.out w3.heap.size 1 [(v1, n1, (f : Int))] (by rfl) HSR.out (by rw [toI_len]; have := HS.out.2.1; have := HS.out.1; simp; omega) HZ4.out ?_
        generalize w3.alloc (.cells #[.string (mk v1), .string (mk n1), .int .i64 (f : Int)] 35) = w4 at *
        intro v' w5 hO5 hG5
        have hlo : ∀ k, (Value.slice sa L.length sc).ownBlock = some k → w.heap.size + 3 ≤ k := fun k hk => (HO.out.lt k hk).1
        have HN0 := hid ((hG5.block _ (hp_lt HM0.out) (fun e => by have := hlo _ e.symm; omega)).trans HM0.out)
        have HN1 := hid ((hG5.block _ (hp_lt HM1.out) (fun e => by have := hlo _ e.symm; omega)).trans HM1.out)
        have HR5 := hid (show Rs w5 (w.heap.size + 1 + 1) l to from (hG5.block _ HR4.out.lt (fun e => by have := hlo _ e.symm; omega)).trans HR4.out)
        have HB5 := hid (HB4.out.grown hG5 (by have := HZ4.out; omega) (fun k hk => by have := hlo _ hk; omega))
        have HO5 := hid hO5
        obtain ⟨sa2, sc2, hv2⟩ := hO5.shape
        have HLE : Hid ((toI L ++ [(v1, n1, (f : Int))]).length = L.length + 1) := by show _ = _; rw [List.length_append, toI_len]; rfl
        rw [HLE.out] at hv2
        subst hv2
        clear hG5 hO5 hlo
        refine hK.out _ _ trivial (fun hHeld => ?_)
        clear hK K
        try simp only [Act.put, List.getElem_toArray, List.getElem_cons_zero, List.getElem_cons_succ, List.setIfInBounds_toArray, List.set_cons_succ, List.set_cons_zero]
        refine wpAnyH_ready (rs := [4]) (by kernel_rfl) (by simp) ?_
        refine AllReadyH.cons rfl (fun K hK => ?_) AllReadyH.nil
        have c5 : w5.cell? ⟨w.heap.size, 0, none⟩ = some (.slice sa L.length sc) := by rw [cell_of_row _ _ _ _ _ _ HN0.out]; rfl
        have z5 : w5.frozen? ⟨w.heap.size, 0, none⟩ = false := by simp [World.frozen?, HN0.out]
        go_simp
        refine hK.out _ _ trivial (fun hHeld => ?_)
        clear hK K c5 z5
        have HX0 := hid (show (w5.setCell ⟨w.heap.size, 0, none⟩ (.slice sa2 (L.length + 1) sc2)).heap[w.heap.size]? = some (.cells #[.slice sa2 (L.length + 1) sc2] 22 (0, 0)) from blk_set HN0.out _)
        have HX1 := hid (show (w5.setCell ⟨w.heap.size, 0, none⟩ (.slice sa2 (L.length + 1) sc2)).heap[w.heap.size + 1]? = some (.cells #[.int .i64 0, .int .i64 0] 25 (0, 0)) from (hp_set _ _ _ _ _ (by omega)).trans HN1.out)
        have HX2 := hid (show Rs (w5.setCell ⟨w.heap.size, 0, none⟩ (.slice sa2 (L.length + 1) sc2)) (w.heap.size + 1 + 1) l to from (hp_set _ _ _ _ _ (by omega)).trans HR5.out)
        have HX3 := hid (HO5.out.kept (gb_set w5 ⟨w.heap.size, 0, none⟩ (.slice sa2 (L.length + 1) sc2)) (Or.inr (fun x => absurd (HO5.out.lt _ x).1 (show ¬ w.heap.size + 3 ≤ w.heap.size by omega))))
        have HX4 := hid (HB5.out.setCell (p := ⟨w.heap.size, 0, none⟩) (Nat.le_refl _) (.slice sa2 (L.length + 1) sc2))
        generalize w5.setCell ⟨w.heap.size, 0, none⟩ (.slice sa2 (L.length + 1) sc2) = w6 at *
        refine wpAnyH_done (by kernel_rfl) ?_ _
        simp only [noPanic]
        clear hHeld
        go_wp2_with fail
        refine ⟨⟨to, L ++ [(v1, n1, f)], _, FIN.out, HX2.out, HX0.out, HX1.out, by rw [toI_app]; exact HX3.out, HX4.out⟩, ?_⟩
        rw [HX2.out.rd, HRD.out]
        omega
      · go_simp
        refine (HI.out _ HT2d.out HR2d.out).mono ?_
        rintro r w3 ⟨rfl, hr3, hg⟩
        have HR3 := hid hr3
        have HL0 := hid ((hg.block _ (hp_lt HK0.out) (by intro e; injection e with e; omega)).trans HK0.out)
        have HL1 := hid ((hg.block _ (hp_lt HK1.out) (by intro e; injection e with e; omega)).trans HK1.out)
        have HO3 := hid (OwnN.kept (show OwnN w2.drew _ _ _ from HO2.out) hg (Or.inr (fun x => absurd (HO2.out.lt _ x).1 (show ¬ w.heap.size + 3 ≤ w.heap.size + 1 + 1 by omega))))
        have HB3 := hid ((HB2.out.drew).grown hg HB2.out.size (fun k hk => by injection hk with hk; omega))
        have HZ3 := hid (show w.heap.size + 3 ≤ w3.heap.size from Nat.le_trans (show w.heap.size + 3 ≤ w2.heap.size from HR2.out.lt) hg.size)
        clear hg hr3
        go_wp2_with fail
        refine hK.out _ _ trivial (fun hHeld => ?_)
        clear hK K
        try simp only [Act.put, List.getElem_toArray, List.getElem_cons_zero, List.getElem_cons_succ, List.setIfInBounds_toArray, List.set_cons_succ, List.set_cons_zero]
        refine wpAnyH_ready (rs := [0, 2]) (by kernel_rfl) (by simp) ?_
        refine AllReadyH.cons rfl (fun K hK => ?_) (AllReadyH.cons rfl (fun K hK => ?_) AllReadyH.nil)
        · skip
          have c3 : w3.cell? ⟨w.heap.size, 0, none⟩ = some (.slice sa L.length sc) := by rw [cell_of_row _ _ _ _ _ _ HL0.out]; rfl
          go_simp
          refine hK.out _ _ trivial (fun hHeld => ?_)
          clear hK K c3
          try simp only [Act.put, List.getElem_toArray, List.getElem_cons_zero, List.getElem_cons_succ, List.setIfInBounds_toArray, List.set_cons_succ, List.set_cons_zero]
          refine wpAnyH_ready (rs := [2]) (by kernel_rfl) (by simp) ?_
          refine AllReadyH.cons rfl (fun K hK => ?_) AllReadyH.nil
          go_simp
          have HWA := hid (below_walk w3 (.cells #[.string (mk v1), .string (mk n1), .int .i64 (f : Int)] 35))
          have HSR := hid (src_inc w3 (v1, n1, (f : Int)))
          have HM0 := hid ((HWA.out.block _ (hp_lt HL0.out)).trans HL0.out)
          have HM1 := hid ((HWA.out.block _ (hp_lt HL1.out)).trans HL1.out)
          have HR4 := hid (HR3.out.below HWA.out HR3.out.lt)
          have HO4 := hid (HO3.out.below HWA.out)
          have HB4 := hid (HB3.out.trans (HWA.out.mono HB3.out.size))
          have HZ4 := hid (show w.heap.size + 3 ≤ (w3.alloc (.cells #[.string (mk v1), .string (mk n1), .int .i64 (f : Int)] 35)).heap.size by rw [hp_size]; have := HZ3.out; omega)
          refine hK.out _ _ trivial (fun hHeld => ?_)
          clear hK K
          try simp only [Act.put, List.getElem_toArray, List.getElem_cons_zero, List.getElem_cons_succ, List.setIfInBounds_toArray, List.set_cons_succ, List.set_cons_zero]
          refine wpAnyH_ready (rs := [3]) (by kernel_rfl) (by simp) ?_
          refine AllReadyH.cons rfl (fun K hK => ?_) AllReadyH.nil
          refine step_app_inc (by rfl) (.tmp 13) (.tmp 15) (by rfl) (w.heap.size + 3) _ (toI L) (by rfl) HO4.out w3.heap.size 1 [(v1, n1, (f : Int))] (by rfl) HSR.out (by rw [toI_len]; have := HS.out.2.1; have := HS.out.1; simp; omega) HZ4.out ?_
          generalize w3.alloc (.cells #[.string (mk v1), .string (mk n1), .int .i64 (f : Int)] 35) = w4 at *
          intro v' w5 hO5 hG5
          have hlo : ∀ k, (Value.slice sa L.length sc).ownBlock = some k → w.heap.size + 3 ≤ k := fun k hk => (HO.out.lt k hk).1
          have HN0 := hid ((hG5.block _ (hp_lt HM0.out) (fun e => by have := hlo _ e.symm; omega)).trans HM0.out)
          have HN1 := hid ((hG5.block _ (hp_lt HM1.out) (fun e => by have := hlo _ e.symm; omega)).trans HM1.out)
          have HR5 := hid (show Rs w5 (w.heap.size + 1 + 1) l to from (hG5.block _ HR4.out.lt (fun e => by have := hlo _ e.symm; omega)).trans HR4.out)
          have HB5 := hid (HB4.out.grown hG5 (by have := HZ4.out; omega) (fun k hk => by have := hlo _ hk; omega))
          have HO5 := hid hO5
          obtain ⟨sa2, sc2, hv2⟩ := hO5.shape
          have HLE : Hid ((toI L ++ [(v1, n1, (f : Int))]).length = L.length + 1) := by show _ = _; rw [List.length_append, toI_len]; rfl
          rw [HLE.out] at hv2
          subst hv2
          clear hG5 hO5 hlo
          refine hK.out _ _ trivial (fun hHeld => ?_)
          clear hK K
          try simp only [Act.put, List.getElem_toArray, List.getElem_cons_zero, List.getElem_cons_succ, List.setIfInBounds_toArray, List.set_cons_succ, List.set_cons_zero]
          refine wpAnyH_ready (rs := [4]) (by kernel_rfl) (by simp) ?_
          refine AllReadyH.cons rfl (fun K hK => ?_) AllReadyH.nil
          have c5 : w5.cell? ⟨w.heap.size, 0, none⟩ = some (.slice sa L.length sc) := by rw [cell_of_row _ _ _ _ _ _ HN0.out]; rfl
          have z5 : w5.frozen? ⟨w.heap.size, 0, none⟩ = false := by simp [World.frozen?, HN0.out]
          go_simp
          refine hK.out _ _ trivial (fun hHeld => ?_)
          clear hK K c5 z5
          have HX0 := hid (show (w5.setCell ⟨w.heap.size, 0, none⟩ (.slice sa2 (L.length + 1) sc2)).heap[w.heap.size]? = some (.cells #[.slice sa2 (L.length + 1) sc2] 22 (0, 0)) from blk_set HN0.out _)
          have HX1 := hid (show (w5.setCell ⟨w.heap.size, 0, none⟩ (.slice sa2 (L.length + 1) sc2)).heap[w.heap.size + 1]? = some (.cells #[.int .i64 0, .int .i64 0] 25 (0, 0)) from (hp_set _ _ _ _ _ (by omega)).trans HN1.out)
          have HX2 := hid (show Rs (w5.setCell ⟨w.heap.size, 0, none⟩ (.slice sa2 (L.length + 1) sc2)) (w.heap.size + 1 + 1) l to from (hp_set _ _ _ _ _ (by omega)).trans HR5.out)
          have HX3 := hid (HO5.out.kept (gb_set w5 ⟨w.heap.size, 0, none⟩ (.slice sa2 (L.length + 1) sc2)) (Or.inr (fun x => absurd (HO5.out.lt _ x).1 (show ¬ w.heap.size + 3 ≤ w.heap.size by omega))))
          have HX4 := hid (HB5.out.setCell (p := ⟨w.heap.size, 0, none⟩) (Nat.le_refl _) (.slice sa2 (L.length + 1) sc2))
          generalize w5.setCell ⟨w.heap.size, 0, none⟩ (.slice sa2 (L.length + 1) sc2) = w6 at *
          refine wpAnyH_done (by kernel_rfl) ?_ _
          simp only [noPanic]
          clear hHeld
          go_wp2_with fail
          refine ⟨⟨to, L ++ [(v1, n1, f)], _, FIN.out, HX2.out, HX0.out, HX1.out, by rw [toI_app]; exact HX3.out, HX4.out⟩, ?_⟩
          rw [HX2.out.rd, HRD.out]
          omega
        · skip
          go_simp
          have HWA := hid (below_walk w3 (.cells #[.string (mk v1), .string (mk n1), .int .i64 (f : Int)] 35))
          have HSR := hid (src_inc w3 (v1, n1, (f : Int)))
          have HM0 := hid ((HWA.out.block _ (hp_lt HL0.out)).trans HL0.out)
          have HM1 := hid ((HWA.out.block _ (hp_lt HL1.out)).trans HL1.out)
          have HR4 := hid (HR3.out.below HWA.out HR3.out.lt)
          have HO4 := hid (HO3.out.below HWA.out)
          have HB4 := hid (HB3.out.trans (HWA.out.mono HB3.out.size))
          have HZ4 := hid (show w.heap.size + 3 ≤ (w3.alloc (.cells #[.string (mk v1), .string (mk n1), .int .i64 (f : Int)] 35)).heap.size by rw [hp_size]; have := HZ3.out; omega)
          refine hK.out _ _ trivial (fun hHeld => ?_)
          clear hK K
          try simp only [Act.put, List.getElem_toArray, List.getElem_cons_zero, List.getElem_cons_succ, List.setIfInBounds_toArray, List.set_cons_succ, List.set_cons_zero]
          have c3 : (w3.alloc (.cells #[.string (mk v1), .string (mk n1), .int .i64 (f : Int)] 35)).cell? ⟨w.heap.size, 0, none⟩ = some (.slice sa L.length sc) := by rw [cell_of_row _ _ _ _ _ _ HM0.out]; rfl
          refine wpAnyH_ready (rs := [0]) (by kernel_rfl) (by simp) ?_
          refine AllReadyH.cons rfl (fun K hK => ?_) AllReadyH.nil
          go_simp
          refine hK.out _ _ trivial (fun hHeld => ?_)
          clear hK K c3
          try simp only [Act.put, List.getElem_toArray, List.getElem_cons_zero, List.getElem_cons_succ, List.setIfInBounds_toArray, List.set_cons_succ, List.set_cons_zero]
          refine wpAnyH_ready (rs := [3]) (by kernel_rfl) (by simp) ?_
          refine AllReadyH.cons rfl (fun K hK => ?_) AllReadyH.nil
          refine step_app_inc (by rfl) (.tmp 13) (.tmp 15) (by rfl) (w.heap.size + 3) _ (toI L) (by rfl) HO4.out w3.heap.size 1 [(v1, n1, (f : Int))] (by rfl) HSR.out (by rw [toI_len]; have := HS.out.2.1; have := HS.out.1; simp; omega) HZ4.out ?_
          generalize w3.alloc (.cells #[.string (mk v1), .string (mk n1), .int .i64 (f : Int)] 35) = w4 at *
          intro v' w5 hO5 hG5
          have hlo : ∀ k, (Value.slice sa L.length sc).ownBlock = some k → w.heap.size + 3 ≤ k := fun k hk => (HO.out.lt k hk).1
          have HN0 := hid ((hG5.block _ (hp_lt HM0.out) (fun e => by have := hlo _ e.symm; omega)).trans HM0.out)
          have HN1 := hid ((hG5.block _ (hp_lt HM1.out) (fun e => by have := hlo _ e.symm; omega)).trans HM1.out)
          have HR5 := hid (show Rs w5 (w.heap.size + 1 + 1) l to from (hG5.block _ HR4.out.lt (fun e => by have := hlo _ e.symm; omega)).trans HR4.out)
          have HB5 := hid (HB4.out.grown hG5 (by have := HZ4.out; omega) (fun k hk => by have := hlo _ hk; omega))
          have HO5 := hid hO5
          obtain ⟨sa2, sc2, hv2⟩ := hO5.shape
          have HLE : Hid ((toI L ++ [(v1, n1, (f : Int))]).length = L.length + 1) := by show _ = _; rw [List.length_append, toI_len]; rfl
          rw [HLE.out] at hv2
          subst hv2
          clear hG5 hO5 hlo
          refine hK.out _ _ trivial (fun hHeld => ?_)
          clear hK K
          try simp only [Act.put, List.getElem_toArray, List.getElem_cons_zero, List.getElem_cons_succ, List.setIfInBounds_toArray, List.set_cons_succ, List.set_cons_zero]
          refine wpAnyH_ready (rs := [4]) (by kernel_rfl) (by simp) ?_
          refine AllReadyH.cons rfl (fun K hK => ?_) AllReadyH.nil
          have c5 : w5.cell? ⟨w.heap.size, 0, none⟩ = some (.slice sa L.length sc) := by rw [cell_of_row _ _ _ _ _ _ HN0.out]; rfl
          have z5 : w5.frozen? ⟨w.heap.size, 0, none⟩ = false := by simp [World.frozen?, HN0.out]
          go_simp
          refine hK.out _ _ trivial (fun hHeld => ?_)
          clear hK K c5 z5
          have HX0 := hid (show (w5.setCell ⟨w.heap.size, 0, none⟩ (.slice sa2 (L.length + 1) sc2)).heap[w.heap.size]? = some (.cells #[.slice sa2 (L.length + 1) sc2] 22 (0, 0)) from blk_set HN0.out _)
          have HX1 := hid (show (w5.setCell ⟨w.heap.size, 0, none⟩ (.slice sa2 (L.length + 1) sc2)).heap[w.heap.size + 1]? = some (.cells #[.int .i64 0, .int .i64 0] 25 (0, 0)) from (hp_set _ _ _ _ _ (by omega)).trans HN1.out)
          have HX2 := hid (show Rs (w5.setCell ⟨w.heap.size, 0, none⟩ (.slice sa2 (L.length + 1) sc2)) (w.heap.size + 1 + 1) l to from (hp_set _ _ _ _ _ (by omega)).trans HR5.out)
          have HX3 := hid (HO5.out.kept (gb_set w5 ⟨w.heap.size, 0, none⟩ (.slice sa2 (L.length + 1) sc2)) (Or.inr (fun x => absurd (HO5.out.lt _ x).1 (show ¬ w.heap.size + 3 ≤ w.heap.size by omega))))
          have HX4 := hid (HB5.out.setCell (p := ⟨w.heap.size, 0, none⟩) (Nat.le_refl _) (.slice sa2 (L.length + 1) sc2))
          generalize w5.setCell ⟨w.heap.size, 0, none⟩ (.slice sa2 (L.length + 1) sc2) = w6 at *
          refine wpAnyH_done (by kernel_rfl) ?_ _
          simp only [noPanic]
          clear hHeld
          go_wp2_with fail
          refine ⟨⟨to, L ++ [(v1, n1, f)], _, FIN.out, HX2.out, HX0.out, HX1.out, by rw [toI_app]; exact HX3.out, HX4.out⟩, ?_⟩
          rw [HX2.out.rd, HRD.out]
          omega

end Go.Proofs.YtlpengaclkidiaaDoor

/- The program's end, Head and Names. -/
namespace Go.Proofs.YtlpengaclkidiaaDoor
open Go.RowKit

/-- includes are no more than bytes -/
theorem sc_many {l : List UInt8} (hl : l.length ≤ 65536) {L : List (List UInt8 × List UInt8 × Nat)} {to : Nat} {e : Int} {g : Nat} (h : scP l 0 = (L, to, e, g)) : L.length ≤ 65536 := by
  have key : ∀ (n a : Nat), a ≤ l.length → l.length - a = n → (scP l a).1.length ≤ l.length - a := by
    intro n
    induction n using Nat.strongRecOn with
    | _ n ih =>
      intro a ha hn
      rcases sc_view hl ha with ⟨t, e, h0, hp⟩ | ⟨k, f, x, _, _, _, hp, e, g, h0, _, hi⟩ | ⟨k, f, x, v, s, t2, h1, h2, h3, h4, hp, hi⟩
      · rw [sc_end hp h0]; simp
      · rw [sc_bad hp hi h0]; simp
      · rw [sc_step hl (by omega) (by omega) hp hi]
        have := ih (l.length - t2) (by omega) t2 h4 rfl
        unfold jnP
        split
        · simp
        · simp only [List.length_append, List.length_singleton]
          omega
  have := key l.length 0 (Nat.zero_le _) (by omega)
  rw [h] at this
  simp only at this
  omega
theorem include_ok {l : List UInt8} {a b k f m to : Nat} {v n : List UInt8} (hl : l.length ≤ 65536) (ha : a ≤ l.length) (hp : plP l 0 a = ((k, f, m), 0)) (hm : m ≤ l.length) (hi : in1 l m = (0, 0, v, n, to)) (W : World) (hT : Tabs W) (hR : Rs W b l a) :
    Calls Tryd.prog 21 #[.pointer (some ⟨b, 0, none⟩)] W fun r w' => r = .returned (.agg #[.string (mk v), .string (mk n), .int .i64 (f : Int)]) ∧ Rs w' b l to ∧ W.grownBy w' (some b) := by
  rcases in_view hl (a := m) hm with ⟨e, g, h0, hg, hi2⟩ | ⟨f1, m1, k2, f2, m2, f3, m3, k4, f4, m4, i1, i2, i3, i4, i5, i6, i7, i8, i9, p1, p2, p3, p4, j3, j1, hi2⟩
  · rw [hi] at hi2
    simp only [Prod.mk.injEq] at hi2
    exact absurd hi2.1.symm h0
  · rw [hi] at hi2
    simp only [Prod.mk.injEq, true_and] at hi2
    obtain ⟨rfl, rfl, rfl⟩ := hi2
    exact inc_ok hl ha hp hm p1 (by omega) p2 (by omega) p3 (by omega) p4 (by omega) (by omega) j3 W hT hR

set_option maxRecDepth 20000 in
set_option maxHeartbeats 1000000 in
theorem end_none (l : List UInt8) (v : Value) (w : World) (h : Incs w v []) :
    Calls Tryd.prog 25 #[.string (mk l), v] w fun r w' => r = .returned (.int .i64 0) ∧ Below w.heap.size w w' := by
  obtain ⟨ao, c, rfl⟩ := h.shape
  clear h
  go_enter Tryd.func25, Tryd.ntmps25
  go_wp2
  go_ret
  exact ⟨rfl, Below.refl _ _⟩

set_option maxRecDepth 20000 in
set_option maxHeartbeats 1000000 in
theorem end_some (l : List UInt8) (v : Value) (L : List (List UInt8 × List UInt8 × Int)) (hL : 0 < L.length) (hLm : L.length ≤ 1000000) (x : List UInt8 × List UInt8 × Nat) (to : Nat) (hx : L.getD (L.length - 1) noI = (x.1, x.2.1, (x.2.2 : Int))) (hl : l.length ≤ 65536) (hs : Lst l x to) (w : World) (hT : Tabs w) (h : Incs w v L) :
    Calls Tryd.prog 25 #[.string (mk l), v] w fun r w' => r = .returned (.int .i64 (to : Int)) ∧ Below w.heap.size w w' := by
  obtain ⟨ao, c, rfl⟩ := h.shape
  obtain ⟨g, o, rfl, hg, _, _, c2⟩ := h.at (L.length - 1) (by omega)
  rw [hx] at c2
  simp only at c2
  obtain ⟨k, m, s1, s2, s3, hp, hi⟩ := hs
  have HI := hid (fun b W hT hR => include_ok (b := b) hl (by omega) hp (by omega) hi W hT hR)
  obtain ⟨a, HAx⟩ : ∃ a, Hid (x.2.2 = a) := ⟨_, rfl⟩
  rw [HAx.out] at c2 HI
  have q0 : ¬ (L.length : Int) = 0 := by omega
  have q1 : (L.length : Int) - 1 < (L.length : Int) := by omega
  have q2 : (0 : Int) ≤ (L.length : Int) - 1 := by omega
  have HT := hid hT
  clear hT h hp hi s1 s2 hx
  go_enter Tryd.func25, Tryd.ntmps25
  go_upto_region 4 with fail
  have HB1 := hid (below_walk w (.cells #[.string (mk l), .int .i64 (a : Int)] 50))
  have HR1 : Hid (Rs (w.alloc (.cells #[.string (mk l), .int .i64 (a : Int)] 50)) w.heap.size l a) := hp_new _ _
  have hz := hp_size w (.cells #[.string (mk l), .int .i64 (a : Int)] 50)
  generalize w.alloc (.cells #[.string (mk l), .int .i64 (a : Int)] 50) = w1 at *
  go_wp2_with (go_at_call 21; refine (HI.out _ _ (HT.out.below HB1.out) HR1.out).mono ?_; rintro r w2 ⟨rfl, hr2, hg2⟩; have HG2 := hid hg2; have d1 := hr2.c1; clear hg2 hr2)
  go_ret
  exact ⟨rfl, HB1.out.grown HG2.out (by omega) (fun k hk => by injection hk with hk; omega)⟩

theorem is_last (l : List UInt8) : ((isP l).1 = [] ∧ (isP l).2.1 = 0) ∨ (l.length ≤ 65536 ∧ (isP l).1.length ≤ 65536 ∧ ∃ L' x, (isP l).1 = L' ++ [x] ∧ Lst l x (isP l).2.1) := by
  unfold isP
  by_cases hl : 65536 < l.length
  · rw [if_pos hl]; exact Or.inl ⟨rfl, rfl⟩
  · rw [if_neg hl]
    have hl : l.length ≤ 65536 := by omega
    have hf := sc_form hl (a := 0) (Nat.zero_le _)
    obtain ⟨L, to, e, g, hq⟩ : ∃ L to e g, scP l 0 = (L, to, e, g) := ⟨_, _, _, _, rfl⟩
    rw [hq] at hf ⊢
    unfold jnP at hf
    simp only at hf ⊢
    split at hf
    · simp only [Prod.mk.injEq] at hf
      exact Or.inl ⟨hf.1, hf.2.1⟩
    · simp only [Prod.mk.injEq, List.nil_append, true_and] at hf
      obtain ⟨rfl, rfl⟩ := hf
      rcases sc_last hl (a := 0) (Nat.zero_le _) L to hq with ⟨h1, h2⟩ | ⟨L', x, h1, h2⟩
      · exact Or.inl ⟨h1, h2⟩
      · refine Or.inr ⟨hl, ?_, L', x, h1, h2⟩
        exact sc_many hl hq

theorem incls_any (l : List UInt8) (w : World) (hT : Tabs w) :
    Calls Tryd.prog 8 #[.string (mk l)] w fun r w' => ∃ v, r = .returned (.tuple #[v, .agg #[.int .i64 (isP l).2.2.1, .int .i64 ((isP l).2.2.2 : Nat)]]) ∧ OwnN w' w.heap.size v (toI (isP l).1) ∧ Below w.heap.size w w' := by
  unfold isP
  by_cases hl : 65536 < l.length
  · rw [if_pos hl]; exact incls_long l hl w
  · rw [if_neg hl]; exact incls_ok l (by omega) w hT

theorem toI_last (L : List (List UInt8 × List UInt8 × Nat)) (x : List UInt8 × List UInt8 × Nat) : (toI (L ++ [x])).getD ((toI (L ++ [x])).length - 1) noI = (x.1, x.2.1, (x.2.2 : Int)) := by
  rw [toI_app, List.getD_eq_getElem?_getD, List.length_append, List.length_singleton, Nat.add_sub_cancel, List.getElem?_append_right (Nat.le_refl _), Nat.sub_self]
  rfl
/-- where the includes of a source end -/
theorem end_is (l : List UInt8) (v : Value) (w : World) (hT : Tabs w) (h : Incs w v (toI (isP l).1)) :
    Calls Tryd.prog 25 #[.string (mk l), v] w fun r w' => r = .returned (.int .i64 ((isP l).2.1 : Nat)) ∧ Below w.heap.size w w' := by
  rcases is_last l with ⟨h1, h2⟩ | ⟨hl, hm, L', x, h1, h2⟩
  · rw [h1] at h
    rw [h2]
    exact end_none l v w h
  · have hx := toI_last L' x
    have hlen : (toI (isP l).1).length = (isP l).1.length := toI_len _
    rw [← h1] at hx
    exact end_some l v _ (by rw [hlen, h1]; simp) (by omega) x _ hx hl h2 w hT h

set_option maxRecDepth 20000 in
set_option maxHeartbeats 1000000 in
theorem head_any (l : List UInt8) (w : World) (hT : Tabs w) :
    Calls Tryd.prog 11 #[.string (mk l)] w fun r w' => r = .returned (.int .i64 ((isP l).2.1 : Nat)) ∧ Below w.heap.size w w' := by
  have HI := hid (incls_any l w hT)
  have HE := hid (fun v W hT h => end_is l v W hT h)
  have HT := hid hT
  obtain ⟨e, HE1⟩ : ∃ e, Hid ((isP l).2.2.1 = e) := ⟨_, rfl⟩
  obtain ⟨g, HE2⟩ : ∃ e, Hid ((isP l).2.2.2 = e) := ⟨_, rfl⟩
  rw [HE1.out, HE2.out] at HI
  obtain ⟨to, HE3⟩ : ∃ e, Hid ((isP l).2.1 = e) := ⟨_, rfl⟩
  rw [HE3.out] at HE
  rw [HE3.out]
  obtain ⟨L, HE4⟩ : ∃ e, Hid ((isP l).1 = e) := ⟨_, rfl⟩
  rw [HE4.out] at HE HI
  clear hT
  go_enter Tryd.func11, Tryd.ntmps11
  go_wp2_with first
    | (go_at_call 8; refine HI.out.mono ?_; rintro r w2 ⟨v, rfl, ho, hb⟩; have HO := hid ho; have HB := hid hb; obtain ⟨sa, sc, hv⟩ := ho.shape; subst hv; clear ho hb)
    | (go_at_call 25; refine (HE.out _ _ (HT.out.below (HB.out.trans ((below_walk _ _).mono HB.out.size))) (HO.out.below (below_walk _ _)).incs).mono ?_; rintro r w3 ⟨rfl, hb3⟩)
  go_ret
  exact ⟨rfl, (HB.out.trans ((below_walk _ _).mono HB.out.size)).trans (hb3.mono (by rw [hp_size]; have := HB.out.size; omega))⟩

end Go.Proofs.YtlpengaclkidiaaDoor

/- Includes and faults compared; one include is found, whatever else is so. -/
namespace Go.Proofs.YtlpengaclkidiaaDoor
open Go.RowKit

theorem fault_run (a b x y : Int) (w : World) : (Op.equalIn 10000 25 (.agg #[.int .i64 a, .int .i64 b]) (.agg #[.int .i64 x, .int .i64 y])).run Tryd.prog w = .ok (a == x && b == y) w := by
  have hS : Tryd.prog.underlying 25 = some (.struct (Tryd.prog.fieldsOf 25)) := by kernel_rfl
  have hp : Tryd.prog.stoodInHeld 25 = false := by kernel_rfl
  have u3 := Tryd.underlying3
  have a3 := Tryd.isAgg3
  have z3 := Tryd.sizeOf3
  have u9 := Tryd.underlying23
  have a9 := Tryd.isAgg23
  have z9 := Tryd.sizeOf23
  rw [show (10000 : Nat) = 9999 + 1 from rfl, run_equalIn_agg w 9999 25 _ _ hS hp]
  simp only [Program.fieldsOf, Tryd.underlying25]
  go_simp
  by_cases h1 : a = x <;> by_cases h2 : b = y <;> simp [h1, h2]
theorem fault_eql (a b x y : Int) (w : World) : (binOp .eql 25 (.agg #[.int .i64 a, .int .i64 b]) (.agg #[.int .i64 x, .int .i64 y])).run Tryd.prog w = .ok (.bool (decide ((a, b) = (x, y)))) w := by
  rw [run_eql_struct, fault_run]
  have : (a == x && b == y) = decide ((a, b) = (x, y)) := by
    rw [Bool.eq_iff_iff]
    simp
  rw [this]
  rfl
theorem inc_run (s1 s2 d1 d2 : ByteArray) (k1 k2 : Int) (w : World) : (Op.equalIn 10000 35 (.agg #[.string s1, .string d1, .int .i64 k1]) (.agg #[.string s2, .string d2, .int .i64 k2])).run Tryd.prog w = .ok (s1.toList == s2.toList && d1.toList == d2.toList && k1 == k2) w := by
  have hS : Tryd.prog.underlying 35 = some (.struct (Tryd.prog.fieldsOf 35)) := by kernel_rfl
  have hp : Tryd.prog.stoodInHeld 35 = false := by kernel_rfl
  have u3 := Tryd.underlying3
  have a3 := Tryd.isAgg3
  have z3 := Tryd.sizeOf3
  have u9 := Tryd.underlying9
  have a9 := Tryd.isAgg9
  have z9 := Tryd.sizeOf9
  rw [show (10000 : Nat) = 9999 + 1 from rfl, run_equalIn_agg w 9999 35 _ _ hS hp]
  simp only [Program.fieldsOf, Tryd.underlying35]
  go_simp
  by_cases h1 : s1.toList = s2.toList <;> by_cases h2 : k1 = k2 <;> by_cases h3 : d1.toList = d2.toList <;> simp [h1, h2, h3]
theorem inc_eql (s1 s2 d1 d2 : ByteArray) (k1 k2 : Int) (w : World) : (binOp .eql 35 (.agg #[.string s1, .string d1, .int .i64 k1]) (.agg #[.string s2, .string d2, .int .i64 k2])).run Tryd.prog w = .ok (.bool (s1.toList == s2.toList && d1.toList == d2.toList && k1 == k2)) w := by
  rw [run_eql_struct, inc_run]
  rfl

theorem al_1 : isP [105, 110, 99, 108, 117, 100, 101, 32, 34, 97, 46, 109, 34, 32, 97, 115, 32, 97, 59, 32, 99, 111, 110, 115, 116] = ([([97, 46, 109], [97], 0)], 19, 0, 0) := by decide +kernel
theorem al_2 : (isP [105, 110, 99, 108, 117, 100, 101, 32, 34, 97, 34, 32, 97, 115, 32, 97, 59]).2.1 = 17 := by decide +kernel

set_option maxRecDepth 20000 in
set_option maxHeartbeats 2000000 in
theorem alive_any (w : World) (hT : Tabs w) :
    Calls Tryd.prog 13 #[] w fun e w' => e = .returned (.bool true) ∧ Below w.heap.size w w' := by
  have H1 := incls_any [105, 110, 99, 108, 117, 100, 101, 32, 34, 97, 46, 109, 34, 32, 97, 115, 32, 97, 59, 32, 99, 111, 110, 115, 116] w hT
  rw [al_1] at H1
  have H1 : Hid (Calls Tryd.prog 8 #[.string ⟨#[105, 110, 99, 108, 117, 100, 101, 32, 34, 97, 46, 109, 34, 32, 97, 115, 32, 97, 59, 32, 99, 111, 110, 115, 116]⟩] w fun e w' => ∃ v, e = .returned (.tuple #[v, .agg #[.int .i64 0, .int .i64 0]]) ∧ OwnN w' w.heap.size v [([97, 46, 109], [97], 0)] ∧ Below w.heap.size w w') := H1
  have H2 : Hid (∀ w, Tabs w → Calls Tryd.prog 11 #[.string ⟨#[105, 110, 99, 108, 117, 100, 101, 32, 34, 97, 34, 32, 97, 115, 32, 97, 59]⟩] w fun e w' => e = .returned (.int .i64 17) ∧ Below w.heap.size w w') := fun w h => by
    have := head_any [105, 110, 99, 108, 117, 100, 101, 32, 34, 97, 34, 32, 97, 115, 32, 97, 59] w h
    rw [al_2] at this
    exact this
  have n1 : ∀ W, (binOp .eql 25 (.agg #[.int .i64 0, .int .i64 0]) (.agg #[.int .i64 0, .int .i64 0])).run Tryd.prog W = .ok (.bool true) W := fun W => fault_eql 0 0 0 0 W
  have n2 : ∀ W, (binOp .eql 35 (.agg #[.string (mk [97, 46, 109]), .string (mk [97]), .int .i64 0]) (.agg #[.string ⟨#[97, 46, 109]⟩, .string ⟨#[97]⟩, .int .i64 0])).run Tryd.prog W = .ok (.bool true) W := fun W => by
    have := inc_eql (mk [97, 46, 109]) (mk [97, 46, 109]) (mk [97]) (mk [97]) 0 0 W
    rw [show ((mk [97, 46, 109]).toList == (mk [97, 46, 109]).toList && (mk [97]).toList == (mk [97]).toList && (0 : Int) == 0) = true by simp] at this
    exact this
  have HT := hid hT
  clear hT
  go_enter Tryd.func13, Tryd.ntmps13
  go_upto_region 2 with (go_at_call 8; refine H1.out.mono ?_; rintro r w2 ⟨v, rfl, ho, hb⟩; have HO := hid ho; have HB := hid hb; obtain ⟨sa, sc, hv⟩ := ho.shape; subst hv; clear ho hb)
  have HB2 := hid (HB.out.trans ((below_walk w2 (.cells #[.int .i64 0, .int .i64 0] 25)).mono HB.out.size))
  have HO2 := hid (HO.out.below (below_walk w2 (.cells #[.int .i64 0, .int .i64 0] 25))).incs
  have hf := hp_new w2 (.cells #[.int .i64 0, .int .i64 0] 25)
  have f0 : (w2.alloc (.cells #[.int .i64 0, .int .i64 0] 25)).cell? ⟨w2.heap.size, 0, none⟩ = some (.int .i64 0) := by rw [cell_of_row _ _ _ _ _ _ hf]; rfl
  have f1 : (w2.alloc (.cells #[.int .i64 0, .int .i64 0] 25)).cell? ⟨w2.heap.size, 1, none⟩ = some (.int .i64 0) := by rw [cell_of_row _ _ _ _ _ _ hf]; rfl
  generalize w2.alloc (.cells #[.int .i64 0, .int .i64 0] 25) = w3 at *
  obtain ⟨g, o, hsa, _, e0, e1, e2⟩ := HO2.out.at 0 (by decide)
  subst hsa
  have e0 : w3.cell? ⟨g, o, none⟩ = some (.string (mk [97, 46, 109])) := e0
  have e1 : w3.cell? ⟨g, o + 1, none⟩ = some (.string (mk [97])) := e1
  have e2 : w3.cell? ⟨g, o + 2, none⟩ = some (.int .i64 0) := e2
  clear hf
  go_wp2_with (go_at_call 11; refine (H2.out _ (HT.out.below HB2.out)).mono ?_; rintro r w4 ⟨rfl, hb4⟩)
  go_ret
  exact ⟨rfl, HB2.out.trans (hb4.mono HB2.out.size)⟩

end Go.Proofs.YtlpengaclkidiaaDoor

/- The program's Names. -/
namespace Go.Proofs.YtlpengaclkidiaaDoor
open Go.RowKit

def nmL (L : List (List UInt8 × List UInt8 × Int)) : List (List UInt8) := L.map (·.2.1)
theorem nmL_succ (L : List (List UInt8 × List UInt8 × Int)) (k : Nat) (hk : k < L.length) : nmL (L.take k) ++ [(L.getD k noI).2.1] = nmL (L.take (k + 1)) := by
  unfold nmL
  rw [List.take_succ_eq_append_getElem hk, List.map_append, List.getD_eq_getElem?_getD, List.getElem?_eq_getElem hk]
  rfl
theorem strs_one (w : World) (s : List UInt8) : Strs (w.alloc (.cells #[.string (mk s)] 9)) (.slice (some ⟨w.heap.size, 0, none⟩) 1 1) [s] :=
  Or.inr ⟨w.heap.size, 0, 1, rfl, by rw [hp_size]; omega, by simp, fun j hj => by
    obtain rfl : j = 0 := by simp at hj; omega
    rw [Nat.zero_add, cell_of_row _ _ _ _ _ _ (hp_new _ _)]; rfl⟩

set_option maxRecDepth 20000 in
set_option maxHeartbeats 2000000 in
theorem names_any (v : Value) (L : List (List UInt8 × List UInt8 × Int)) (hn : L.length ≤ 8796093022207) (hs : ∀ x ∈ L, x.2.1.length ≤ 140737488355328) (w : World) (h : Incs w v L) :
    Calls Tryd.prog 12 #[v] w fun r w' => ∃ v', r = .returned v' ∧ OwnS w' w.heap.size v' (nmL L) ∧ Below w.heap.size w w' := by
  obtain ⟨ao, c, rfl⟩ := h.shape
  have HI := hid h
  have HSZ := hid hs
  obtain ⟨i0, hi, hz0, hz1, hz2⟩ := info_parts Tryd.infoStr
  clear h hs
  go_enter Tryd.func12, Tryd.ntmps12
  go_upto_region 2 with (refine wpList_make_own w (by rfl) _ _ 32 (by rfl) w.heap.size 9 i0 (.string ⟨#[]⟩) 1 Tryd.underlying32 hi hz0 hz1 .i64 .i64 (L.length : Int) L.length (by rfl) (by rfl) rfl (by rw [hz2]; omega) (by unfold maxLen; omega) (Nat.le_refl _) ?_; intro w2 ho2 hg2)
  have HO2 : Hid (OwnS w2 w.heap.size (.slice (some ⟨w.heap.size, 0, none⟩) 0 L.length) (nmL (L.take 0))) := hid (by rw [List.take_zero]; exact ho2)
  have HB2 := hid (gb_below hg2)
  clear ho2 hg2 hi hz0 hz1 hz2
  go_wp2
  go_loopw [3, 11] (fun vl i wr => ∃ (k : Nat), i = .int .i64 k ∧ k ≤ L.length ∧ OwnS wr w.heap.size vl (nmL (L.take k)) ∧ Below w.heap.size w wr) (fun _ i _ => L.length - (intOf i).toNat)
  case atStart => exact ⟨0, rfl, Nat.zero_le _, HO2.out, HB2.out⟩
  case round =>
    obtain ⟨k, rfl, hk, ho, hb⟩ := hrel
    by_cases hlt : k < L.length
    · have q1 : (k : Int) < (L.length : Int) := by omega
      have HB := hid hb
      have HO := hid ho
      have HIr := hid (HI.out.below hb)
      obtain ⟨g, o, rfl, hg, e0, e1, e2⟩ := HIr.out.at k hlt
      have HNM := hid (nmL_succ L k hlt)
      have hnl : (L.getD k noI).2.1.length ≤ 140737488355328 := HSZ.out _ (by rw [List.getD_eq_getElem?_getD, List.getElem?_eq_getElem hlt]; exact List.getElem_mem hlt)
      obtain ⟨⟨x, y, z⟩, HX⟩ : ∃ t, Hid (L.getD k noI = t) := ⟨_, rfl⟩
      rw [HX.out] at e0 e1 e2 HNM hnl
      have HC := hid (sclone_any (mk y) (by rw [mk_size]; simp only at hnl; omega))
      have hle : (nmL (L.take k)).length ≤ 8796093022206 := by unfold nmL; rw [List.length_map, List.length_take]; omega
      obtain ⟨ts, HTS⟩ : ∃ ts, Hid (nmL (L.take k) = ts) := ⟨_, rfl⟩
      rw [HTS.out] at HNM HO hle
      clear hb ho hg hnl
      go_wp2_with first
        | (go_at_call 26; refine (HC.out _).mono ?_; rintro r w3 ⟨rfl, hb3⟩; have HB3 := hid (((below_walk wr (.cells #[.string (mk x), .string (mk y), .int .i64 z] 35)).trans (hb3.mono (by rw [hp_size]; omega)))); clear hb3)
        | (refine app_text (by rfl) (.tmp 15) (.tmp 19) (by rfl) w.heap.size _ ts (by rfl) ((HO.out.below HB3.out).below (below_walk _ _)) [y] _ (by rfl) (strs_one w3 y) (by simp; omega) (by rw [hp_size]; have := HB.out.size; have := HB3.out.size; omega) ?_
           intro v' w4 ho4 hg4 hpl
           have HO4 := hid ho4
           have HB4 := hid ((((HB.out.trans (HB3.out.mono HB.out.size)).alloc (by have := HB.out.size; have := HB3.out.size; omega) (.cells #[.string (mk y)] 9))).grown hg4 (by rw [hp_size]; have := HB.out.size; have := HB3.out.size; omega) (fun q hq => (HO.out.lt q hq).1))
           clear ho4 hg4 hpl)
      exact ⟨⟨k + 1, by simp, by omega, by rw [← HNM.out]; exact HO4.out, HB4.out⟩, by simp [intOf]; omega⟩
    · have q1 : ¬ (k : Int) < (L.length : Int) := by omega
      obtain rfl : k = L.length := by omega
      rw [List.take_length] at ho
      have HO := hid ho
      have HB := hid hb
      clear ho hb
      go_wp2
      go_ret
      exact ⟨_, rfl, HO.out, HB.out⟩

end Go.Proofs.YtlpengaclkidiaaDoor

/- The document's signs, halves. -/
namespace Go.Proofs.YtlpengaclkidiaaDoor
open Go.RowKit

theorem hp_new2 (w : World) (o p : Obj) : ((w.alloc o).alloc p).heap[w.heap.size + 1]? = some p := by
  have := hp_new (w.alloc o) p
  rwa [hp_size] at this
theorem sg2_cells : (strV sg2).toArray = #[.string ⟨#[61, 61]⟩, .string ⟨#[33, 61]⟩, .string ⟨#[60, 61]⟩, .string ⟨#[62, 61]⟩, .string ⟨#[43, 43]⟩, .string ⟨#[38, 38]⟩, .string ⟨#[124, 124]⟩] := rfl
theorem sg1_cells : (strV sg1).toArray = #[.string ⟨#[40]⟩, .string ⟨#[41]⟩, .string ⟨#[123]⟩, .string ⟨#[125]⟩, .string ⟨#[44]⟩, .string ⟨#[59]⟩, .string ⟨#[58]⟩, .string ⟨#[46]⟩, .string ⟨#[61]⟩, .string ⟨#[60]⟩, .string ⟨#[62]⟩, .string ⟨#[43]⟩, .string ⟨#[45]⟩, .string ⟨#[42]⟩, .string ⟨#[47]⟩, .string ⟨#[37]⟩, .string ⟨#[33]⟩, .string ⟨#[35]⟩] := rfl

set_option maxHeartbeats 2000000 in
theorem rsign_any (l : List UInt8) (a : Nat) (ha : a < l.length) (hl : l.length ≤ 140737488355328) (w : World) :
    Calls Tryd.prog 97 #[.string (mk l), .int .i64 (a : Nat)] w fun e w' => e = .returned (.int .i64 (sgP (l.drop a) : Nat)) ∧ Below w.heap.size w w' := by
  have hsz := mk_size l
  have s1 := sl_mid l a (a + 1) (by omega) ha
  rw [show a + 1 - a = 1 by omega, show ((a + 1 : Nat) : Int) = (a : Int) + 1 by omega] at s1
  have H2 : Hid (∀ w g, w.heap[g]? = some (.cells (strV sg2).toArray 9 (0, 0)) → Calls Tryd.prog 83 #[.slice (some ⟨g, 0, none⟩) 7 7, .string (mk ((l.drop a).take 2))] w fun e w' => e = .returned (.bool (amP sg2 ((l.drop a).take 2))) ∧ w' = w) := fun w g hg => among_any sg2 _ g (by decide) w hg
  have H1 : Hid (∀ w g, w.heap[g]? = some (.cells (strV sg1).toArray 9 (0, 0)) → Calls Tryd.prog 83 #[.slice (some ⟨g, 0, none⟩) 18 18, .string (mk ((l.drop a).take 1))] w fun e w' => e = .returned (.bool (amP sg1 ((l.drop a).take 1))) ∧ w' = w) := fun w g hg => among_any sg1 _ g (by decide) w hg
  rw [sg1_cells] at H1
  rw [sg2_cells] at H2
  by_cases h2 : (l.drop a).take 2 ∈ sg2
  · have hlen := sg2_len h2
    rw [List.length_take, List.length_drop] at hlen
    have HR : Hid (sgP (l.drop a) = 2) := by show sgP _ = _; unfold sgP; rw [if_pos h2]
    rw [show amP sg2 ((l.drop a).take 2) = true from decide_eq_true h2] at H2
    have s2 := sl_mid l a (a + 2) (by omega) (by omega)
    rw [show a + 2 - a = 2 by omega, show ((a + 2 : Nat) : Int) = (a : Int) + 2 by omega] at s2
    have q1 : (a : Int) + 2 ≤ (l.length : Int) := by omega
    clear h2 hlen
    go_enter Tryd.func97, Tryd.ntmps97
    go_wp2_with (go_at_call 83; with_reducible refine (H2.out _ _ (hp_new _ _)).mono ?_; rintro e w' ⟨rfl, rfl⟩)
    go_ret
    exact ⟨ret_i (by rw [HR.out]; rfl), below_walk _ _⟩
  · rw [show amP sg2 ((l.drop a).take 2) = false from decide_eq_false h2] at H2
    by_cases h1 : (l.drop a).take 1 ∈ sg1
    · have HR : Hid (sgP (l.drop a) = 1) := by show sgP _ = _; unfold sgP; rw [if_neg h2, if_pos h1]
      rw [show amP sg1 ((l.drop a).take 1) = true from decide_eq_true h1] at H1
      clear h1 h2
      by_cases hl2 : a + 2 ≤ l.length
      · have q1 : (a : Int) + 2 ≤ (l.length : Int) := by omega
        have s2 := sl_mid l a (a + 2) (by omega) (by omega)
        rw [show a + 2 - a = 2 by omega, show ((a + 2 : Nat) : Int) = (a : Int) + 2 by omega] at s2
        go_enter Tryd.func97, Tryd.ntmps97
        go_wp2_with first
          | (go_at_call 83; with_reducible refine (H2.out _ _ (hp_new _ _)).mono ?_; clear H2; rintro e w' ⟨rfl, rfl⟩)
          | (go_at_call 83; with_reducible refine (H1.out _ _ (hp_new2 _ _ _)).mono ?_; rintro e w' ⟨rfl, rfl⟩)
        go_ret
        exact ⟨ret_i (by rw [HR.out]; rfl), below_walk2 _ _ _⟩
      · have q1 : ¬ (a : Int) + 2 ≤ (l.length : Int) := by omega
        go_enter Tryd.func97, Tryd.ntmps97
        go_wp2_with (go_at_call 83; with_reducible refine (H1.out _ _ (hp_new _ _)).mono ?_; rintro e w' ⟨rfl, rfl⟩)
        go_ret
        exact ⟨ret_i (by rw [HR.out]; rfl), below_walk _ _⟩
    · have HR : Hid (sgP (l.drop a) = 0) := by show sgP _ = _; unfold sgP; rw [if_neg h2, if_neg h1]
      rw [show amP sg1 ((l.drop a).take 1) = false from decide_eq_false h1] at H1
      clear h1 h2
      by_cases hl2 : a + 2 ≤ l.length
      · have q1 : (a : Int) + 2 ≤ (l.length : Int) := by omega
        have s2 := sl_mid l a (a + 2) (by omega) (by omega)
        rw [show a + 2 - a = 2 by omega, show ((a + 2 : Nat) : Int) = (a : Int) + 2 by omega] at s2
        go_enter Tryd.func97, Tryd.ntmps97
        go_wp2_with first
          | (go_at_call 83; with_reducible refine (H2.out _ _ (hp_new _ _)).mono ?_; clear H2; rintro e w' ⟨rfl, rfl⟩)
          | (go_at_call 83; with_reducible refine (H1.out _ _ (hp_new2 _ _ _)).mono ?_; rintro e w' ⟨rfl, rfl⟩)
        go_ret
        exact ⟨ret_i (by rw [HR.out]; rfl), below_walk2 _ _ _⟩
      · have q1 : ¬ (a : Int) + 2 ≤ (l.length : Int) := by omega
        go_enter Tryd.func97, Tryd.ntmps97
        go_wp2_with (go_at_call 83; with_reducible refine (H1.out _ _ (hp_new _ _)).mono ?_; rintro e w' ⟨rfl, rfl⟩)
        go_ret
        exact ⟨ret_i (by rw [HR.out]; rfl), below_walk _ _⟩

end Go.Proofs.YtlpengaclkidiaaDoor

/- The document's token: what it answers; the end, texts, signs. -/
namespace Go.Proofs.YtlpengaclkidiaaDoor
open Go.RowKit

/-- what the document's token answers -/
def rtP (l : List UInt8) (a : Nat) : (Nat × Nat × Nat) × Int :=
  if (tokP (l.drop a)).2.2 ≠ 0 then ((0, a, 0), (tokP (l.drop a)).2.2) else (((tokP (l.drop a)).1, a, a + (tokP (l.drop a)).2.1), 0)
theorem rt_ok {l : List UInt8} {a k n : Nat} (h : tokP (l.drop a) = (k, n, 0)) : rtP l a = ((k, a, a + n), 0) := by unfold rtP; rw [h, if_neg (by simp)]
theorem rt_bad {l : List UInt8} {a k n : Nat} {e : Int} (h : tokP (l.drop a) = (k, n, e)) (he : e ≠ 0) : rtP l a = ((0, a, 0), e) := by unfold rtP; rw [h, if_pos he]
def RtPost (l : List UInt8) (a : Nat) (w : World) (e : Ending) (w' : World) : Prop := e = .returned (.tuple #[.agg (tkC (rtP l a).1).toArray, .int .i64 (rtP l a).2]) ∧ Below w.heap.size w w'

set_option maxRecDepth 20000 in
set_option maxHeartbeats 2000000 in
theorem rtok_end (l : List UInt8) (a : Nat) (ha : a = l.length) (w : World) :
    Calls Tryd.prog 68 #[.string (mk l), .int .i64 (a : Nat)] w (RtPost l a w) := by
  have hsz := mk_size l
  obtain ⟨d, hu, hd⟩ := Tryd.rowTok
  have HR := hid (rt_ok (l := l) (a := a) (k := 0) (n := 0) (by rw [List.drop_eq_nil_of_le (by omega)]; rfl))
  subst ha
  unfold RtPost
  go_enter Tryd.func68, Tryd.ntmps68
  go_wp2_with (refine st_row (by rfl) 79 (.tmp 4) (.tmp 19) (by rfl) _ (tkC (0, l.length, l.length)) (by rfl) (by simp [Act.eval, tkC]) 79 _ (by exact hp_new _ _) (by exact Tryd.infoTok) (by rfl) (tkC_one _) ?_; intro w5 hw5)
  refine ret_row2 4 5 79 rfl _ rfl _ _ hw5.blk d hu hd Tryd.infoTok _ rfl rfl ⟨?_, below_rs hw5 (below_walk _ _) (Nat.le_refl _)⟩
  rw [HR.out]
  rfl

set_option maxRecDepth 20000 in
set_option maxHeartbeats 4000000 in
theorem rtok_text (l : List UInt8) (a : Nat) (ha : a < l.length) (hl : l.length ≤ 65536) (h1 : ltB (l.getD a 0) = false) (h2 : dgB (l.getD a 0) = false) (h3 : l.getD a 0 = 34) (w : World) :
    Calls Tryd.prog 68 #[.string (mk l), .int .i64 (a : Nat)] w (RtPost l a w) := by
  have hsz := mk_size l
  obtain ⟨d, hu, hd⟩ := Tryd.rowTok
  have hdl : (l.drop a).length = l.length - a := List.length_drop
  have hd0 := drop_getD l a 0
  rw [Nat.add_zero] at hd0
  have q1 : ¬ (a : Int) = (l.length : Int) := by omega
  have q9 : ((a : Int) == (l.length : Int)) = false := by simpa using q1
  have i0 := at_mk l a ha
  have H1 := hid (rletter_any ((l.getD a 0).toNat : Nat))
  have H2 := hid (rdigit_any ((l.getD a 0).toNat : Nat))
  obtain ⟨z, HZ⟩ : ∃ z : UInt8, Hid (l.getD a 0 = z) := ⟨_, rfl⟩
  rw [HZ.out] at i0 hd0 H1 H2
  rw [HZ.out] at h1 h2 h3
  subst h3
  have i0 : ∀ W, (Instr.index 9 (.string (mk l)) (.int .i64 (a : Int))).run Tryd.prog W = .ok (.int .u8 34) W := i0
  rw [show ltI ((UInt8.toNat 34 : Nat) : Int) = false from by decide] at H1
  rw [show dgI ((UInt8.toNat 34 : Nat) : Int) = false from by decide] at H2
  have HK : tokP (l.drop a) = tqP (l.drop a) := by unfold tokP; rw [if_neg (by omega), hd0, if_neg (by decide), if_neg (by decide), if_pos rfl]
  have H3 := hid (quoted_any l a ha (by omega))
  have hdd : (l.drop a).drop 1 = l.drop (a + 1) := by rw [List.drop_drop]
  unfold RtPost
  unfold tqP at HK
  rw [hdd] at HK
  cases htx : txP (l.drop (a + 1)) with
  | none =>
    rw [htx] at HK
    have HR := hid (rt_bad HK (by decide))
    have HQ : quV l a = .tuple #[.string ⟨#[]⟩, .int .i64 (-1)] := by unfold quV; rw [htx]
    rw [HQ] at H3
    clear HK htx HQ hdd h1 h2 hd0 hdl
    go_enter Tryd.func68, Tryd.ntmps68
    go_wp2_with first
      | (go_at_call 81; refine (H1.out _).mono ?_; rintro e w' ⟨rfl, rfl⟩)
      | (go_at_call 82; refine (H2.out _).mono ?_; rintro e w' ⟨rfl, rfl⟩)
      | (go_at_call 44; refine (H3.out _).mono ?_; rintro e w4 ⟨rfl, hb4⟩)
      | (refine st_row (by rfl) 79 (.tmp 4) (.tmp 116) (by rfl) _ (tkC (0, a, 0)) (by rfl) (by simp [Act.eval, tkC]) 79 _ (by exact (by rw [hb4.block _ (by rw [hp_size]; omega)]; exact hp_new _ _ : w4.heap[w.heap.size]? = some (.cells #[.int .i64 0, .int .i64 0, .int .i64 0] 79 (0, 0)))) (by exact Tryd.infoTok) (by rfl) (tkC_one _) ?_; intro w5 hw5)
    refine ret_row2 4 5 79 rfl _ rfl _ _ hw5.blk d hu hd Tryd.infoTok _ rfl rfl ⟨?_, below_rs hw5 ((below_walk _ _).trans (hb4.mono (by rw [hp_size]; omega))) (Nat.le_refl _)⟩
    rw [HR.out]
    rfl
  | some r =>
    rw [htx] at HK
    simp only at HK
    have hle := txP_le (v := r.1) (m := r.2) htx
    rw [List.length_drop] at hle
    by_cases h4 : r.1.length ≤ 4096
    · rw [if_pos h4] at HK
      have HR := hid (rt_ok HK)
      have HQ : quV l a = .tuple #[.string (mk r.1), .int .i64 ((a + 1 + r.2 : Nat) : Int)] := by unfold quV; rw [htx]; simp only; rw [if_neg (by omega)]
      rw [HQ] at H3
      obtain ⟨m, HM⟩ : ∃ m, Hid (a + 1 + r.2 = m) := ⟨_, rfl⟩
      rw [HM.out] at H3
      rw [show a + (r.2 + 1) = m by have := HM.out; omega] at HR
      clear HK htx HQ hdd h1 h2 hd0 hdl hle h4
      go_enter Tryd.func68, Tryd.ntmps68
      go_wp2_with first
        | (go_at_call 81; refine (H1.out _).mono ?_; rintro e w' ⟨rfl, rfl⟩)
        | (go_at_call 82; refine (H2.out _).mono ?_; rintro e w' ⟨rfl, rfl⟩)
        | (go_at_call 44; refine (H3.out _).mono ?_; rintro e w4 ⟨rfl, hb4⟩)
        | (refine st_row (by rfl) 79 (.tmp 4) (.tmp 119) (by rfl) _ (tkC (3, a, m)) (by rfl) (by simp [Act.eval, tkC]) 79 _ (by exact (by rw [hb4.block _ (by rw [hp_size]; omega)]; exact hp_new _ _ : w4.heap[w.heap.size]? = some (.cells #[.int .i64 0, .int .i64 0, .int .i64 0] 79 (0, 0)))) (by exact Tryd.infoTok) (by rfl) (tkC_one _) ?_; intro w5 hw5)
      refine ret_row2 4 5 79 rfl _ rfl _ _ hw5.blk d hu hd Tryd.infoTok _ rfl rfl ⟨?_, below_rs hw5 ((below_walk _ _).trans (hb4.mono (by rw [hp_size]; omega))) (Nat.le_refl _)⟩
      rw [HR.out]
      rfl
    · rw [if_neg h4] at HK
      have HR := hid (rt_bad HK (by decide))
      have HQ : quV l a = .tuple #[.string ⟨#[]⟩, .int .i64 (-1)] := by unfold quV; rw [htx]; simp only; rw [if_pos (by omega)]
      rw [HQ] at H3
      clear HK htx HQ hdd h1 h2 hd0 hdl hle h4
      go_enter Tryd.func68, Tryd.ntmps68
      go_wp2_with first
        | (go_at_call 81; refine (H1.out _).mono ?_; rintro e w' ⟨rfl, rfl⟩)
        | (go_at_call 82; refine (H2.out _).mono ?_; rintro e w' ⟨rfl, rfl⟩)
        | (go_at_call 44; refine (H3.out _).mono ?_; rintro e w4 ⟨rfl, hb4⟩)
        | (refine st_row (by rfl) 79 (.tmp 4) (.tmp 116) (by rfl) _ (tkC (0, a, 0)) (by rfl) (by simp [Act.eval, tkC]) 79 _ (by exact (by rw [hb4.block _ (by rw [hp_size]; omega)]; exact hp_new _ _ : w4.heap[w.heap.size]? = some (.cells #[.int .i64 0, .int .i64 0, .int .i64 0] 79 (0, 0)))) (by exact Tryd.infoTok) (by rfl) (tkC_one _) ?_; intro w5 hw5)
      refine ret_row2 4 5 79 rfl _ rfl _ _ hw5.blk d hu hd Tryd.infoTok _ rfl rfl ⟨?_, below_rs hw5 ((below_walk _ _).trans (hb4.mono (by rw [hp_size]; omega))) (Nat.le_refl _)⟩
      rw [HR.out]
      rfl

set_option maxRecDepth 20000 in
set_option maxHeartbeats 4000000 in
theorem rtok_sign (l : List UInt8) (a : Nat) (ha : a < l.length) (hl : l.length ≤ 65536) (h1 : ltB (l.getD a 0) = false) (h2 : dgB (l.getD a 0) = false) (h3 : ¬ l.getD a 0 = 34) (w : World) :
    Calls Tryd.prog 68 #[.string (mk l), .int .i64 (a : Nat)] w (RtPost l a w) := by
  have hsz := mk_size l
  obtain ⟨d, hu, hd⟩ := Tryd.rowTok
  have hdl : (l.drop a).length = l.length - a := List.length_drop
  have hd0 := drop_getD l a 0
  rw [Nat.add_zero] at hd0
  have q1 : ¬ (a : Int) = (l.length : Int) := by omega
  have q9 : ((a : Int) == (l.length : Int)) = false := by simpa using q1
  have i0 := at_mk l a ha
  have H1 := hid (rletter_any ((l.getD a 0).toNat : Nat))
  have H2 := hid (rdigit_any ((l.getD a 0).toNat : Nat))
  obtain ⟨z, HZ⟩ : ∃ z : UInt8, Hid (l.getD a 0 = z) := ⟨_, rfl⟩
  rw [HZ.out] at i0 hd0 H1 H2
  rw [HZ.out] at h1 h2 h3
  rw [show ltI (z.toNat : Nat) = false from h1] at H1
  rw [show dgI (z.toNat : Nat) = false from h2] at H2
  have HK : tokP (l.drop a) = sqP (l.drop a) := by unfold tokP; rw [if_neg (by omega), hd0, if_neg (by rw [h1]; decide), if_neg (by rw [h2]; decide), if_neg h3]
  have H3 := hid (rsign_any l a ha (by omega))
  have n4 : ¬ (z.toNat : Int) = 34 := fun e => h3 ((u8_eq (n := 34) (by omega)).1 e)
  unfold RtPost
  unfold sqP at HK
  have hsl := sgP_len (l.drop a)
  obtain ⟨n, HN⟩ : ∃ n, Hid (sgP (l.drop a) = n) := ⟨_, rfl⟩
  rw [HN.out] at H3 HK hsl
  by_cases hn : n = 0
  · rw [if_pos hn] at HK
    subst hn
    have HR := hid (rt_bad HK (by decide))
    clear HK h1 h2 h3 hd0 hdl hsl
    go_enter Tryd.func68, Tryd.ntmps68
    go_wp2_with first
      | (go_at_call 81; refine (H1.out _).mono ?_; rintro e w' ⟨rfl, rfl⟩)
      | (go_at_call 82; refine (H2.out _).mono ?_; rintro e w' ⟨rfl, rfl⟩)
      | (go_at_call 97; refine (H3.out _).mono ?_; rintro e w4 ⟨rfl, hb4⟩)
      | (refine st_row (by rfl) 79 (.tmp 4) (.tmp 126) (by rfl) _ (tkC (0, a, 0)) (by rfl) (by simp [Act.eval, tkC]) 79 _ (by exact (by rw [hb4.block _ (by rw [hp_size]; omega)]; exact hp_new _ _ : w4.heap[w.heap.size]? = some (.cells #[.int .i64 0, .int .i64 0, .int .i64 0] 79 (0, 0)))) (by exact Tryd.infoTok) (by rfl) (tkC_one _) ?_; intro w5 hw5)
    refine ret_row2 4 5 79 rfl _ rfl _ _ hw5.blk d hu hd Tryd.infoTok _ rfl rfl ⟨?_, below_rs hw5 ((below_walk _ _).trans (hb4.mono (by rw [hp_size]; omega))) (Nat.le_refl _)⟩
    rw [HR.out]
    rfl
  · rw [if_neg hn] at HK
    have HR := hid (rt_ok HK)
    have q5 : ¬ (n : Int) = 0 := by omega
    have q6 : (a : Int) + (n : Int) ≤ 65536 := by omega
    clear HK h1 h2 h3 hd0 hdl hsl hn
    go_enter Tryd.func68, Tryd.ntmps68
    go_wp2_with first
      | (go_at_call 81; refine (H1.out _).mono ?_; rintro e w' ⟨rfl, rfl⟩)
      | (go_at_call 82; refine (H2.out _).mono ?_; rintro e w' ⟨rfl, rfl⟩)
      | (go_at_call 97; refine (H3.out _).mono ?_; rintro e w4 ⟨rfl, hb4⟩)
      | (refine st_row (by rfl) 79 (.tmp 4) (.tmp 131) (by rfl) _ (tkC (5, a, a + n)) (by rfl) (by simp [Act.eval, tkC]) 79 _ (by exact (by rw [hb4.block _ (by rw [hp_size]; omega)]; exact hp_new _ _ : w4.heap[w.heap.size]? = some (.cells #[.int .i64 0, .int .i64 0, .int .i64 0] 79 (0, 0)))) (by exact Tryd.infoTok) (by rfl) (tkC_one _) ?_; intro w5 hw5)
    refine ret_row2 4 5 79 rfl _ rfl _ _ hw5.blk d hu hd Tryd.infoTok _ rfl rfl ⟨?_, below_rs hw5 ((below_walk _ _).trans (hb4.mono (by rw [hp_size]; omega))) (Nat.le_refl _)⟩
    rw [HR.out]
    rfl

end Go.Proofs.YtlpengaclkidiaaDoor

/- The document's token: words. -/
namespace Go.Proofs.YtlpengaclkidiaaDoor
open Go.RowKit

set_option maxRecDepth 20000 in
set_option maxHeartbeats 4000000 in
theorem rtok_word (l : List UInt8) (a : Nat) (ha : a < l.length) (hl : l.length ≤ 65536) (h1 : ltB (l.getD a 0) = true) (w : World) :
    Calls Tryd.prog 68 #[.string (mk l), .int .i64 (a : Nat)] w (RtPost l a w) := by
  have hsz := mk_size l
  obtain ⟨d, hu, hd⟩ := Tryd.rowTok
  have hdl : (l.drop a).length = l.length - a := List.length_drop
  have hd0 := drop_getD l a 0
  rw [Nat.add_zero] at hd0
  have q1 : ¬ (a : Int) = (l.length : Int) := by omega
  have q9 : ((a : Int) == (l.length : Int)) = false := by simpa using q1
  have i0 := at_mk l a ha
  have H1 := hid (rletter_any ((l.getD a 0).toNat : Nat))
  have H2 := hid (rdigit_any ((l.getD a 0).toNat : Nat))
  obtain ⟨z, HZ⟩ : ∃ z : UInt8, Hid (l.getD a 0 = z) := ⟨_, rfl⟩
  rw [HZ.out] at i0 hd0 H1 H2
  rw [HZ.out] at h1
  rw [show ltI (z.toNat : Nat) = true from h1] at H1
  have HK : tokP (l.drop a) = wdP (l.drop a) := by unfold tokP; rw [if_neg (by omega), hd0, if_pos h1]
  have HKK := hid HK
  have HDL := hid hdl
  unfold RtPost
  clear h1 hd0 hdl HK
  go_enter Tryd.func68, Tryd.ntmps68
  go_wp2_with (go_at_call 81; refine (H1.out _).mono ?_; rintro e w' ⟨rfl, rfl⟩)
  clear H1
  go_loop [6] (fun i => ∃ k : Nat, i = .int .i64 ((a + k : Nat) : Int) ∧ Tw wdB (l.drop a) k) (fun i => l.length - (intOf i).toNat)
  case atStart => exact ⟨0, rfl, Tw.zero _ _⟩
  case round =>
    obtain ⟨k, rfl, HT⟩ := hrel
    have HT : Hid (Tw wdB (l.drop a) k) := HT
    have hk := HT.out.1
    have hkl : a + k ≤ l.length := by have := HDL.out; omega
    obtain ⟨m, hm⟩ : ∃ m, a + k = m := ⟨_, rfl⟩
    have hma : m - a = k := by omega
    rw [hm] at hkl ⊢
    have q8 : (m : Int) - (a : Int) = (k : Int) := by omega
    have fin : twN wdB (l.drop a) = k → Hid (tokP (l.drop a) = if 32 < k then (0, 0, 123) else if (l.drop a).take k ∈ kyL then (4, k, 0) else (1, k, 0)) := fun e => by
      show tokP _ = _
      rw [HKK.out]
      unfold wdP; rw [e]
    have s1 := sl_mid l a m (by omega) hkl
    rw [hma] at s1
    have HKY := hid (rkey_any ((l.drop a).take k))
    have HM := hid hm
    have hgd : (l.drop a).getD k 0 = l.getD m 0 := by rw [drop_getD, hm]
    clear hm hma
    by_cases hlt : m < l.length
    · have q2 : (m : Int) < (l.length : Int) := by omega
      have i1 := at_mk l m hlt
      obtain ⟨c, HC⟩ : ∃ c : UInt8, Hid (l.getD m 0 = c) := ⟨_, rfl⟩
      rw [HC.out] at i1 hgd
      have HGD := hid hgd
      clear hgd
      have H4 := hid (rletter_any (c.toNat : Nat))
      have H5 := hid (rdigit_any (c.toNat : Nat))
      by_cases hb : wdB c = true
      · have hb' : ltI (c.toNat : Nat) = true ∨ (ltI (c.toNat : Nat) = false ∧ dgI (c.toNat : Nat) = true) := by
          unfold wdB ltB dgB at hb
          cases e : ltI (c.toNat : Nat) with
          | true => exact Or.inl rfl
          | false => rw [e] at hb; exact Or.inr ⟨rfl, by simpa using hb⟩
        have HN := hid (HT.out.more (by have := HDL.out; have := HM.out; omega) HGD.out hb)
        clear hb fin
        rcases hb' with hb1 | ⟨hb1, hb2⟩
        · rw [hb1] at H4
          clear hb1
          go_wp2_with (go_at_call 81; refine (H4.out _).mono ?_; rintro e w' ⟨rfl, rfl⟩)
          exact ⟨⟨k + 1, by have := HM.out; simp; omega, HN.out⟩, by simp [intOf]; omega⟩
        · rw [hb1] at H4
          rw [hb2] at H5
          clear hb1 hb2
          go_wp2_with first
            | (go_at_call 81; refine (H4.out _).mono ?_; rintro e w' ⟨rfl, rfl⟩)
            | (go_at_call 82; refine (H5.out _).mono ?_; rintro e w' ⟨rfl, rfl⟩)
          exact ⟨⟨k + 1, by have := HM.out; simp; omega, HN.out⟩, by simp [intOf]; omega⟩
      · have hb : wdB c = false := by simpa using hb
        have FIN := fin (HT.out.stop HGD.out hb)
        rw [show ltI (c.toNat : Nat) = false from (wd_or hb).1] at H4
        rw [show dgI (c.toNat : Nat) = false from (wd_or hb).2] at H5
        clear hb fin
        by_cases h32 : 32 < k
        · have FIN : tokP (l.drop a) = (0, 0, 123) := by have := FIN.out; rw [if_pos h32] at this; exact this
          have HR := hid (rt_bad FIN (by decide))
          have q3 : (32 : Int) < (k : Int) := by omega
          clear FIN
          as_aux_lemma =>
            go_wp2_with first
              | (go_at_call 81; refine (H4.out _).mono ?_; rintro e w' ⟨rfl, rfl⟩)
                | (go_at_call 82; refine (H5.out _).mono ?_; rintro e w' ⟨rfl, rfl⟩)
              | (refine st_row (by rfl) 79 (.tmp 4) (.tmp 50) (by rfl) _ (tkC (0, a, 0)) (by rfl) (by simp [Act.eval, tkC]) 79 _ (by exact hp_new _ _) (by exact Tryd.infoTok) (by rfl) (tkC_one _) ?_; intro w5 hw5)
            refine ret_row2 4 5 79 rfl _ rfl _ _ hw5.blk d hu hd Tryd.infoTok _ rfl rfl ⟨?_, below_rs hw5 (below_walk _ _) (Nat.le_refl _)⟩
            rw [HR.out]
            rfl
        · have q3 : ¬ (32 : Int) < (k : Int) := by omega
          by_cases hm : (l.drop a).take k ∈ kyL
          · have FIN : tokP (l.drop a) = (4, k, 0) := by have := FIN.out; rw [if_neg h32, if_pos hm] at this; exact this
            have HR := hid (rt_ok FIN)
            rw [HM.out] at HR
            rw [show amP kyL ((l.drop a).take k) = true from decide_eq_true hm] at HKY
            clear FIN hm
            as_aux_lemma =>
              go_wp2_with first
                | (go_at_call 81; refine (H4.out _).mono ?_; rintro e w' ⟨rfl, rfl⟩)
                | (go_at_call 82; refine (H5.out _).mono ?_; rintro e w' ⟨rfl, rfl⟩)
                | (go_at_call 59; refine (HKY.out _).mono ?_; rintro e w4 ⟨rfl, hb4⟩)
                | (refine st_row (by rfl) 79 (.tmp 4) (.tmp 58) (by rfl) _ (tkC (4, a, m)) (by rfl) (by simp [Act.eval, tkC]) 79 _ (by exact (by rw [hb4.block _ (by rw [hp_size]; omega)]; exact hp_new _ _ : w4.heap[w.heap.size]? = some (.cells #[.int .i64 0, .int .i64 0, .int .i64 0] 79 (0, 0)))) (by exact Tryd.infoTok) (by rfl) (tkC_one _) ?_; intro w5 hw5)
              refine ret_row2 4 5 79 rfl _ rfl _ _ hw5.blk d hu hd Tryd.infoTok _ rfl rfl ⟨?_, below_rs hw5 ((below_walk _ _).trans (hb4.mono (by rw [hp_size]; omega))) (Nat.le_refl _)⟩
              rw [HR.out]
              rfl
          · have FIN : tokP (l.drop a) = (1, k, 0) := by have := FIN.out; rw [if_neg h32, if_neg hm] at this; exact this
            have HR := hid (rt_ok FIN)
            rw [HM.out] at HR
            rw [show amP kyL ((l.drop a).take k) = false from decide_eq_false hm] at HKY
            clear FIN hm
            as_aux_lemma =>
              go_wp2_with first
                | (go_at_call 81; refine (H4.out _).mono ?_; rintro e w' ⟨rfl, rfl⟩)
                | (go_at_call 82; refine (H5.out _).mono ?_; rintro e w' ⟨rfl, rfl⟩)
                | (go_at_call 59; refine (HKY.out _).mono ?_; rintro e w4 ⟨rfl, hb4⟩)
                | (refine st_row (by rfl) 79 (.tmp 4) (.tmp 61) (by rfl) _ (tkC (1, a, m)) (by rfl) (by simp [Act.eval, tkC]) 79 _ (by exact (by rw [hb4.block _ (by rw [hp_size]; omega)]; exact hp_new _ _ : w4.heap[w.heap.size]? = some (.cells #[.int .i64 0, .int .i64 0, .int .i64 0] 79 (0, 0)))) (by exact Tryd.infoTok) (by rfl) (tkC_one _) ?_; intro w5 hw5)
              refine ret_row2 4 5 79 rfl _ rfl _ _ hw5.blk d hu hd Tryd.infoTok _ rfl rfl ⟨?_, below_rs hw5 ((below_walk _ _).trans (hb4.mono (by rw [hp_size]; omega))) (Nat.le_refl _)⟩
              rw [HR.out]
              rfl
    · have q2 : ¬ (m : Int) < (l.length : Int) := by omega
      have FIN := fin (by
        have e := HDL.out
        have e2 := HM.out
        have e3 : (l.drop a).length = k := by omega
        have e4 := HT.out
        rw [← e3] at e4 ⊢
        exact e4.all)
      clear fin hgd
      by_cases h32 : 32 < k
      · have FIN : tokP (l.drop a) = (0, 0, 123) := by have := FIN.out; rw [if_pos h32] at this; exact this
        have HR := hid (rt_bad FIN (by decide))
        have q3 : (32 : Int) < (k : Int) := by omega
        clear FIN
        as_aux_lemma =>
          go_wp2_with first
            | (refine st_row (by rfl) 79 (.tmp 4) (.tmp 50) (by rfl) _ (tkC (0, a, 0)) (by rfl) (by simp [Act.eval, tkC]) 79 _ (by exact hp_new _ _) (by exact Tryd.infoTok) (by rfl) (tkC_one _) ?_; intro w5 hw5)
          refine ret_row2 4 5 79 rfl _ rfl _ _ hw5.blk d hu hd Tryd.infoTok _ rfl rfl ⟨?_, below_rs hw5 (below_walk _ _) (Nat.le_refl _)⟩
          rw [HR.out]
          rfl
      · have q3 : ¬ (32 : Int) < (k : Int) := by omega
        by_cases hm : (l.drop a).take k ∈ kyL
        · have FIN : tokP (l.drop a) = (4, k, 0) := by have := FIN.out; rw [if_neg h32, if_pos hm] at this; exact this
          have HR := hid (rt_ok FIN)
          rw [HM.out] at HR
          rw [show amP kyL ((l.drop a).take k) = true from decide_eq_true hm] at HKY
          clear FIN hm
          as_aux_lemma =>
            go_wp2_with first
              | (go_at_call 59; refine (HKY.out _).mono ?_; rintro e w4 ⟨rfl, hb4⟩)
              | (refine st_row (by rfl) 79 (.tmp 4) (.tmp 58) (by rfl) _ (tkC (4, a, m)) (by rfl) (by simp [Act.eval, tkC]) 79 _ (by exact (by rw [hb4.block _ (by rw [hp_size]; omega)]; exact hp_new _ _ : w4.heap[w.heap.size]? = some (.cells #[.int .i64 0, .int .i64 0, .int .i64 0] 79 (0, 0)))) (by exact Tryd.infoTok) (by rfl) (tkC_one _) ?_; intro w5 hw5)
            refine ret_row2 4 5 79 rfl _ rfl _ _ hw5.blk d hu hd Tryd.infoTok _ rfl rfl ⟨?_, below_rs hw5 ((below_walk _ _).trans (hb4.mono (by rw [hp_size]; omega))) (Nat.le_refl _)⟩
            rw [HR.out]
            rfl
        · have FIN : tokP (l.drop a) = (1, k, 0) := by have := FIN.out; rw [if_neg h32, if_neg hm] at this; exact this
          have HR := hid (rt_ok FIN)
          rw [HM.out] at HR
          rw [show amP kyL ((l.drop a).take k) = false from decide_eq_false hm] at HKY
          clear FIN hm
          as_aux_lemma =>
            go_wp2_with first
              | (go_at_call 59; refine (HKY.out _).mono ?_; rintro e w4 ⟨rfl, hb4⟩)
              | (refine st_row (by rfl) 79 (.tmp 4) (.tmp 61) (by rfl) _ (tkC (1, a, m)) (by rfl) (by simp [Act.eval, tkC]) 79 _ (by exact (by rw [hb4.block _ (by rw [hp_size]; omega)]; exact hp_new _ _ : w4.heap[w.heap.size]? = some (.cells #[.int .i64 0, .int .i64 0, .int .i64 0] 79 (0, 0)))) (by exact Tryd.infoTok) (by rfl) (tkC_one _) ?_; intro w5 hw5)
            refine ret_row2 4 5 79 rfl _ rfl _ _ hw5.blk d hu hd Tryd.infoTok _ rfl rfl ⟨?_, below_rs hw5 ((below_walk _ _).trans (hb4.mono (by rw [hp_size]; omega))) (Nat.le_refl _)⟩
            rw [HR.out]
            rfl

end Go.Proofs.YtlpengaclkidiaaDoor

/- The document's token: numbers. -/
namespace Go.Proofs.YtlpengaclkidiaaDoor
open Go.RowKit

set_option maxRecDepth 20000 in
set_option maxHeartbeats 4000000 in
theorem rtok_num (l : List UInt8) (a : Nat) (ha : a < l.length) (hl : l.length ≤ 65536) (h1 : ltB (l.getD a 0) = false) (h2 : dgB (l.getD a 0) = true) (w : World) :
    Calls Tryd.prog 68 #[.string (mk l), .int .i64 (a : Nat)] w (RtPost l a w) := by
  have hsz := mk_size l
  obtain ⟨d, hu, hd⟩ := Tryd.rowTok
  have hdl : (l.drop a).length = l.length - a := List.length_drop
  have hd0 := drop_getD l a 0
  rw [Nat.add_zero] at hd0
  have q1 : ¬ (a : Int) = (l.length : Int) := by omega
  have q9 : ((a : Int) == (l.length : Int)) = false := by simpa using q1
  have i0 := at_mk l a ha
  have H1 := hid (rletter_any ((l.getD a 0).toNat : Nat))
  have H2 := hid (rdigit_any ((l.getD a 0).toNat : Nat))
  obtain ⟨z, HZ⟩ : ∃ z : UInt8, Hid (l.getD a 0 = z) := ⟨_, rfl⟩
  rw [HZ.out] at i0 hd0 H1 H2
  rw [HZ.out] at h1 h2
  rw [show ltI (z.toNat : Nat) = false from h1] at H1
  rw [show dgI (z.toNat : Nat) = true from h2] at H2
  have HK : tokP (l.drop a) = nuP (l.drop a) := by unfold tokP; rw [if_neg (by omega), hd0, if_neg (by rw [h1]; decide), if_pos h2]
  have HKK := hid HK
  have HDL := hid hdl
  have HD0 := hid hd0
  have HZD := hid h2
  unfold RtPost
  clear h1 h2 hd0 hdl HK
  go_enter Tryd.func68, Tryd.ntmps68
  go_wp2_with first
    | (go_at_call 81; refine (H1.out _).mono ?_; rintro e w' ⟨rfl, rfl⟩)
    | (go_at_call 82; refine (H2.out _).mono ?_; rintro e w' ⟨rfl, rfl⟩)
  clear H1 H2
  go_loop [6] (fun i => ∃ k : Nat, i = .int .i64 ((a + k : Nat) : Int) ∧ Tw dgB (l.drop a) k) (fun i => l.length - (intOf i).toNat)
  case atStart => exact ⟨0, rfl, Tw.zero _ _⟩
  case round =>
    obtain ⟨k, rfl, HT⟩ := hrel
    have HT : Hid (Tw dgB (l.drop a) k) := HT
    have hk := HT.out.1
    have hkl : a + k ≤ l.length := by have := HDL.out; omega
    obtain ⟨m, hm⟩ : ∃ m, a + k = m := ⟨_, rfl⟩
    have hma : m - a = k := by omega
    rw [hm] at hkl ⊢
    have s1 := sl_mid l a m (by omega) hkl
    rw [hma] at s1
    have HNU := hid (rnumber_any ((l.drop a).take k) (by rw [List.length_take]; have := HDL.out; omega))
    have HM := hid hm
    have hgd : (l.drop a).getD k 0 = l.getD m 0 := by rw [drop_getD, hm]
    clear hm hma
    have keyf : twN dgB (l.drop a) = k → 1 ≤ k := fun e => by
      rw [← e]
      have hne : 0 < (l.drop a).length := by have := HDL.out; omega
      cases hx : l.drop a with
      | nil => rw [hx] at hne; simp at hne
      | cons c t =>
        have hc : c = z := by have := HD0.out; rw [hx] at this; exact this
        rw [twN_cons (by rw [hc]; exact HZD.out)]
        omega
    have nuk : twN dgB (l.drop a) = k → (NuOk ((l.drop a).take k) ↔ ¬ (((l.drop a).getD 0 0 = 48 ∧ 1 < k) ∨ 9223372036854775807 < valP ((l.drop a).take k))) := fun e => by
      have h1 := keyf e
      have hlen : ((l.drop a).take k).length = k := by rw [List.length_take]; omega
      have h0 : ((l.drop a).take k).getD 0 0 = (l.drop a).getD 0 0 := by
        simp only [List.getD_eq_getElem?_getD]; rw [List.getElem?_take_of_lt (by omega)]
      unfold NuOk
      rw [hlen, h0]
      constructor
      · rintro ⟨_, b, _, d⟩ (x | x)
        · exact b ⟨x.2, x.1⟩
        · omega
      · intro h
        exact ⟨by omega, fun x => h (Or.inl ⟨x.2, x.1⟩), dgs_take HT.out, by have : ¬ 9223372036854775807 < valP ((l.drop a).take k) := fun x => h (Or.inr x); omega⟩
    by_cases hlt : m < l.length
    · have q2 : (m : Int) < (l.length : Int) := by omega
      have i1 := at_mk l m hlt
      obtain ⟨c, HC⟩ : ∃ c : UInt8, Hid (l.getD m 0 = c) := ⟨_, rfl⟩
      rw [HC.out] at i1 hgd
      have HGD := hid hgd
      clear hgd
      have H4 := hid (rletter_any (c.toNat : Nat))
      have H5 := hid (rdigit_any (c.toNat : Nat))
      cases hb : dgI (c.toNat : Nat) with
      | true =>
        rw [hb] at H5
        have HN := hid (HT.out.more (by have := HDL.out; have := HM.out; omega) HGD.out hb)
        clear hb keyf nuk
        go_wp2_with (go_at_call 82; refine (H5.out _).mono ?_; rintro e w' ⟨rfl, rfl⟩)
        exact ⟨⟨k + 1, by have := HM.out; simp; omega, HN.out⟩, by simp [intOf]; omega⟩
      | false =>
        rw [hb] at H5
        have he := HT.out.stop HGD.out (show dgB c = false from hb)
        have NUK := nuk he
        have FIN : tokP (l.drop a) = if ((l.drop a).getD 0 0 = 48 ∧ 1 < k) ∨ ltB c = true ∨ 9223372036854775807 < valP ((l.drop a).take k) then (0, 0, 121) else (2, k, 0) := by
          rw [HKK.out]; unfold nuP; rw [he, HGD.out]
        clear hb keyf nuk he
        by_cases hok : NuOk ((l.drop a).take k)
        · have hno := NUK.1 hok
          rw [rn_ok hok] at HNU
          obtain ⟨v, HV⟩ : ∃ v, Hid (valP ((l.drop a).take k) = v) := ⟨_, rfl⟩
          rw [HV.out] at HNU
          cases hb : ltI (c.toNat : Nat) with
          | true =>
            rw [hb] at H4
            rw [if_pos (Or.inr (Or.inl (show ltB c = true from hb)))] at FIN
            have HR := hid (rt_bad FIN (by decide))
            clear FIN NUK hok hno hb
            as_aux_lemma =>
              go_wp2_with first
                | (go_at_call 82; refine (H5.out _).mono ?_; rintro e w' ⟨rfl, rfl⟩)
                | (go_at_call 81; refine (H4.out _).mono ?_; rintro e w' ⟨rfl, rfl⟩)
                | (go_at_call 96; refine (HNU.out _).mono ?_; rintro e w' ⟨rfl, rfl⟩)
                | (refine st_row (by rfl) 79 (.tmp 4) (.tmp 100) (by rfl) _ (tkC (0, a, 0)) (by rfl) (by simp [Act.eval, tkC]) 79 _ (by exact hp_new _ _) (by exact Tryd.infoTok) (by rfl) (tkC_one _) ?_; intro w5 hw5)
              refine ret_row2 4 5 79 rfl _ rfl _ _ hw5.blk d hu hd Tryd.infoTok _ rfl rfl ⟨?_, below_rs hw5 (below_walk _ _) (Nat.le_refl _)⟩
              rw [HR.out]
              rfl
          | false =>
            rw [hb] at H4
            rw [if_neg (by rintro (x | x | x); exact hno (Or.inl x); unfold ltB at x; rw [hb] at x; cases x; exact hno (Or.inr x))] at FIN
            have HR := hid (rt_ok FIN)
            rw [HM.out] at HR
            clear FIN NUK hok hno hb
            as_aux_lemma =>
              go_wp2_with first
                | (go_at_call 82; refine (H5.out _).mono ?_; rintro e w' ⟨rfl, rfl⟩)
                | (go_at_call 81; refine (H4.out _).mono ?_; rintro e w' ⟨rfl, rfl⟩)
                | (go_at_call 96; refine (HNU.out _).mono ?_; rintro e w' ⟨rfl, rfl⟩)
                | (refine st_row (by rfl) 79 (.tmp 4) (.tmp 103) (by rfl) _ (tkC (2, a, m)) (by rfl) (by simp [Act.eval, tkC]) 79 _ (by exact hp_new _ _) (by exact Tryd.infoTok) (by rfl) (tkC_one _) ?_; intro w5 hw5)
              refine ret_row2 4 5 79 rfl _ rfl _ _ hw5.blk d hu hd Tryd.infoTok _ rfl rfl ⟨?_, below_rs hw5 (below_walk _ _) (Nat.le_refl _)⟩
              rw [HR.out]
              rfl
        · rw [rn_bad hok] at HNU
          have hyes : ((l.drop a).getD 0 0 = 48 ∧ 1 < k) ∨ 9223372036854775807 < valP ((l.drop a).take k) := Classical.byContradiction (fun h => hok (NUK.2 h))
          rw [if_pos (by rcases hyes with x | x; exact Or.inl x; exact Or.inr (Or.inr x))] at FIN
          have HR := hid (rt_bad FIN (by decide))
          clear FIN NUK hok hyes
          as_aux_lemma =>
            go_wp2_with first
              | (go_at_call 82; refine (H5.out _).mono ?_; rintro e w' ⟨rfl, rfl⟩)
              | (go_at_call 96; refine (HNU.out _).mono ?_; rintro e w' ⟨rfl, rfl⟩)
              | (refine st_row (by rfl) 79 (.tmp 4) (.tmp 100) (by rfl) _ (tkC (0, a, 0)) (by rfl) (by simp [Act.eval, tkC]) 79 _ (by exact hp_new _ _) (by exact Tryd.infoTok) (by rfl) (tkC_one _) ?_; intro w5 hw5)
            refine ret_row2 4 5 79 rfl _ rfl _ _ hw5.blk d hu hd Tryd.infoTok _ rfl rfl ⟨?_, below_rs hw5 (below_walk _ _) (Nat.le_refl _)⟩
            rw [HR.out]
            rfl
    · have q2 : ¬ (m : Int) < (l.length : Int) := by omega
      have he : twN dgB (l.drop a) = k := by
        have e := HDL.out
        have e2 := HM.out
        have e3 : (l.drop a).length = k := by omega
        have e4 := HT.out
        rw [← e3] at e4 ⊢
        exact e4.all
      have NUK := nuk he
      have hz0 : l.getD m 0 = 0 := by rw [List.getD_eq_getElem?_getD, List.getElem?_eq_none (by omega)]; rfl
      have FIN : tokP (l.drop a) = if ((l.drop a).getD 0 0 = 48 ∧ 1 < k) ∨ ltB 0 = true ∨ 9223372036854775807 < valP ((l.drop a).take k) then (0, 0, 121) else (2, k, 0) := by
        rw [HKK.out]; unfold nuP; rw [he, hgd, hz0]
      clear keyf nuk he hz0 hgd
      by_cases hok : NuOk ((l.drop a).take k)
      · have hno := NUK.1 hok
        rw [rn_ok hok] at HNU
        obtain ⟨v, HV⟩ : ∃ v, Hid (valP ((l.drop a).take k) = v) := ⟨_, rfl⟩
        rw [HV.out] at HNU
        rw [if_neg (by rintro (x | x | x); exact hno (Or.inl x); revert x; decide; exact hno (Or.inr x))] at FIN
        have HR := hid (rt_ok FIN)
        rw [HM.out] at HR
        clear FIN NUK hok hno
        as_aux_lemma =>
          go_wp2_with first
            | (go_at_call 96; refine (HNU.out _).mono ?_; rintro e w' ⟨rfl, rfl⟩)
            | (refine st_row (by rfl) 79 (.tmp 4) (.tmp 103) (by rfl) _ (tkC (2, a, m)) (by rfl) (by simp [Act.eval, tkC]) 79 _ (by exact hp_new _ _) (by exact Tryd.infoTok) (by rfl) (tkC_one _) ?_; intro w5 hw5)
          refine ret_row2 4 5 79 rfl _ rfl _ _ hw5.blk d hu hd Tryd.infoTok _ rfl rfl ⟨?_, below_rs hw5 (below_walk _ _) (Nat.le_refl _)⟩
          rw [HR.out]
          rfl
      · rw [rn_bad hok] at HNU
        have hyes : ((l.drop a).getD 0 0 = 48 ∧ 1 < k) ∨ 9223372036854775807 < valP ((l.drop a).take k) := Classical.byContradiction (fun h => hok (NUK.2 h))
        rw [if_pos (by rcases hyes with x | x; exact Or.inl x; exact Or.inr (Or.inr x))] at FIN
        have HR := hid (rt_bad FIN (by decide))
        clear FIN NUK hok hyes
        as_aux_lemma =>
          go_wp2_with first
            | (go_at_call 96; refine (HNU.out _).mono ?_; rintro e w' ⟨rfl, rfl⟩)
            | (refine st_row (by rfl) 79 (.tmp 4) (.tmp 100) (by rfl) _ (tkC (0, a, 0)) (by rfl) (by simp [Act.eval, tkC]) 79 _ (by exact hp_new _ _) (by exact Tryd.infoTok) (by rfl) (tkC_one _) ?_; intro w5 hw5)
          refine ret_row2 4 5 79 rfl _ rfl _ _ hw5.blk d hu hd Tryd.infoTok _ rfl rfl ⟨?_, below_rs hw5 (below_walk _ _) (Nat.le_refl _)⟩
          rw [HR.out]
          rfl

end Go.Proofs.YtlpengaclkidiaaDoor

/- The document's gap. -/
namespace Go.Proofs.YtlpengaclkidiaaDoor
open Go.RowKit

theorem drop_one {l : List UInt8} {a : Nat} (h : a < l.length) : l.drop a = l.getD a 0 :: l.drop (a + 1) := by
  rw [List.drop_eq_getElem_cons h]
  simp [List.getD_eq_getElem?_getD, h]
theorem gn_blank {l : List UInt8} {a : Nat} (h : a < l.length) (hb : bkB (l.getD a 0) = true) : gapN false (l.drop a) = gapN false (l.drop (a + 1)) + 1 := by
  rw [drop_one h, gapN, if_pos hb]
theorem gn_rem {l : List UInt8} {a : Nat} (h : a + 1 < l.length) (h1 : l.getD a 0 = 47) (h2 : l.getD (a + 1) 0 = 47) : gapN false (l.drop a) = gapN true (l.drop a) := by
  rw [drop_one (by omega : a < l.length), gapN, h1, if_neg (by decide), if_pos ⟨rfl, by rw [drop_one h, h2]; rfl⟩, gapN, if_neg (by decide)]
theorem gn_in {l : List UInt8} {a : Nat} (h : a < l.length) (h1 : ¬ l.getD a 0 = 10) : gapN true (l.drop a) = gapN true (l.drop (a + 1)) + 1 := by
  rw [drop_one h, gapN, if_neg h1]
theorem gn_nl {l : List UInt8} {a : Nat} (h : a < l.length) (h1 : l.getD a 0 = 10) : gapN true (l.drop a) = gapN false (l.drop a) := by
  have e1 : gapN true (10 :: l.drop (a + 1)) = gapN false (l.drop (a + 1)) + 1 := by rw [gapN, if_pos rfl]
  have e2 : gapN false (10 :: l.drop (a + 1)) = gapN false (l.drop (a + 1)) + 1 := by rw [gapN, if_pos (by decide)]
  rw [drop_one h, h1, e1, e2]
theorem gn_end {l : List UInt8} {a : Nat} (h : ¬ a < l.length) : gapN true (l.drop a) = gapN false (l.drop a) ∧ gapN false (l.drop a) = 0 := by
  rw [List.drop_eq_nil_of_le (by omega)]
  exact ⟨rfl, rfl⟩
theorem gn_stop {l : List UInt8} {a : Nat} (h : a < l.length) (hb : bkB (l.getD a 0) = false) (h2 : ¬ (l.getD a 0 = 47 ∧ a + 1 < l.length ∧ l.getD (a + 1) 0 = 47)) : gapN false (l.drop a) = 0 := by
  rw [drop_one h, gapN, if_neg (by rw [hb]; decide), if_neg]
  rintro ⟨e1, e2⟩
  refine h2 ⟨e1, ?_⟩
  rw [head_drop] at e2
  exact getD_some e2
/-- a gap gone so far, within a remark or not -/
def Gq (l : List UInt8) (a0 : Nat) (b : Bool) (a : Nat) : Prop := a0 ≤ a ∧ a ≤ l.length ∧ frP l a0 = a + gapN b (l.drop a)

set_option maxHeartbeats 4000000 in
theorem rgap_any (l : List UInt8) (a0 : Nat) (ha : a0 ≤ l.length) (hl : l.length ≤ 140737488355328) (w : World) :
    Calls Tryd.prog 69 #[.string (mk l), .int .i64 (a0 : Nat)] w fun e w' => e = .returned (.int .i64 (frP l a0 : Nat)) ∧ w' = w := by
  have hsz := mk_size l
  go_enter Tryd.func69, Tryd.ntmps69
  go_wp2
  go_loop [1] (fun i => ∃ a : Nat, i = .int .i64 a ∧ Gq l a0 false a) (fun i => l.length - (intOf i).toNat)
  case atStart => exact ⟨a0, rfl, Nat.le_refl _, ha, rfl⟩
  case round =>
    obtain ⟨a, rfl, HG⟩ := hrel
    have HG : Hid (Gq l a0 false a) := HG
    have hal := HG.out.2.1
    by_cases hlt : a < l.length
    · have q1 : (a : Int) < (l.length : Int) := by omega
      have i1 := at_mk l a hlt
      obtain ⟨c, HC⟩ : ∃ c : UInt8, Hid (l.getD a 0 = c) := ⟨_, rfl⟩
      rw [HC.out] at i1
      by_cases hb : bkB c = true
      · have hb' : (c.toNat : Int) = 32 ∨ (¬ (c.toNat : Int) = 32 ∧ (c.toNat : Int) = 9) ∨ (¬ (c.toNat : Int) = 32 ∧ ¬ (c.toNat : Int) = 9 ∧ (c.toNat : Int) = 10) ∨ (¬ (c.toNat : Int) = 32 ∧ ¬ (c.toNat : Int) = 9 ∧ ¬ (c.toNat : Int) = 10 ∧ (c.toNat : Int) = 13) := by
          unfold bkB bkI at hb
          have := of_decide_eq_true hb
          omega
        have HN : Hid (Gq l a0 false (a + 1)) := ⟨by have := HG.out.1; omega, hlt, by have := HG.out.2.2; have := gn_blank hlt (by rw [HC.out]; exact hb); omega⟩
        clear hb
        rcases hb' with e | ⟨_, e⟩ | ⟨_, _, e⟩ | ⟨_, _, _, e⟩
        all_goals rw [e] at i1
        all_goals clear e
        all_goals go_wp2
        all_goals exact ⟨⟨a + 1, by simp, HN.out⟩, by simp [intOf]; omega⟩
      · have hb : bkB c = false := by simpa using hb
        have hnb : ¬ (c.toNat : Int) = 32 ∧ ¬ (c.toNat : Int) = 9 ∧ ¬ (c.toNat : Int) = 10 ∧ ¬ (c.toNat : Int) = 13 := by
          unfold bkB bkI at hb
          have := of_decide_eq_false hb
          omega
        obtain ⟨n1, n2, n3, n4⟩ := hnb
        have HBF := hid hb
        clear hb
        by_cases hr : c = 47 ∧ a + 1 < l.length ∧ l.getD (a + 1) 0 = 47
        · obtain ⟨rfl, r2, r3⟩ := hr
          have i2 := at_mk l (a + 1) r2
          rw [r3, show ((a + 1 : Nat) : Int) = (a : Int) + 1 by omega] at i2
          have i1 : ∀ W, (Instr.index 9 (.string (mk l)) (.int .i64 (a : Int))).run Tryd.prog W = .ok (.int .u8 47) W := i1
          have i2 : ∀ W, (Instr.index 9 (.string (mk l)) (.int .i64 ((a : Int) + 1))).run Tryd.prog W = .ok (.int .u8 47) W := i2
          have q2 : (a : Int) + 1 < (l.length : Int) := by omega
          have HS : Hid (Gq l a0 true a) := ⟨HG.out.1, hal, by have := HG.out.2.2; rw [gn_rem r2 HC.out r3] at this; exact this⟩
          clear r3 n1 n2 n3 n4
          go_wp2
          go_loop [1] (fun i => ∃ b : Nat, i = .int .i64 b ∧ Gq l a0 true b ∧ (b = a ∨ a < b)) (fun i => l.length - (intOf i).toNat)
          case atStart => exact ⟨a, rfl, HS.out, Or.inl rfl⟩
          case round =>
            obtain ⟨b, rfl, HH, hab⟩ := hrel
            have HH : Hid (Gq l a0 true b) := HH
            have hbl := HH.out.2.1
            by_cases hltb : b < l.length
            · have q3 : (b : Int) < (l.length : Int) := by omega
              have i3 := at_mk l b hltb
              obtain ⟨d, HD⟩ : ∃ d : UInt8, Hid (l.getD b 0 = d) := ⟨_, rfl⟩
              rw [HD.out] at i3
              by_cases h10 : d = 10
              · have HX : Hid (Gq l a0 false b) := ⟨HH.out.1, hbl, by have := HH.out.2.2; rw [gn_nl hltb (by rw [HD.out]; exact h10)] at this; exact this⟩
                have hab2 : a < b := by
                  rcases hab with e | e
                  · exfalso
                    have e1 := HC.out
                    have e2 := HD.out
                    rw [e, e1, h10] at e2
                    exact absurd e2 (by decide)
                  · exact e
                subst h10
                have i3 : ∀ W, (Instr.index 9 (.string (mk l)) (.int .i64 (b : Int))).run Tryd.prog W = .ok (.int .u8 10) W := i3
                clear i1 i2 q1 q2
                go_wp2
                exact ⟨⟨b, rfl, HX.out⟩, by simp [intOf]; omega⟩
              · have n5 : ¬ (d.toNat : Int) = 10 := fun e => h10 ((u8_eq (n := 10) (by omega)).1 e)
                have HX : Hid (Gq l a0 true (b + 1)) := ⟨by have := HH.out.1; omega, hltb, by have := HH.out.2.2; have := gn_in hltb (by rw [HD.out]; exact h10); omega⟩
                clear h10 i1 i2 q1 q2
                go_wp2
                exact ⟨⟨b + 1, by simp, HX.out, by omega⟩, by simp [intOf]; omega⟩
            · have q3 : ¬ (b : Int) < (l.length : Int) := by omega
              have HX : Hid (Gq l a0 false b) := ⟨HH.out.1, hbl, by have := HH.out.2.2; rw [(gn_end hltb).1] at this; exact this⟩
              clear i1 i2 q1 q2
              go_wp2
              exact ⟨⟨b, rfl, HX.out⟩, by simp [intOf]; omega⟩
        · have HF : Hid (frP l a0 = a) := by
            have e1 := HG.out.2.2
            rw [gn_stop hlt (by rw [HC.out]; exact HBF.out) (by rw [HC.out]; exact hr)] at e1
            exact e1
          by_cases h47 : c = 47
          · subst h47
            have i1 : ∀ W, (Instr.index 9 (.string (mk l)) (.int .i64 (a : Int))).run Tryd.prog W = .ok (.int .u8 47) W := i1
            clear n1 n2 n3 n4
            by_cases hl2 : a + 1 < l.length
            · have q2 : (a : Int) + 1 < (l.length : Int) := by omega
              have i2 := at_mk l (a + 1) hl2
              obtain ⟨d, HD⟩ : ∃ d : UInt8, Hid (l.getD (a + 1) 0 = d) := ⟨_, rfl⟩
              rw [HD.out, show ((a + 1 : Nat) : Int) = (a : Int) + 1 by omega] at i2
              have n6 : ¬ (d.toNat : Int) = 47 := fun e => hr ⟨rfl, hl2, by rw [HD.out]; exact (u8_eq (n := 47) (by omega)).1 e⟩
              clear hr
              go_wp2
              go_ret
              exact ⟨ret_i (by rw [HF.out]), rfl⟩
            · have q2 : ¬ (a : Int) + 1 < (l.length : Int) := by omega
              clear hr
              go_wp2
              go_ret
              exact ⟨ret_i (by rw [HF.out]), rfl⟩
          · have n7 : ¬ (c.toNat : Int) = 47 := fun e => h47 ((u8_eq (n := 47) (by omega)).1 e)
            clear hr h47
            go_wp2
            · rename_i hx
              exfalso
              simp [n1, n2, n3, n4] at hx
            · go_ret
              exact ⟨ret_i (by rw [HF.out]), rfl⟩
    · have q1 : ¬ (a : Int) < (l.length : Int) := by omega
      have HF : Hid (frP l a0 = a) := by have e1 := HG.out.2.2; rw [(gn_end hlt).2] at e1; exact e1
      go_wp2
      go_ret
      exact ⟨ret_i (by rw [HF.out]), rfl⟩

end Go.Proofs.YtlpengaclkidiaaDoor

/- The document's Next, and LexNexts. -/
namespace Go.Proofs.YtlpengaclkidiaaDoor
open Go.RowKit

theorem rtoken_any (l : List UInt8) (a : Nat) (ha : a ≤ l.length) (hl : l.length ≤ 65536) (w : World) :
    Calls Tryd.prog 68 #[.string (mk l), .int .i64 (a : Nat)] w (RtPost l a w) := by
  by_cases he : a = l.length
  · exact rtok_end l a he w
  · have hlt : a < l.length := by omega
    cases h1 : ltB (l.getD a 0) with
    | true => exact rtok_word l a hlt hl h1 w
    | false =>
      cases h2 : dgB (l.getD a 0) with
      | true => exact rtok_num l a hlt hl h1 h2 w
      | false =>
        by_cases h3 : l.getD a 0 = 34
        · exact rtok_text l a hlt hl h1 h2 h3 w
        · exact rtok_sign l a hlt hl h1 h2 h3 w

set_option maxRecDepth 20000 in
set_option maxHeartbeats 2000000 in
theorem rnext_any (l : List UInt8) (hl : l.length ≤ 140737488355328) (a : Int) (w : World) :
    Calls Tryd.prog 43 #[.string (mk l), .int .i64 a] w fun e w' => e = .returned (.tuple #[.agg (tkC (nxP l a).1).toArray, .int .i64 (nxP l a).2]) ∧ Below w.heap.size w w' := by
  have hsz := mk_size l
  obtain ⟨d, hu, hd⟩ := Tryd.rowTok
  by_cases hlong : 65536 < l.length
  · have hp : plN l a = 3 := by unfold plN; rw [if_pos hlong]
    have HR : Hid (nxP l a = ((0, 0, 0), 3)) := by show nxP l a = _; unfold nxP; rw [hp, if_pos (by decide)]
    have q1 : (65536 : Int) < (l.length : Int) := by omega
    clear hp
    go_enter Tryd.func43, Tryd.ntmps43
    go_wp2_with (refine st_row (by rfl) 79 (.tmp 4) (.tmp 9) (by rfl) _ (tkC (0, 0, 0)) (by rfl) (by rfl) 79 _ (by exact hp_new _ _) (by exact Tryd.infoTok) (by rfl) (tkC_one _) ?_; intro w5 hw5)
    refine ret_row2 4 5 79 rfl _ rfl _ _ hw5.blk d hu hd Tryd.infoTok _ rfl rfl ⟨?_, below_rs hw5 (below_walk _ _) (Nat.le_refl _)⟩
    rw [HR.out]
    rfl
  · have q1 : ¬ (65536 : Int) < (l.length : Int) := by omega
    by_cases ha : a < 0 ∨ (l.length : Int) < a
    · have hp : plN l a = 1 := by unfold plN; rw [if_neg hlong, if_pos ha]
      have HR : Hid (nxP l a = ((0, 0, 0), 1)) := by show nxP l a = _; unfold nxP; rw [hp, if_pos (by decide)]
      have hq : a < 0 ∨ (¬ a < 0 ∧ (l.length : Int) < a) := by omega
      clear hp ha
      go_enter Tryd.func43, Tryd.ntmps43
      rcases hq with q2 | ⟨q2, q3⟩
      · go_wp2_with (refine st_row (by rfl) 79 (.tmp 4) (.tmp 18) (by rfl) _ (tkC (0, 0, 0)) (by rfl) (by rfl) 79 _ (by exact hp_new _ _) (by exact Tryd.infoTok) (by rfl) (tkC_one _) ?_; intro w5 hw5)
        refine ret_row2 4 5 79 rfl _ rfl _ _ hw5.blk d hu hd Tryd.infoTok _ rfl rfl ⟨?_, below_rs hw5 (below_walk _ _) (Nat.le_refl _)⟩
        rw [HR.out]
        rfl
      · go_wp2_with (refine st_row (by rfl) 79 (.tmp 4) (.tmp 18) (by rfl) _ (tkC (0, 0, 0)) (by rfl) (by rfl) 79 _ (by exact hp_new _ _) (by exact Tryd.infoTok) (by rfl) (tkC_one _) ?_; intro w5 hw5)
        refine ret_row2 4 5 79 rfl _ rfl _ _ hw5.blk d hu hd Tryd.infoTok _ rfl rfl ⟨?_, below_rs hw5 (below_walk _ _) (Nat.le_refl _)⟩
        rw [HR.out]
        rfl
    · obtain ⟨k, rfl⟩ : ∃ k : Nat, a = (k : Int) := ⟨a.toNat, by omega⟩
      have hk : k ≤ l.length := by omega
      have hp : plN l (k : Int) = 0 := by unfold plN; rw [if_neg hlong, if_neg ha]
      have hn : nxP l (k : Int) = rtP l (frP l k) := by
        unfold nxP rtP
        rw [hp, if_neg (by simp)]
        simp only [Int.toNat_natCast]
        rfl
      have hf := frP_le hk
      have H1 := hid (rgap_any l k hk hl)
      have H2 := hid (rtoken_any l (frP l k) hf.2 (by omega))
      rw [hn]
      obtain ⟨f, HF⟩ : ∃ f, Hid (frP l k = f) := ⟨_, rfl⟩
      rw [HF.out] at H1 H2 ⊢
      unfold RtPost at H2
      obtain ⟨⟨⟨t1, t2, t3⟩, e0⟩, HE⟩ : ∃ r, Hid (rtP l f = r) := ⟨_, rfl⟩
      rw [HE.out] at H2 ⊢
      have q2 : ¬ (l.length : Int) < (k : Int) := by omega
      clear hp hn ha hf
      go_enter Tryd.func43, Tryd.ntmps43
      go_wp2_with first
        | (go_at_call 69; refine (H1.out _).mono ?_; rintro e w' ⟨rfl, rfl⟩)
        | (go_at_call 68; refine (H2.out _).mono ?_; rintro e w4 ⟨rfl, hb4⟩)
        | (refine st_row (by rfl) 79 (.tmp 4) (.tmp 24) (by rfl) _ (tkC (t1, t2, t3)) (by rfl) (by rfl) 79 _ (by exact (by rw [hb4.block _ (by rw [hp_size]; omega)]; exact hp_new _ _ : w4.heap[w.heap.size]? = some (.cells #[.int .i64 0, .int .i64 0, .int .i64 0] 79 (0, 0)))) (by exact Tryd.infoTok) (by rfl) (tkC_one _) ?_; intro w5 hw5)
      refine ret_row2 4 5 79 rfl _ rfl _ _ hw5.blk d hu hd Tryd.infoTok _ rfl rfl ⟨rfl, below_rs hw5 ((below_walk _ _).trans (hb4.mono (by rw [hp_size]; omega))) (Nat.le_refl _)⟩

end Go.Proofs.YtlpengaclkidiaaDoor

/- LexReads: numbers, texts, words and keys are told apart rightly. -/
namespace Go.Proofs.YtlpengaclkidiaaDoor
open Go.RowKit

theorem js_of_tx {l : List UInt8} {r : List UInt8 × Nat} (h0 : 0 < l.length) (h : l.getD 0 0 = 34) (ht : txP (l.drop 1) = some r) (h4 : r.1.length ≤ 4096) (hl : r.2 + 1 = l.length) : jsP 3 l = true := by
  unfold jsP
  rw [decide_eq_true_eq]
  unfold tokP
  rw [if_neg (by omega), h, if_neg (by decide), if_neg (by decide), if_pos rfl]
  unfold tqP
  rw [ht]
  simp only
  rw [if_pos h4, hl]

set_option maxHeartbeats 2000000 in
theorem rtext_bad (l : List UInt8) (hl : l.length ≤ 140737488351232) (h : jsP 3 l = false) (w : World) :
    Calls Tryd.prog 24 #[.string (mk l)] w fun e w' => e = .returned (.tuple #[.string ⟨#[]⟩, .int .i64 122]) ∧ Below w.heap.size w w' := by
  have hsz := mk_size l
  by_cases h0 : l.length = 0
  · have q0 : (l.length : Int) = 0 := by omega
    clear h0 h
    go_enter Tryd.func24, Tryd.ntmps24
    go_wp2
    go_ret2
    exact ⟨rfl, Below.refl _ _⟩
  · have q0 : ((l.length : Int) == 0) = false := by simp; intro e; exact h0 (by rw [e]; rfl)
    have i0 := at_mk l 0 (by omega)
    obtain ⟨z, HZ⟩ : ∃ z : UInt8, Hid (l.getD 0 0 = z) := ⟨_, rfl⟩
    rw [HZ.out] at i0
    have i0 : ∀ W, (Instr.index 9 (.string (mk l)) (.int .i64 0)).run Tryd.prog W = .ok (.int .u8 (z.toNat : Nat)) W := i0
    by_cases hz : z = 34
    · subst hz
      have i0 : ∀ W, (Instr.index 9 (.string (mk l)) (.int .i64 0)).run Tryd.prog W = .ok (.int .u8 34) W := i0
      have H1 := quoted_any l 0 (by omega) hl
      have key : ∃ (s : ByteArray) (n : Int), quV l 0 = .tuple #[.string s, .int .i64 n] ∧ ¬ n = (l.length : Int) := by
        unfold quV
        cases ht : txP (l.drop (0 + 1)) with
        | none => exact ⟨_, _, rfl, by omega⟩
        | some r =>
          simp only
          by_cases h4 : 4096 < r.1.length
          · rw [if_pos h4]; exact ⟨_, _, rfl, by omega⟩
          · rw [if_neg h4]
            refine ⟨_, _, rfl, fun e => ?_⟩
            rw [js_of_tx (by omega) HZ.out ht (by omega) (by omega)] at h
            cases h
      obtain ⟨s, n, hs, hn⟩ := key
      rw [hs] at H1
      have H1 : Hid (∀ w, Calls Tryd.prog 44 #[.string (mk l), .int .i64 0] w fun e w' => e = .returned (.tuple #[.string s, .int .i64 n]) ∧ Below w.heap.size w w') := H1
      clear h hs h0
      go_enter Tryd.func24, Tryd.ntmps24
      go_wp2_with (go_at_call 44; refine (H1.out _).mono ?_; rintro e w2 ⟨rfl, hb⟩)
      go_ret2
      exact ⟨rfl, hb⟩
    · have n4 : ¬ (z.toNat : Int) = 34 := fun e => hz ((u8_eq (n := 34) (by omega)).1 e)
      clear h h0 hz
      go_enter Tryd.func24, Tryd.ntmps24
      go_wp2
      go_ret2
      exact ⟨rfl, Below.refl _ _⟩

set_option maxHeartbeats 2000000 in
theorem rtext_ok (l v : List UInt8) (hl : l.length ≤ 140737488351232) (h0 : l.getD 0 0 = 34) (h2 : 2 ≤ l.length) (hv4 : v.length ≤ 4096) (hv : txP (l.drop 1) = some (v, l.length - 1)) (w : World) :
    Calls Tryd.prog 24 #[.string (mk l)] w fun e w' => e = .returned (.tuple #[.string (mk v), .int .i64 0]) ∧ Below w.heap.size w w' := by
  have hsz := mk_size l
  have q0 : ((l.length : Int) == 0) = false := by simp only [beq_eq_false_iff_ne, ne_eq]; omega
  have i0 := at_mk l 0 (by omega)
  rw [h0] at i0
  have i0 : ∀ W, (Instr.index 9 (.string (mk l)) (.int .i64 0)).run Tryd.prog W = .ok (.int .u8 34) W := i0
  have H1 := quoted_any l 0 (by omega) hl
  have hs : quV l 0 = .tuple #[.string (mk v), .int .i64 (l.length : Int)] := by
    unfold quV
    rw [show txP (l.drop (0 + 1)) = some (v, l.length - 1) from hv]
    simp only
    rw [if_neg (by omega)]
    have e : ((0 + 1 + (l.length - 1) : Nat) : Int) = (l.length : Int) := by omega
    rw [e]
  rw [hs] at H1
  have H1 : Hid (∀ w, Calls Tryd.prog 44 #[.string (mk l), .int .i64 0] w fun e w' => e = .returned (.tuple #[.string (mk v), .int .i64 (l.length : Int)]) ∧ Below w.heap.size w w') := H1
  clear hs hv h0
  go_enter Tryd.func24, Tryd.ntmps24
  go_wp2_with (go_at_call 44; refine (H1.out _).mono ?_; rintro e w2 ⟨rfl, hb⟩)
  go_ret2
  exact ⟨rfl, hb⟩

set_option maxHeartbeats 2000000 in
theorem rname_any (l : List UInt8) (hl : l.length ≤ 140737488355328) (w : World) :
    Calls Tryd.prog 58 #[.string (mk l)] w fun e w' => e = .returned (.bool (nmT l)) ∧ w' = w := by
  have hsz := mk_size l
  by_cases h0 : l.length = 0
  · have q0 : (l.length : Int) = 0 := by omega
    have HR : Hid (nmT l = false) := decide_eq_false (fun h => by have := h.1; omega)
    clear h0
    go_enter Tryd.func58, Tryd.ntmps58
    go_wp2
    go_ret
    exact ⟨by rw [HR.out]; rfl, rfl⟩
  · have q0 : ((l.length : Int) == 0) = false := by simp only [beq_eq_false_iff_ne, ne_eq]; omega
    by_cases h32 : 32 < l.length
    · have q1 : (32 : Int) < (l.length : Int) := by omega
      have HR : Hid (nmT l = false) := decide_eq_false (fun h => by have := h.2.1; omega)
      clear h0
      go_enter Tryd.func58, Tryd.ntmps58
      go_wp2
      go_ret
      exact ⟨by rw [HR.out]; rfl, rfl⟩
    · have q1 : ¬ (32 : Int) < (l.length : Int) := by omega
      have i0 := at_mk l 0 (by omega)
      have H0 := hid (rletter_any ((l.getD 0 0).toNat : Nat))
      obtain ⟨z, HZ⟩ : ∃ z : UInt8, Hid (l.getD 0 0 = z) := ⟨_, rfl⟩
      rw [HZ.out] at i0 H0
      have i0 : ∀ W, (Instr.index 9 (.string (mk l)) (.int .i64 0)).run Tryd.prog W = .ok (.int .u8 (z.toNat : Nat)) W := i0
      cases hz : ltI (z.toNat : Nat) with
      | false =>
        rw [hz] at H0
        have HR : Hid (nmT l = false) := decide_eq_false (fun h => by have := h.2.2.1; rw [HZ.out] at this; unfold ltB at this; rw [hz] at this; cases this)
        clear h0 hz
        go_enter Tryd.func58, Tryd.ntmps58
        go_wp2_with (go_at_call 81; refine (H0.out _).mono ?_; rintro e w' ⟨rfl, rfl⟩)
        go_ret
        exact ⟨by rw [HR.out]; rfl, rfl⟩
      | true =>
        rw [hz] at H0
        have HZL : Hid (ltB (l.getD 0 0) = true) := by rw [HZ.out]; exact hz
        clear hz
        go_enter Tryd.func58, Tryd.ntmps58
        go_wp2_with (go_at_call 81; refine (H0.out _).mono ?_; rintro e w' ⟨rfl, rfl⟩)
        clear H0
        go_loop [3] (fun i => ∃ k : Nat, i = .int .i64 k ∧ Tw wdB l k) (fun i => l.length - (intOf i).toNat)
        case atStart => exact ⟨0, rfl, Tw.zero _ _⟩
        case round =>
          obtain ⟨k, rfl, HT⟩ := hrel
          have HT : Hid (Tw wdB l k) := HT
          have hk := HT.out.1
          by_cases hlt : k < l.length
          · have q2 : (k : Int) < (l.length : Int) := by omega
            have i1 := at_mk l k hlt
            obtain ⟨c, HC⟩ : ∃ c : UInt8, Hid (l.getD k 0 = c) := ⟨_, rfl⟩
            rw [HC.out] at i1
            have H4 := hid (rletter_any (c.toNat : Nat))
            have H5 := hid (rdigit_any (c.toNat : Nat))
            cases h1 : ltI (c.toNat : Nat) with
            | true =>
              rw [h1] at H4
              have HN := hid (HT.out.more hlt HC.out (by unfold wdB ltB; rw [h1]; rfl))
              clear h1
              go_wp2_with (go_at_call 81; refine (H4.out _).mono ?_; rintro e w' ⟨rfl, rfl⟩)
              exact ⟨⟨k + 1, by simp, HN.out⟩, by simp [intOf]; omega⟩
            | false =>
              rw [h1] at H4
              cases h2 : dgI (c.toNat : Nat) with
              | true =>
                rw [h2] at H5
                have HN := hid (HT.out.more hlt HC.out (by unfold wdB dgB; rw [h2]; simp))
                clear h1 h2
                go_wp2_with first
                  | (go_at_call 81; refine (H4.out _).mono ?_; rintro e w' ⟨rfl, rfl⟩)
                  | (go_at_call 82; refine (H5.out _).mono ?_; rintro e w' ⟨rfl, rfl⟩)
                exact ⟨⟨k + 1, by simp, HN.out⟩, by simp [intOf]; omega⟩
              | false =>
                rw [h2] at H5
                have HR : Hid (nmT l = false) := decide_eq_false (fun h => by
                  have := h.2.2.2 k hlt
                  rw [HC.out] at this
                  unfold wdB ltB dgB at this
                  rw [h1, h2] at this
                  cases this)
                clear h1 h2
                go_wp2_with first
                  | (go_at_call 81; refine (H4.out _).mono ?_; rintro e w' ⟨rfl, rfl⟩)
                  | (go_at_call 82; refine (H5.out _).mono ?_; rintro e w' ⟨rfl, rfl⟩)
                go_ret
                exact ⟨by rw [HR.out]; rfl, rfl⟩
          · have q2 : ¬ (k : Int) < (l.length : Int) := by omega
            have HR : Hid (nmT l = true) := decide_eq_true ⟨by omega, by omega, HZL.out, fun j hj => HT.out.2 j (by omega)⟩
            go_wp2
            go_ret
            exact ⟨by rw [HR.out]; rfl, rfl⟩

set_option maxHeartbeats 2000000 in
theorem rword_any (l : List UInt8) (hl : l.length ≤ 140737488355328) (w : World) :
    Calls Tryd.prog 37 #[.string (mk l)] w fun e w' => e = .returned (.bool (nmT l && !amP kyL l)) ∧ Below w.heap.size w w' := by
  have H1 := hid (rname_any l hl)
  have H2 := hid (rkey_any l)
  cases h1 : nmT l with
  | false =>
    rw [h1] at H1
    go_enter Tryd.func37, Tryd.ntmps37
    go_wp2_with (go_at_call 58; refine (H1.out _).mono ?_; rintro e w' ⟨rfl, rfl⟩)
    go_ret
    exact ⟨rfl, Below.refl _ _⟩
  | true =>
    rw [h1] at H1
    obtain ⟨b, HBB⟩ : ∃ b, Hid (amP kyL l = b) := ⟨_, rfl⟩
    rw [HBB.out] at H2 ⊢
    go_enter Tryd.func37, Tryd.ntmps37
    go_wp2_with first
      | (go_at_call 58; refine (H1.out _).mono ?_; rintro e w' ⟨rfl, rfl⟩)
      | (go_at_call 59; refine (H2.out _).mono ?_; rintro e w2 ⟨rfl, hb⟩)
    go_ret
    exact ⟨by cases b <;> rfl, hb⟩

end Go.Proofs.YtlpengaclkidiaaDoor

/- The document's one token, what fits, and whether two lists are the same. -/
namespace Go.Proofs.YtlpengaclkidiaaDoor
open Go.RowKit

theorem results_tmp4 {fn : Func} {t u v x : Tmp} (h : fn.results = #[.tmp t, .tmp u, .tmp v, .tmp x]) (tmps : Array Value) (P : Program) (w : World) :
    (results fn tmps).run P w = .ok (.tuple #[tmps.getD t undef, tmps.getD u undef, tmps.getD v undef, tmps.getD x undef]) w := by
  simp [results, h]
/-- four answers -/
theorem ret_4 {P : Program} {fn : Func} {R : Ending → World → Prop} {a : Act} {w : World} (t u v x : Tmp) (h : fn.results = #[.tmp t, .tmp u, .tmp v, .tmp x]) (hdf : a.defers = [])
    (hR : R (.returned (.tuple #[a.tmps.getD t undef, a.tmps.getD u undef, a.tmps.getD v undef, a.tmps.getD x undef])) w) : bodyPost P fn R .ret a w :=
  bodyPost_ret (results_tmp4 h _ _ _) hdf hR

set_option maxRecDepth 20000 in
set_option maxHeartbeats 1000000 in
theorem rone_bad (l : List UInt8) (a : Nat) (e : Int) (f : Nat) (hl : l.length ≤ 65536) (he : e ≠ 0) (hn : nxP l (a : Int) = ((0, f, 0), e)) (w : World) :
    Calls Tryd.prog 22 #[.string (mk l), .int .i64 (a : Int)] w fun r w' => r = .returned (.tuple #[.string ⟨#[]⟩, .int .i64 0, .int .i64 e, .int .i64 (f : Int)]) ∧ Below w.heap.size w w' := by
  have HN : Hid (Calls Tryd.prog 43 #[.string (mk l), .int .i64 (a : Int)] w fun r w' => r = .returned (.tuple #[.agg #[.int .i64 (0 : Nat), .int .i64 (f : Nat), .int .i64 (0 : Nat)], .int .i64 e]) ∧ Below w.heap.size w w') := by
    have := rnext_any l (by omega) (a : Int) w
    rw [hn] at this
    exact this
  have he0 : ¬ e = 0 := he
  clear hn he
  go_enter Tryd.func22, Tryd.ntmps22
  go_upto_region 3 with (go_at_call 43; refine HN.out.mono ?_; rintro r w2 ⟨rfl, hb⟩; have HB := hid hb; clear hb)
  have HK : Hid (Tk (w2.alloc (.cells #[.int .i64 (0 : Nat), .int .i64 (f : Nat), .int .i64 (0 : Nat)] 79)) w2.heap.size (0, f, 0)) := hp_new _ _
  have HB2 := hid (HB.out.trans ((below_walk w2 (.cells #[.int .i64 (0 : Nat), .int .i64 (f : Nat), .int .i64 (0 : Nat)] 79)).mono HB.out.size))
  generalize w2.alloc (.cells #[.int .i64 (0 : Nat), .int .i64 (f : Nat), .int .i64 (0 : Nat)] 79) = w3 at *
  have c1 := HK.out.c1
  go_quiet (fail)
  go_wp2
  exact ret_4 4 5 6 7 rfl rfl ⟨rfl, below_drewN HB2.out _⟩

set_option maxRecDepth 20000 in
set_option maxHeartbeats 1000000 in
theorem rone_ok (l : List UInt8) (a k f m : Nat) (hl : l.length ≤ 65536) (hfm : f ≤ m) (hml : m ≤ l.length) (hn : nxP l (a : Int) = ((k, f, m), 0)) (w : World) :
    Calls Tryd.prog 22 #[.string (mk l), .int .i64 (a : Int)] w fun r w' => r = .returned (.tuple #[.string (mk (ttP l f m)), .int .i64 (m : Int), .int .i64 0, .int .i64 (f : Int)]) ∧ Below w.heap.size w w' := by
  have HN : Hid (Calls Tryd.prog 43 #[.string (mk l), .int .i64 (a : Int)] w fun r w' => r = .returned (.tuple #[.agg #[.int .i64 (k : Nat), .int .i64 (f : Nat), .int .i64 (m : Nat)], .int .i64 0]) ∧ Below w.heap.size w w') := by
    have := rnext_any l (by omega) (a : Int) w
    rw [hn] at this
    exact this
  have s1 := sl_mid l f m hfm hml
  clear hn
  go_enter Tryd.func22, Tryd.ntmps22
  go_upto_region 4 with (go_at_call 43; refine HN.out.mono ?_; rintro r w2 ⟨rfl, hb⟩; have HB := hid hb; clear hb)
  have HK : Hid (Tk (w2.alloc (.cells #[.int .i64 (k : Nat), .int .i64 (f : Nat), .int .i64 (m : Nat)] 79)) w2.heap.size (k, f, m)) := hp_new _ _
  have HB2 := hid (HB.out.trans ((below_walk w2 (.cells #[.int .i64 (k : Nat), .int .i64 (f : Nat), .int .i64 (m : Nat)] 79)).mono HB.out.size))
  generalize w2.alloc (.cells #[.int .i64 (k : Nat), .int .i64 (f : Nat), .int .i64 (m : Nat)] 79) = w3 at *
  have c1 := HK.out.c1
  have c2 := HK.out.c2
  go_quiet (fail)
  go_wp2
  exact ret_4 4 5 6 7 rfl rfl ⟨rfl, below_drewN HB2.out _⟩

/-- what stands at a place, by the text alone -/
def fitR (p : Nat) (s : List UInt8) : Bool := if p = 1 then jsP 3 s else if p = 2 then decide (s = kAs) else if p = 3 then jsP 1 s else decide (s = kEnd)

section
variable (s : List UInt8) (w : World)

set_option maxRecDepth 20000 in
set_option maxHeartbeats 1000000 in
theorem rfit_1 (hs : s.length ≤ 140737488351232) : Calls Tryd.prog 23 #[.int .i64 1, .string (mk s)] w fun r w' => r = .returned (.bool (fitR 1 s)) ∧ Below w.heap.size w w' := by
  show Calls _ _ _ _ fun r w' => r = .returned (.bool (jsP 3 s)) ∧ Below w.heap.size w w'
  cases hj : jsP 3 s with
  | false =>
    have HX := hid (rtext_bad s hs hj w)
    go_enter Tryd.func23, Tryd.ntmps23
    go_wp2_with (go_at_call 24; refine HX.out.mono ?_; rintro r w2 ⟨rfl, hb⟩)
    go_ret
    exact ⟨rfl, hb⟩
  | true =>
    obtain ⟨v, h1, h2, h3, h4⟩ := js_text hj
    have HX := hid (rtext_ok s v hs h4 h3 h2 h1 w)
    clear h1
    go_enter Tryd.func23, Tryd.ntmps23
    go_wp2_with (go_at_call 24; refine HX.out.mono ?_; rintro r w2 ⟨rfl, hb⟩)
    go_ret
    exact ⟨rfl, hb⟩

set_option maxRecDepth 20000 in
theorem rfit_2 : Calls Tryd.prog 23 #[.int .i64 2, .string (mk s)] w fun r w' => r = .returned (.bool (fitR 2 s)) ∧ Below w.heap.size w w' := by
  show Calls _ _ _ _ fun r w' => r = .returned (.bool (decide (s = kAs))) ∧ Below w.heap.size w w'
  by_cases hq : s = kAs
  · have q1 : ((mk s).toList == [97, 115]) = true := by rw [tl_mk, hq]; decide
    rw [decide_eq_true hq]
    clear hq
    go_enter Tryd.func23, Tryd.ntmps23
    go_wp2
    go_ret
    exact ⟨rfl, Below.refl _ _⟩
  · have q1 : ((mk s).toList == [97, 115]) = false := by rw [tl_mk, beq_eq_false_iff_ne]; exact hq
    rw [decide_eq_false hq]
    clear hq
    go_enter Tryd.func23, Tryd.ntmps23
    go_wp2
    go_ret
    exact ⟨rfl, Below.refl _ _⟩

set_option maxRecDepth 20000 in
theorem rfit_4 : Calls Tryd.prog 23 #[.int .i64 4, .string (mk s)] w fun r w' => r = .returned (.bool (fitR 4 s)) ∧ Below w.heap.size w w' := by
  show Calls _ _ _ _ fun r w' => r = .returned (.bool (decide (s = kEnd))) ∧ Below w.heap.size w w'
  by_cases hq : s = kEnd
  · have q1 : ((mk s).toList == [59]) = true := by rw [tl_mk, hq]; decide
    rw [decide_eq_true hq]
    clear hq
    go_enter Tryd.func23, Tryd.ntmps23
    go_wp2
    go_ret
    exact ⟨rfl, Below.refl _ _⟩
  · have q1 : ((mk s).toList == [59]) = false := by rw [tl_mk, beq_eq_false_iff_ne]; exact hq
    rw [decide_eq_false hq]
    clear hq
    go_enter Tryd.func23, Tryd.ntmps23
    go_wp2
    go_ret
    exact ⟨rfl, Below.refl _ _⟩

theorem rword_js : (nmT s && !amP kyL s) = jsP 1 s := by
  have h := (js_word s).1
  cases hj : jsP 1 s with
  | true =>
    obtain ⟨a, b⟩ := h.1 hj
    rw [a]
    have : amP kyL s = false := by
      cases hm : amP kyL s with
      | false => rfl
      | true => exact absurd (of_decide_eq_true hm) b
    rw [this]; rfl
  | false =>
    cases hn : nmT s with
    | false => rfl
    | true =>
      cases hm : amP kyL s with
      | true => rfl
      | false =>
        exfalso
        have : jsP 1 s = true := h.2 ⟨hn, fun x => of_decide_eq_false hm x⟩
        rw [hj] at this
        cases this

set_option maxRecDepth 20000 in
theorem rfit_3 (hs : s.length ≤ 140737488351232) : Calls Tryd.prog 23 #[.int .i64 3, .string (mk s)] w fun r w' => r = .returned (.bool (fitR 3 s)) ∧ Below w.heap.size w w' := by
  show Calls _ _ _ _ fun r w' => r = .returned (.bool (jsP 1 s)) ∧ Below w.heap.size w w'
  have HX := rword_any s (by omega) w
  rw [rword_js] at HX
  have HX := hid HX
  go_enter Tryd.func23, Tryd.ntmps23
  go_wp2_with (go_at_call 37; refine HX.out.mono ?_; rintro r w2 ⟨rfl, hb⟩)
  go_ret
  exact ⟨rfl, hb⟩
end

end Go.Proofs.YtlpengaclkidiaaDoor

/- The document's Includes (written by yrinc.py). -/
namespace Go.Proofs.YtlpengaclkidiaaDoor
open Go.RowKit

/-- what is left behind the key include, from a place on -/
def inR (l : List UInt8) (p : Nat) (v n : List UInt8) (a : Nat) : Int × Nat × List UInt8 × List UInt8 × Nat :=
  if p = 1 then in1 l a else if p = 2 then in2 l v a else if p = 3 then in3 l v a else if p = 4 then in4 l v n a else (0, 0, v, n, a)
theorem inR_bad {l v n : List UInt8} {p a k f m : Nat} {e : Int} (h1 : 1 ≤ p) (h4 : p ≤ 4) (h : plP l p a = ((k, f, m), e)) (he : e ≠ 0) : inR l p v n a = (e, f, [], [], 0) := by
  unfold inR
  rcases (by omega : p = 1 ∨ p = 2 ∨ p = 3 ∨ p = 4) with rfl | rfl | rfl | rfl
  · rw [if_pos rfl]; unfold in1; rw [h, if_pos he]
  · rw [if_neg (by decide), if_pos rfl]; unfold in2; rw [h, if_pos he]
  · rw [if_neg (by decide), if_neg (by decide), if_pos rfl]; unfold in3; rw [h, if_pos he]
  · rw [if_neg (by decide), if_neg (by decide), if_neg (by decide), if_pos rfl]; unfold in4; rw [h, if_pos he]
theorem inR_1 {l v n : List UInt8} {a k f m : Nat} (h : plP l 1 a = ((k, f, m), 0)) : inR l 1 v n a = inR l 2 (vlP (ttP l f m)) n m := by
  unfold inR; rw [if_pos rfl, if_neg (by decide), if_pos rfl]; unfold in1; rw [h, if_neg (by simp)]
theorem inR_2 {l v n : List UInt8} {a k f m : Nat} (h : plP l 2 a = ((k, f, m), 0)) : inR l 2 v n a = inR l 3 v n m := by
  unfold inR; rw [if_neg (by decide), if_pos rfl, if_neg (by decide), if_neg (by decide), if_pos rfl]; unfold in2; rw [h, if_neg (by simp)]
theorem inR_3 {l v n : List UInt8} {a k f m : Nat} (h : plP l 3 a = ((k, f, m), 0)) : inR l 3 v n a = inR l 4 v (ttP l f m) m := by
  unfold inR; rw [if_neg (by decide), if_neg (by decide), if_pos rfl, if_neg (by decide), if_neg (by decide), if_neg (by decide), if_pos rfl]; unfold in3; rw [h, if_neg (by simp)]
theorem inR_4 {l v n : List UInt8} {a k f m : Nat} (h : plP l 4 a = ((k, f, m), 0)) : inR l 4 v n a = inR l 5 v n m := by
  unfold inR; rw [if_neg (by decide), if_neg (by decide), if_neg (by decide), if_pos rfl, if_neg (by decide), if_neg (by decide), if_neg (by decide), if_neg (by decide)]; unfold in4; rw [h, if_neg (by simp)]

/-- by the text alone, or by the token: the same -/
theorem fit_same {l : List UInt8} {a p k f m : Nat} (hl : l.length ≤ 65536) (ha : a ≤ l.length) (h1 : 1 ≤ p) (h4 : p ≤ 4) (hn : nxP l (a : Int) = ((k, f, m), 0)) : fitR p (ttP l f m) = fitP p k (ttP l f m) := by
  have key : (k = 0 ∧ ttP l f m = []) ∨ (1 ≤ k ∧ f < m ∧ tokP (l.drop f) = (k, m - f, 0)) := by
    rcases nx_view ha with ⟨v1, _⟩ | ⟨v0, ⟨v1, v2, v3⟩ | ⟨e, v1, v2, v3, v4, v5⟩ | ⟨k', n, v1, v2, v3, v4, v5, v6⟩⟩
    · omega
    · rw [hn] at v3
      simp only [Prod.mk.injEq, and_true] at v3
      obtain ⟨rfl, rfl, e⟩ := v3
      refine Or.inl ⟨rfl, ?_⟩
      unfold ttP; rw [e]; simp
    · rw [hn] at v5; simp only [Prod.mk.injEq] at v5; omega
    · rw [hn] at v6
      simp only [Prod.mk.injEq, and_true] at v6
      obtain ⟨rfl, rfl, rfl⟩ := v6
      refine Or.inr ⟨v2, by omega, ?_⟩
      rw [Nat.add_sub_cancel_left]; exact v1
  have j : ∀ i, 1 ≤ i → jsP i (ttP l f m) = decide (k = i) := fun i hi => by
    rcases key with ⟨rfl, e⟩ | ⟨h1, h2, h3⟩
    · rw [e, decide_eq_false (by omega)]
      unfold jsP
      rw [decide_eq_false_iff_not]
      unfold tokP
      simp
      omega
    · exact js_own h2 h3 h1 i
  unfold fitR fitP
  rcases (by omega : p = 1 ∨ p = 2 ∨ p = 3 ∨ p = 4) with rfl | rfl | rfl | rfl
  · rw [if_pos rfl, if_neg (by decide), if_pos rfl]; exact j 3 (by decide)
  · rfl
  · rw [if_neg (by decide), if_neg (by decide), if_pos rfl, if_neg (by decide), if_neg (by decide), if_neg (by decide), if_pos rfl]; exact j 1 (by decide)
  · rfl

set_option maxRecDepth 20000 in
set_option maxHeartbeats 1000000 in
theorem rincls_long (l : List UInt8) (hl : 65536 < l.length) (w : World) :
    Calls Tryd.prog 9 #[.string (mk l)] w fun r w' => ∃ v, r = .returned (.tuple #[v, .int .i64 0, .int .i64 3, .int .i64 0]) ∧ OwnN w' w.heap.size v [] ∧ Below w.heap.size w w' := by
  have hmk := mk_size l
  have q0 : (65536 : Int) < (l.length : Int) := by omega
  go_enter Tryd.func9, Tryd.ntmps9
  go_wp2
  exact ret_4 2 3 4 5 rfl rfl ⟨_, rfl, OwnN.nil _ _, Below.refl _ _⟩

set_option maxRecDepth 20000 in
set_option maxHeartbeats 8000000 in
theorem rincls_ok (l : List UInt8) (hl : l.length ≤ 65536) (w : World) :
    Calls Tryd.prog 9 #[.string (mk l)] w fun r w' => ∃ v, r = .returned (.tuple #[v, .int .i64 ((scP l 0).2.1 : Nat), .int .i64 (scP l 0).2.2.1, .int .i64 ((scP l 0).2.2.2 : Nat)]) ∧ OwnN w' w.heap.size v (toI (scP l 0).1) ∧ Below w.heap.size w w' := by
  have hmk := mk_size l
  have q0 : ¬ (65536 : Int) < (l.length : Int) := by omega
  have H0 := hid (Sg.zero hl)
  have HL := hid hl
  go_enter Tryd.func9, Tryd.ntmps9
  go_wp2
  go_loopw [6, 7] (fun v i wr => ∃ (a : Nat) (L : List (List UInt8 × List UInt8 × Nat)), i = .int .i64 a ∧ Sg l a L ∧ OwnN wr w.heap.size v (toI L) ∧ Below w.heap.size w wr) (fun _ i _ => l.length - (intOf i).toNat)
  case atStart => exact ⟨0, [], rfl, H0.out, OwnN.nil _ _, Below.refl _ _⟩
  case round =>
    obtain ⟨a, L, rfl, hS, hO, hB⟩ := hrel
    have HS := hid hS
    have HO := hid hO
    have HB := hid hB
    obtain ⟨sa, sc, hv⟩ := HO.out.shape
    rw [toI_len] at hv
    subst hv
    clear hS hO hB
    rcases pl_view 0 hl HS.out.1 with ⟨e, f, h0, _, _, _, hf, hn, hp⟩ | ⟨k, f, m, _, hfm, hm, hn, hb, hp⟩ | ⟨k, f, m, haf, hfm, hm, hn, hb, hp, _⟩
    · have FIN := hid (HS.out.last hp h0)
      have H1 := hid (rone_bad l a e f hl h0 hn wr)
      have he0 : ¬ e = 0 := h0
      have q2 : (e == 0) = false := by rw [beq_eq_false_iff_ne]; exact h0
      clear hp hn h0
      go_wp2_with (go_at_call 22; refine H1.out.mono ?_; rintro r w2 ⟨rfl, hb2⟩; have HB2 := hid hb2; clear hb2)
      refine ret_4 2 3 4 5 rfl rfl ?_
      rw [FIN.out]
      exact ⟨_, rfl, HO.out.below HB2.out, HB.out.trans (HB2.out.mono HB.out.size)⟩
    · have FIN := hid (HS.out.last hp (by decide))
      have H1 := hid (rone_ok l a k f m hl hfm hm hn wr)
      obtain ⟨S, HTX⟩ : ∃ S, Hid (ttP l f m = S) := ⟨_, rfl⟩
      rw [HTX.out] at H1 hb
      have q1 : ((mk S).toList == [105, 110, 99, 108, 117, 100, 101]) = false := by rw [tl_mk, beq_eq_false_iff_ne]; exact of_decide_eq_false hb
      clear hp hn hb
      go_wp2_with (go_at_call 22; refine H1.out.mono ?_; rintro r w2 ⟨rfl, hb2⟩; have HB2 := hid hb2; clear hb2)
      refine ret_4 2 3 4 5 rfl rfl ?_
      rw [FIN.out]
      exact ⟨_, rfl, HO.out.below HB2.out, HB.out.trans (HB2.out.mono HB.out.size)⟩
    · have H1 := hid (rone_ok l a k f m hl (by omega) hm hn wr)
      obtain ⟨S, HTX⟩ : ∃ S, Hid (ttP l f m = S) := ⟨_, rfl⟩
      rw [HTX.out] at H1 hb
      have q1 : ((mk S).toList == [105, 110, 99, 108, 117, 100, 101]) = true := by rw [tl_mk, of_decide_eq_true hb]; decide
      have HPL := hid hp
      have HM := hid hm
      clear hp hn hb
      go_upto_region 9 with (go_at_call 22; refine H1.out.mono ?_; rintro r w2 ⟨rfl, hb2⟩; have HB2 := hid hb2; clear hb2)
      have HX3 := hid (hp_new w2 (.cells #[.string ⟨#[]⟩, .string ⟨#[]⟩, .int .i64 (f : Int)] 35))
      have HO3 := hid ((HO.out.below HB2.out).below (below_walk w2 (.cells #[.string ⟨#[]⟩, .string ⟨#[]⟩, .int .i64 (f : Int)] 35)))
      have HB3 := hid ((HB.out.trans (HB2.out.mono HB.out.size)).trans ((below_walk w2 (.cells #[.string ⟨#[]⟩, .string ⟨#[]⟩, .int .i64 (f : Int)] 35)).mono (Nat.le_trans HB.out.size HB2.out.size)))
      have HGX := hid (show w.heap.size ≤ w2.heap.size from Nat.le_trans HB.out.size HB2.out.size)
      have HAP := hid (show ∀ q, (Value.slice sa L.length sc).ownBlock = some q → q < w2.heap.size from fun q hq => ((HO.out.below HB2.out).lt q hq).2)
      generalize w2.alloc (.cells #[.string ⟨#[]⟩, .string ⟨#[]⟩, .int .i64 (f : Int)] 35) = w3 at *
      obtain ⟨gx, HGE⟩ : ∃ g, Hid (w2.heap.size = g) := ⟨_, rfl⟩
      rw [HGE.out] at HX3 HGX HAP
      rw [HGE.out]
      clear HB2 HO HB H1 HGE
      go_wp2
      go_loopw [9, 13] (fun vi vp wr => ∃ (p b : Nat) (v n : List UInt8), vp = .int .i64 p ∧ vi = .int .i64 b ∧ 1 ≤ p ∧ p ≤ 5 ∧ m ≤ b ∧ b ≤ l.length ∧ in1 l m = inR l p v n b ∧ wr.heap[gx]? = some (.cells #[.string (mk v), .string (mk n), .int .i64 (f : Int)] 35 (0, 0)) ∧ OwnN wr w.heap.size (.slice sa L.length sc) (toI L) ∧ Below w.heap.size w wr) (fun _ vp _ => 5 - (intOf vp).toNat)
      case atStart => exact ⟨1, m, [], [], rfl, rfl, Nat.le_refl _, by omega, Nat.le_refl _, HM.out, rfl, HX3.out, HO3.out, HB3.out⟩
      case round =>
        obtain ⟨p, b, v, n, rfl, rfl, hp1, hp5, hmb, hbl, hin, hx, hO, hB⟩ := hrel
        have HX := hid hx
        have HO := hid hO
        have HB := hid hB
        have HIN := hid hin
        clear hx hO hB hin HX3 HO3 HB3
        rcases (by omega : p = 1 ∨ p = 2 ∨ p = 3 ∨ p = 4 ∨ p = 5) with rfl | rfl | rfl | rfl | rfl
        · rcases pl_view 1 HL.out hbl with ⟨e, f2, h0, e1, e2, _, hf, hn, hp⟩ | ⟨k2, f2, m2, _, hfm2, hm2, hn, hb, hp⟩ | ⟨k2, f2, m2, hbf, hfm2, hm2, hn, hb, hp, hk1, hk5, htk, _⟩
          · have FIN := hid (HS.out.bad HPL.out (HIN.out.trans (inR_bad hp1 (by decide) hp h0)) h0)
            have H1 := hid (rone_bad l b e f2 HL.out h0 hn wr)
            have he0 : ¬ e = 0 := h0
            have q2 : (e == 0) = false := by rw [beq_eq_false_iff_ne]; exact h0
            clear hp hn h0
            go_wp2_with (go_at_call 22; refine H1.out.mono ?_; rintro r w4 ⟨rfl, hb2⟩; have HB4 := hid hb2; clear hb2)
            refine ret_4 2 3 4 5 rfl rfl ?_
            rw [FIN.out]
            exact ⟨_, rfl, OwnN.nil _ _, HB.out.trans (HB4.out.mono HB.out.size)⟩
          · have FIN := hid (HS.out.bad HPL.out (HIN.out.trans (inR_bad hp1 (by decide) hp (by decide))) (by decide))
            have H1 := hid (rone_ok l b k2 f2 m2 HL.out hfm2 hm2 hn wr)
            have hSl : (ttP l f2 m2).length ≤ 65536 := by unfold ttP; rw [List.length_take, List.length_drop]; have := HL.out; omega
            have H2 := hid (fun W => rfit_1 (ttP l f2 m2) W (by omega))
            rw [fit_same HL.out hbl hp1 (by decide) hn, hb] at H2
            obtain ⟨S2, HS2⟩ : ∃ S, Hid (ttP l f2 m2 = S) := ⟨_, rfl⟩
            rw [HS2.out] at H1 H2
            clear hp hn hb hSl
            go_wp2_with first
              | (go_at_call 22; refine H1.out.mono ?_; rintro r w4 ⟨rfl, hb2⟩; have HB4 := hid hb2; clear hb2)
              | (go_at_call 23; refine (H2.out _).mono ?_; rintro r w5 ⟨rfl, hb2⟩; have HB5 := hid hb2; clear hb2)
            refine ret_4 2 3 4 5 rfl rfl ?_
            rw [FIN.out]
            exact ⟨_, rfl, OwnN.nil _ _, (HB.out.trans (HB4.out.mono HB.out.size)).trans (HB5.out.mono (Nat.le_trans HB.out.size HB4.out.size))⟩
          · have NXT := hid (HIN.out.trans (inR_1 hp))
            have H1 := hid (rone_ok l b k2 f2 m2 HL.out (by omega) hm2 hn wr)
            have hSl : (ttP l f2 m2).length ≤ 65536 := by unfold ttP; rw [List.length_take, List.length_drop]; have := HL.out; omega
            have H2 := hid (fun W => rfit_1 (ttP l f2 m2) W (by omega))
            rw [fit_same HL.out hbl hp1 (by decide) hn, hb] at H2
            have hj : jsP 3 (ttP l f2 m2) = true := by
              have := fit_same HL.out hbl hp1 (by decide) hn
              rw [hb] at this
              exact this
            obtain ⟨_, _, hj4, hj2, hj0⟩ := js_text hj
            have hvt := vl_text hj
            have hv4 : (vlP (ttP l f2 m2)).length ≤ 4096 := by obtain ⟨v', j1, j2, _⟩ := js_text hj; rw [hvt] at j1; injection j1 with j1; injection j1 with j1 _; rw [j1]; exact j2
            have H3 := hid (fun W => rtext_ok (ttP l f2 m2) (vlP (ttP l f2 m2)) (by omega) hj0 hj2 hv4 hvt W)
            obtain ⟨V2, HV2⟩ : ∃ S, Hid (vlP (ttP l f2 m2) = S) := ⟨_, rfl⟩
            rw [HV2.out] at H3 NXT
            clear hj hvt hv4 hj4 hj2 hj0
            obtain ⟨S2, HS2⟩ : ∃ S, Hid (ttP l f2 m2 = S) := ⟨_, rfl⟩
            rw [HS2.out] at H1 H2 H3
            clear hp hn hb hSl
            go_wp2_with first
              | (go_at_call 22; refine H1.out.mono ?_; rintro r w4 ⟨rfl, hb2⟩; have HB4 := hid hb2; clear hb2)
              | (go_at_call 23; refine (H2.out _).mono ?_; rintro r w5 ⟨rfl, hb2⟩; have HB5 := hid hb2; clear hb2)
              | (go_at_call 24; refine (H3.out _).mono ?_; rintro r w6 ⟨rfl, hb2⟩; have HB6 := hid ((HB4.out.trans (HB5.out.mono HB4.out.size)).trans (hb2.mono (Nat.le_trans HB4.out.size HB5.out.size))); have k0 := (HB6.out.block gx (hp_lt HX.out)).trans HX.out; have HK0 := hid k0; have c0 : w6.cell? ⟨gx, 0, none⟩ = some (.string (mk v)) := (by rw [cell_of_row _ _ _ _ _ _ k0]; rfl); have z0 : w6.frozen? ⟨gx, 0, none⟩ = false := (by simp [World.frozen?, k0]); clear hb2 k0)
            have hne : ∀ q, (Value.slice sa L.length sc).ownBlock = some q → q ≠ gx := fun q hq => Nat.ne_of_lt (HAP.out q hq)
            exact ⟨⟨2, m2, V2, n, by simp, by simp, by omega, by omega, by omega, hm2, NXT.out, blk_set HK0.out _, (HO.out.below HB6.out).kept (gb_set w6 ⟨gx, 0, none⟩ _) (Or.inr (fun e => hne gx e rfl)), (HB.out.trans (HB6.out.mono HB.out.size)).setCell (p := ⟨gx, 0, none⟩) HGX.out _⟩, by simp [intOf]⟩
        · rcases pl_view 2 HL.out hbl with ⟨e, f2, h0, e1, e2, _, hf, hn, hp⟩ | ⟨k2, f2, m2, _, hfm2, hm2, hn, hb, hp⟩ | ⟨k2, f2, m2, hbf, hfm2, hm2, hn, hb, hp, hk1, hk5, htk, _⟩
          · have FIN := hid (HS.out.bad HPL.out (HIN.out.trans (inR_bad hp1 (by decide) hp h0)) h0)
            have H1 := hid (rone_bad l b e f2 HL.out h0 hn wr)
            have he0 : ¬ e = 0 := h0
            have q2 : (e == 0) = false := by rw [beq_eq_false_iff_ne]; exact h0
            clear hp hn h0
            go_wp2_with (go_at_call 22; refine H1.out.mono ?_; rintro r w4 ⟨rfl, hb2⟩; have HB4 := hid hb2; clear hb2)
            refine ret_4 2 3 4 5 rfl rfl ?_
            rw [FIN.out]
            exact ⟨_, rfl, OwnN.nil _ _, HB.out.trans (HB4.out.mono HB.out.size)⟩
          · have FIN := hid (HS.out.bad HPL.out (HIN.out.trans (inR_bad hp1 (by decide) hp (by decide))) (by decide))
            have H1 := hid (rone_ok l b k2 f2 m2 HL.out hfm2 hm2 hn wr)
            have hSl : (ttP l f2 m2).length ≤ 65536 := by unfold ttP; rw [List.length_take, List.length_drop]; have := HL.out; omega
            have H2 := hid (fun W => rfit_2 (ttP l f2 m2) W)
            rw [fit_same HL.out hbl hp1 (by decide) hn, hb] at H2
            obtain ⟨S2, HS2⟩ : ∃ S, Hid (ttP l f2 m2 = S) := ⟨_, rfl⟩
            rw [HS2.out] at H1 H2
            clear hp hn hb hSl
            go_wp2_with first
              | (go_at_call 22; refine H1.out.mono ?_; rintro r w4 ⟨rfl, hb2⟩; have HB4 := hid hb2; clear hb2)
              | (go_at_call 23; refine (H2.out _).mono ?_; rintro r w5 ⟨rfl, hb2⟩; have HB5 := hid hb2; clear hb2)
            refine ret_4 2 3 4 5 rfl rfl ?_
            rw [FIN.out]
            exact ⟨_, rfl, OwnN.nil _ _, (HB.out.trans (HB4.out.mono HB.out.size)).trans (HB5.out.mono (Nat.le_trans HB.out.size HB4.out.size))⟩
          · have NXT := hid (HIN.out.trans (inR_2 hp))
            have H1 := hid (rone_ok l b k2 f2 m2 HL.out (by omega) hm2 hn wr)
            have hSl : (ttP l f2 m2).length ≤ 65536 := by unfold ttP; rw [List.length_take, List.length_drop]; have := HL.out; omega
            have H2 := hid (fun W => rfit_2 (ttP l f2 m2) W)
            rw [fit_same HL.out hbl hp1 (by decide) hn, hb] at H2
            obtain ⟨S2, HS2⟩ : ∃ S, Hid (ttP l f2 m2 = S) := ⟨_, rfl⟩
            rw [HS2.out] at H1 H2
            clear hp hn hb hSl
            go_wp2_with first
              | (go_at_call 22; refine H1.out.mono ?_; rintro r w4 ⟨rfl, hb2⟩; have HB4 := hid hb2; clear hb2)
              | (go_at_call 23; refine (H2.out _).mono ?_; rintro r w5 ⟨rfl, hb2⟩; have HB5 := hid hb2; clear hb2)
            exact ⟨⟨3, m2, v, n, by simp, by simp, by omega, by omega, by omega, hm2, NXT.out, (HB5.out.block gx (hp_lt ((HB4.out.block gx (hp_lt HX.out)).trans HX.out))).trans ((HB4.out.block gx (hp_lt HX.out)).trans HX.out), (HO.out.below HB4.out).below HB5.out, (HB.out.trans (HB4.out.mono HB.out.size)).trans (HB5.out.mono (Nat.le_trans HB.out.size HB4.out.size))⟩, by simp [intOf]⟩
        · rcases pl_view 3 HL.out hbl with ⟨e, f2, h0, e1, e2, _, hf, hn, hp⟩ | ⟨k2, f2, m2, _, hfm2, hm2, hn, hb, hp⟩ | ⟨k2, f2, m2, hbf, hfm2, hm2, hn, hb, hp, hk1, hk5, htk, _⟩
          · have FIN := hid (HS.out.bad HPL.out (HIN.out.trans (inR_bad hp1 (by decide) hp h0)) h0)
            have H1 := hid (rone_bad l b e f2 HL.out h0 hn wr)
            have he0 : ¬ e = 0 := h0
            have q2 : (e == 0) = false := by rw [beq_eq_false_iff_ne]; exact h0
            clear hp hn h0
            go_wp2_with (go_at_call 22; refine H1.out.mono ?_; rintro r w4 ⟨rfl, hb2⟩; have HB4 := hid hb2; clear hb2)
            refine ret_4 2 3 4 5 rfl rfl ?_
            rw [FIN.out]
            exact ⟨_, rfl, OwnN.nil _ _, HB.out.trans (HB4.out.mono HB.out.size)⟩
          · have FIN := hid (HS.out.bad HPL.out (HIN.out.trans (inR_bad hp1 (by decide) hp (by decide))) (by decide))
            have H1 := hid (rone_ok l b k2 f2 m2 HL.out hfm2 hm2 hn wr)
            have hSl : (ttP l f2 m2).length ≤ 65536 := by unfold ttP; rw [List.length_take, List.length_drop]; have := HL.out; omega
            have H2 := hid (fun W => rfit_3 (ttP l f2 m2) W (by omega))
            rw [fit_same HL.out hbl hp1 (by decide) hn, hb] at H2
            obtain ⟨S2, HS2⟩ : ∃ S, Hid (ttP l f2 m2 = S) := ⟨_, rfl⟩
            rw [HS2.out] at H1 H2
            clear hp hn hb hSl
            go_wp2_with first
              | (go_at_call 22; refine H1.out.mono ?_; rintro r w4 ⟨rfl, hb2⟩; have HB4 := hid hb2; clear hb2)
              | (go_at_call 23; refine (H2.out _).mono ?_; rintro r w5 ⟨rfl, hb2⟩; have HB5 := hid hb2; clear hb2)
            refine ret_4 2 3 4 5 rfl rfl ?_
            rw [FIN.out]
            exact ⟨_, rfl, OwnN.nil _ _, (HB.out.trans (HB4.out.mono HB.out.size)).trans (HB5.out.mono (Nat.le_trans HB.out.size HB4.out.size))⟩
          · have NXT := hid (HIN.out.trans (inR_3 hp))
            have H1 := hid (rone_ok l b k2 f2 m2 HL.out (by omega) hm2 hn wr)
            have hSl : (ttP l f2 m2).length ≤ 65536 := by unfold ttP; rw [List.length_take, List.length_drop]; have := HL.out; omega
            have H2 := hid (fun W => rfit_3 (ttP l f2 m2) W (by omega))
            rw [fit_same HL.out hbl hp1 (by decide) hn, hb] at H2
            obtain ⟨S2, HS2⟩ : ∃ S, Hid (ttP l f2 m2 = S) := ⟨_, rfl⟩
            rw [HS2.out] at H1 H2 NXT
            clear hp hn hb hSl
            go_wp2_with first
              | (go_at_call 22; refine H1.out.mono ?_; rintro r w4 ⟨rfl, hb2⟩; have HB4 := hid hb2; clear hb2)
              | (go_at_call 23; refine (H2.out _).mono ?_; rintro r w6 ⟨rfl, hb2⟩; have HB6 := hid (HB4.out.trans (hb2.mono HB4.out.size)); have k0 := (HB6.out.block gx (hp_lt HX.out)).trans HX.out; have HK0 := hid k0; have c0 : w6.cell? ⟨gx, 1, none⟩ = some (.string (mk n)) := (by rw [cell_of_row _ _ _ _ _ _ k0]; rfl); have z0 : w6.frozen? ⟨gx, 1, none⟩ = false := (by simp [World.frozen?, k0]); clear hb2 k0)
            have hne : ∀ q, (Value.slice sa L.length sc).ownBlock = some q → q ≠ gx := fun q hq => Nat.ne_of_lt (HAP.out q hq)
            exact ⟨⟨4, m2, v, S2, by simp, by simp, by omega, by omega, by omega, hm2, NXT.out, blk_set HK0.out _, (HO.out.below HB6.out).kept (gb_set w6 ⟨gx, 1, none⟩ _) (Or.inr (fun e => hne gx e rfl)), (HB.out.trans (HB6.out.mono HB.out.size)).setCell (p := ⟨gx, 1, none⟩) HGX.out _⟩, by simp [intOf]⟩
        · rcases pl_view 4 HL.out hbl with ⟨e, f2, h0, e1, e2, _, hf, hn, hp⟩ | ⟨k2, f2, m2, _, hfm2, hm2, hn, hb, hp⟩ | ⟨k2, f2, m2, hbf, hfm2, hm2, hn, hb, hp, hk1, hk5, htk, _⟩
          · have FIN := hid (HS.out.bad HPL.out (HIN.out.trans (inR_bad hp1 (by decide) hp h0)) h0)
            have H1 := hid (rone_bad l b e f2 HL.out h0 hn wr)
            have he0 : ¬ e = 0 := h0
            have q2 : (e == 0) = false := by rw [beq_eq_false_iff_ne]; exact h0
            clear hp hn h0
            go_wp2_with (go_at_call 22; refine H1.out.mono ?_; rintro r w4 ⟨rfl, hb2⟩; have HB4 := hid hb2; clear hb2)
            refine ret_4 2 3 4 5 rfl rfl ?_
            rw [FIN.out]
            exact ⟨_, rfl, OwnN.nil _ _, HB.out.trans (HB4.out.mono HB.out.size)⟩
          · have FIN := hid (HS.out.bad HPL.out (HIN.out.trans (inR_bad hp1 (by decide) hp (by decide))) (by decide))
            have H1 := hid (rone_ok l b k2 f2 m2 HL.out hfm2 hm2 hn wr)
            have hSl : (ttP l f2 m2).length ≤ 65536 := by unfold ttP; rw [List.length_take, List.length_drop]; have := HL.out; omega
            have H2 := hid (fun W => rfit_4 (ttP l f2 m2) W)
            rw [fit_same HL.out hbl hp1 (by decide) hn, hb] at H2
            obtain ⟨S2, HS2⟩ : ∃ S, Hid (ttP l f2 m2 = S) := ⟨_, rfl⟩
            rw [HS2.out] at H1 H2
            clear hp hn hb hSl
            go_wp2_with first
              | (go_at_call 22; refine H1.out.mono ?_; rintro r w4 ⟨rfl, hb2⟩; have HB4 := hid hb2; clear hb2)
              | (go_at_call 23; refine (H2.out _).mono ?_; rintro r w5 ⟨rfl, hb2⟩; have HB5 := hid hb2; clear hb2)
            refine ret_4 2 3 4 5 rfl rfl ?_
            rw [FIN.out]
            exact ⟨_, rfl, OwnN.nil _ _, (HB.out.trans (HB4.out.mono HB.out.size)).trans (HB5.out.mono (Nat.le_trans HB.out.size HB4.out.size))⟩
          · have NXT := hid (HIN.out.trans (inR_4 hp))
            have H1 := hid (rone_ok l b k2 f2 m2 HL.out (by omega) hm2 hn wr)
            have hSl : (ttP l f2 m2).length ≤ 65536 := by unfold ttP; rw [List.length_take, List.length_drop]; have := HL.out; omega
            have H2 := hid (fun W => rfit_4 (ttP l f2 m2) W)
            rw [fit_same HL.out hbl hp1 (by decide) hn, hb] at H2
            obtain ⟨S2, HS2⟩ : ∃ S, Hid (ttP l f2 m2 = S) := ⟨_, rfl⟩
            rw [HS2.out] at H1 H2
            clear hp hn hb hSl
            go_wp2_with first
              | (go_at_call 22; refine H1.out.mono ?_; rintro r w4 ⟨rfl, hb2⟩; have HB4 := hid hb2; clear hb2)
              | (go_at_call 23; refine (H2.out _).mono ?_; rintro r w5 ⟨rfl, hb2⟩; have HB5 := hid hb2; clear hb2)
            exact ⟨⟨5, m2, v, n, by simp, by simp, by omega, by omega, by omega, hm2, NXT.out, (HB5.out.block gx (hp_lt ((HB4.out.block gx (hp_lt HX.out)).trans HX.out))).trans ((HB4.out.block gx (hp_lt HX.out)).trans HX.out), (HO.out.below HB4.out).below HB5.out, (HB.out.trans (HB4.out.mono HB.out.size)).trans (HB5.out.mono (Nat.le_trans HB.out.size HB4.out.size))⟩, by simp [intOf]⟩
        · have NXT := hid (HS.out.more HL.out (to := b) (by omega) hbl HPL.out (HIN.out.trans rfl))
          have c0 : wr.cell? ⟨gx, 0, none⟩ = some (.string (mk v)) := by rw [cell_of_row _ _ _ _ _ _ HX.out]; rfl
          have c1 : wr.cell? ⟨gx, 1, none⟩ = some (.string (mk n)) := by rw [cell_of_row _ _ _ _ _ _ HX.out]; rfl
          have c2 : wr.cell? ⟨gx, 2, none⟩ = some (.int .i64 (f : Int)) := by rw [cell_of_row _ _ _ _ _ _ HX.out]; rfl
          go_wp2_with (refine app_inc (by rfl) (.tmp 76) (.tmp 78) (by rfl) w.heap.size _ (toI L) (by rfl) (HO.out.below (below_walk _ _)) wr.heap.size 1 [(v, n, (f : Int))] (by rfl) (src_inc wr (v, n, (f : Int))) (by rw [toI_len]; have := HS.out.2.1; have := HS.out.1; have := HL.out; simp; omega) (by rw [hp_size]; have := HB.out.size; omega) ?_
                       intro v' w4 ho4 hg4
                       have HO4 := hid ho4
                       have HB4 := hid ((HB.out.alloc HB.out.size (.cells #[.string (mk v), .string (mk n), .int .i64 (f : Int)] 35)).grown hg4 (by rw [hp_size]; have := HB.out.size; omega) (fun q hq => (HO.out.lt q hq).1))
                       clear ho4 hg4)
          exact ⟨⟨b, L ++ [(v, n, f)], by simp, NXT.out, by rw [toI_app]; exact HO4.out, HB4.out⟩, by simp [intOf]; omega⟩

theorem rincls_any (l : List UInt8) (w : World) :
    Calls Tryd.prog 9 #[.string (mk l)] w fun r w' => ∃ v, r = .returned (.tuple #[v, .int .i64 ((isP l).2.1 : Nat), .int .i64 (isP l).2.2.1, .int .i64 ((isP l).2.2.2 : Nat)]) ∧ OwnN w' w.heap.size v (toI (isP l).1) ∧ Below w.heap.size w w' := by
  unfold isP
  by_cases hl : 65536 < l.length
  · rw [if_pos hl]; exact rincls_long l hl w
  · rw [if_neg hl]; exact rincls_ok l (by omega) w

end Go.Proofs.YtlpengaclkidiaaDoor

/- The document's Same of two lists of includes. -/
namespace Go.Proofs.YtlpengaclkidiaaDoor
open Go.RowKit

set_option maxRecDepth 20000 in
set_option maxHeartbeats 2000000 in
theorem rsameT (A : List (List UInt8 × List UInt8 × Int)) (v1 v2 : Value) (w : World) (h1 : Incs w v1 A) (h2 : Incs w v2 A) (hn : A.length ≤ 140737488355328) :
    Calls Tryd.prog 10 #[v1, v2, .bool true] w fun e w' => e = .returned (.bool true) ∧ ∃ n, w' = w.drewN n := by
  obtain ⟨a1, c1, rfl⟩ := h1.shape
  obtain ⟨a2, c2, rfl⟩ := h2.shape
  have HO1 := hid h1
  have HO2 := hid h2
  clear h1 h2
  go_enter Tryd.func10, Tryd.ntmps10
  go_wp2
  go_loopw [7] (fun i wr => ∃ k q : Nat, i = .int .i64 k ∧ k ≤ A.length ∧ wr = w.drewN q) (fun i _ => A.length - (intOf i).toNat)
  case atStart => exact ⟨0, 0, rfl, Nat.zero_le _, rfl⟩
  case round =>
    obtain ⟨i, q, rfl, hi, rfl⟩ := hrel
    by_cases hlt : i < A.length
    · have q1 : (i : Int) < (A.length : Int) := by omega
      obtain ⟨g1, o1, rfl, _, u0, u1, u2⟩ := HO1.out.at i hlt
      obtain ⟨g2, o2, rfl, _, y0, y1, y2⟩ := HO2.out.at i hlt
      obtain ⟨⟨p, n, t⟩, HK⟩ : ∃ t, Hid (A.getD i noI = t) := ⟨_, rfl⟩
      rw [HK.out] at u0 u1 u2 y0 y1 y2
      have f1 : ((mk p).toList == (mk p).toList) = true := by simp
      have f2 : ((mk n).toList == (mk n).toList) = true := by simp
      go_wp2_with fail
      go_quiet (fail)
      go_wp2
      exact ⟨⟨i + 1, _, by simp, by omega, rfl⟩, by simp [intOf]; omega⟩
    · have q1 : ¬ (i : Int) < (A.length : Int) := by omega
      go_wp2
      go_ret
      exact ⟨rfl, q, rfl⟩

set_option maxRecDepth 20000 in
set_option maxHeartbeats 2000000 in
theorem rsameF (A B : List (List UInt8 × List UInt8 × Int)) (v1 v2 : Value) (w : World) (h1 : Incs w v1 A) (h2 : Incs w v2 B) (hl : A.length = B.length) (hs : ∀ i, i < A.length → (A.getD i noI).1 = (B.getD i noI).1 ∧ (A.getD i noI).2.1 = (B.getD i noI).2.1) (hn : A.length ≤ 140737488355328) :
    Calls Tryd.prog 10 #[v1, v2, .bool false] w fun e w' => e = .returned (.bool true) ∧ ∃ n, w' = w.drewN n := by
  obtain ⟨a1, c1, rfl⟩ := h1.shape
  obtain ⟨a2, c2, e⟩ := h2.shape
  rw [← hl] at e
  subst e
  have HO1 := hid h1
  have HO2 := hid h2
  have HS := hid hs
  have HLE := hid hl
  clear h1 h2 hs hl
  go_enter Tryd.func10, Tryd.ntmps10
  go_wp2
  go_loopw [7] (fun i wr => ∃ k q : Nat, i = .int .i64 k ∧ k ≤ A.length ∧ wr = w.drewN q) (fun i _ => A.length - (intOf i).toNat)
  case atStart => exact ⟨0, 0, rfl, Nat.zero_le _, rfl⟩
  case round =>
    obtain ⟨i, q, rfl, hi, rfl⟩ := hrel
    by_cases hlt : i < A.length
    · have q1 : (i : Int) < (A.length : Int) := by omega
      obtain ⟨g1, o1, rfl, _, u0, u1, u2⟩ := HO1.out.at i hlt
      obtain ⟨g2, o2, rfl, _, y0, y1, y2⟩ := HO2.out.at i (by rw [← HLE.out]; exact hlt)
      obtain ⟨e1, e2⟩ := HS.out i hlt
      obtain ⟨⟨p, n, t⟩, HK⟩ : ∃ t, Hid (A.getD i noI = t) := ⟨_, rfl⟩
      rw [HK.out] at u0 u1 u2 e1 e2
      rw [← e1] at y0
      rw [← e2] at y1
      have f1 : ((mk p).toList == (mk p).toList) = true := by simp
      have f2 : ((mk n).toList == (mk n).toList) = true := by simp
      clear e1 e2 u2 y2
      go_wp2_with fail
      go_quiet (fail)
      go_wp2
      exact ⟨⟨i + 1, _, by simp, by omega, rfl⟩, by simp [intOf]; omega⟩
    · have q1 : ¬ (i : Int) < (A.length : Int) := by omega
      go_wp2
      go_ret
      exact ⟨rfl, q, rfl⟩

end Go.Proofs.YtlpengaclkidiaaDoor

/- ScanFinds answers true. -/
namespace Go.Proofs.YtlpengaclkidiaaDoor
open Go.RowKit

theorem sc_names {l : List UInt8} (hl : l.length ≤ 65536) : ∀ (n a : Nat), a ≤ l.length → l.length - a = n → ∀ x ∈ (scP l a).1, x.2.1.length ≤ 65536 ∧ jsP 1 x.2.1 = true ∧ x.1.length ≤ 4096 := by
  intro n
  induction n using Nat.strongRecOn with
  | _ n ih =>
    intro a ha hn
    rcases sc_view hl ha with ⟨t, e, h0, hp⟩ | ⟨k, f, x, _, _, _, hp, e, g, h0, _, hi⟩ | ⟨k, f, x, v, s, t2, h1, h2, h3, h4, hp, hi⟩
    · rw [sc_end hp h0]; intro x hx; cases hx
    · rw [sc_bad hp hi h0]; intro x hx; cases hx
    · rw [sc_step hl (by omega) (by omega) hp hi]
      have ih2 := ih (l.length - t2) (by omega) t2 h4 rfl
      unfold jnP
      split
      · intro x hx; cases hx
      · intro y hy
        rcases List.mem_append.1 hy with hy | hy
        · rw [List.mem_singleton] at hy
          subst hy
          rcases in_view hl (a := x) (by omega) with ⟨e, g, h0, hg, hi2⟩ | ⟨f1, m1, k2, f2, m2, f3, m3, k4, f4, m4, i1, i2, i3, i4, i5, i6, i7, i8, i9, p1, p2, p3, p4, j3, j1, hi2⟩
          · rw [hi] at hi2
            simp only [Prod.mk.injEq] at hi2
            exact absurd hi2.1.symm h0
          · rw [hi] at hi2
            simp only [Prod.mk.injEq, true_and] at hi2
            obtain ⟨rfl, rfl, rfl⟩ := hi2
            refine ⟨?_, j1, ?_⟩
            · show (ttP l f3 m3).length ≤ 65536
              unfold ttP; rw [List.length_take, List.length_drop]; omega
            · obtain ⟨v', q1, q2, _⟩ := js_text j3
              have := vl_text j3
              rw [q1] at this
              injection this with this
              injection this with this _
              rw [← this]; exact q2
        · exact ih2 y hy
theorem is_names (l : List UInt8) : ∀ x ∈ toI (isP l).1, x.2.1.length ≤ 65536 ∧ jsP 1 x.2.1 = true ∧ x.1.length ≤ 4096 := by
  intro x hx
  unfold toI at hx
  rw [List.mem_map] at hx
  obtain ⟨y, hy, rfl⟩ := hx
  unfold isP at hy
  by_cases hl : 65536 < l.length
  · rw [if_pos hl] at hy; cases hy
  · rw [if_neg hl] at hy
    exact sc_names (by omega) _ 0 (Nat.zero_le _) rfl y hy
theorem is_many (l : List UInt8) : (isP l).1.length ≤ 65536 := by
  rcases is_last l with ⟨h, _⟩ | ⟨_, h, _⟩
  · rw [h]; simp
  · exact h

set_option maxRecDepth 20000 in
set_option maxHeartbeats 4000000 in
theorem finds_any (w : World) (l : List UInt8) (hT : Tabs w) :
    Calls Tryd.prog 3 #[.string (mk l)] w fun e w' => e = .returned (.bool true) ∧ Below w.heap.size w w' := by
  have HI := hid (incls_any l w hT)
  have HRI := hid (rincls_any l)
  have HH := hid (head_any l)
  have HM := hid (is_many l)
  have HN := hid (is_names l)
  obtain ⟨e, HE1⟩ : ∃ e, Hid ((isP l).2.2.1 = e) := ⟨_, rfl⟩
  obtain ⟨g, HE2⟩ : ∃ e, Hid ((isP l).2.2.2 = e) := ⟨_, rfl⟩
  obtain ⟨to, HE3⟩ : ∃ e, Hid ((isP l).2.1 = e) := ⟨_, rfl⟩
  obtain ⟨L0, HE4⟩ : ∃ e, Hid ((isP l).1 = e) := ⟨_, rfl⟩
  rw [HE1.out, HE2.out, HE4.out] at HI
  rw [HE1.out, HE2.out, HE3.out, HE4.out] at HRI
  rw [HE3.out] at HH
  rw [HE4.out] at HM HN
  have hlL := toI_len L0
  obtain ⟨L, HL⟩ : ∃ e, Hid (toI L0 = e) := ⟨_, rfl⟩
  rw [HL.out] at HI HRI HN hlL
  have hM : L.length ≤ 65536 := by rw [hlL]; exact HM.out
  have HNA := hid (fun W v h => names_any v L (by omega) (fun x hx => by have := (HN.out x hx).1; omega) W h)
  have HSA := hid (fun W v1 v2 h1 h2 => rsameT L v1 v2 W h1 h2 (by omega))
  have HAL := hid alive_any
  have HT := hid hT
  have hnl : (nmL L).length = L.length := by unfold nmL; rw [List.length_map]
  clear hT hlL HM HN
  go_enter Tryd.func3, Tryd.ntmps3
  go_upto_region 2 with (go_at_call 8; refine HI.out.mono ?_; rintro r w2 ⟨v1, rfl, ho, hb⟩; have HO1 := hid ho; have HB1 := hid hb; obtain ⟨sa1, sc1, hv⟩ := ho.shape; subst hv; clear ho hb)
  have HB2 := hid (HB1.out.trans ((below_walk w2 (.cells #[.int .i64 e, .int .i64 (g : Int)] 25)).mono HB1.out.size))
  have HO2 := hid (HO1.out.below (below_walk w2 (.cells #[.int .i64 e, .int .i64 (g : Int)] 25)))
  have HF2 := hid (hp_new w2 (.cells #[.int .i64 e, .int .i64 (g : Int)] 25))
  generalize w2.alloc (.cells #[.int .i64 e, .int .i64 (g : Int)] 25) = w3 at *
  obtain ⟨gf, HGF⟩ : ∃ g, Hid (w2.heap.size = g) := ⟨_, rfl⟩
  rw [HGF.out] at HF2
  rw [HGF.out]
  go_upto_region 3 with (go_at_call 9; refine (HRI.out _).mono ?_; rintro r w4 ⟨v2, rfl, ho, hb⟩; have HO4 := hid ho; have HB4 := hid hb; obtain ⟨sa2, sc2, hv⟩ := ho.shape; subst hv; clear ho hb)
  have HP4 := hid (HO2.out.below HB4.out)
  have HF4 := hid ((HB4.out.block gf (hp_lt HF2.out)).trans HF2.out)
  have HC4 := hid (HB2.out.trans (HB4.out.mono HB2.out.size))
  have k0 : ∀ q, (w4.drewN q).cell? ⟨gf, 0, none⟩ = some (.int .i64 e) := fun q => by show w4.cell? _ = _; rw [cell_of_row _ _ _ _ _ _ HF4.out]; rfl
  have k1 : ∀ q, (w4.drewN q).cell? ⟨gf, 1, none⟩ = some (.int .i64 (g : Int)) := fun q => by show w4.cell? _ = _; rw [cell_of_row _ _ _ _ _ _ HF4.out]; rfl
  go_upto_region 5 with first
    | (go_at_call 10; refine (HSA.out _ _ _ HP4.out.incs HO4.out.incs).mono ?_; rintro r w5 ⟨rfl, q, rfl⟩)
    | (go_at_call 11; refine (HH.out _ (HT.out.below (below_drewN HC4.out _))).mono ?_; rintro r w6 ⟨rfl, hb⟩; have HB6 : Hid (Below w4.heap.size w4 w6) := hid ((below_drewN (Below.refl _ _) _).trans hb); clear hb)
  have HC6 := hid (HC4.out.trans (HB6.out.mono HC4.out.size))
  have HP6 := hid (HP4.out.below HB6.out)
  have HO6 := hid (HO4.out.below HB6.out)
  go_upto_region 8 with (go_at_call 12; refine (HNA.out _ _ HP6.out.incs).mono ?_; rintro r w7 ⟨v3, rfl, ho, hb⟩; have HO7 := hid ho; have HB7 := hid hb; obtain ⟨sa3, sc3, hv⟩ := ho.strs.shape; rw [hnl] at hv; subst hv; clear ho hb)
  have HC7 := hid (HC6.out.trans (HB7.out.mono HC6.out.size))
  have HQ7 := hid (HO6.out.below HB7.out).incs
  clear k0 k1
  go_wp2
  go_loopw [54] (fun i wr => ∃ k q : Nat, i = .int .i64 k ∧ k ≤ L.length ∧ wr = w7.drewN q) (fun i _ => L.length - (intOf i).toNat)
  case atStart => exact ⟨0, 0, rfl, Nat.zero_le _, rfl⟩
  case round =>
    obtain ⟨i, q, rfl, hi, rfl⟩ := hrel
    by_cases hlt : i < L.length
    · have q1 : (i : Int) < (L.length : Int) := by omega
      obtain ⟨g1, o1, hs1, u0⟩ := HO7.out.strs.at i (by rw [hnl]; exact hlt)
      obtain ⟨g2, o2, hs2, _, _, y1, _⟩ := HQ7.out.at i hlt
      subst hs1 hs2
      have hnm : (nmL L).getD i [] = (L.getD i noI).2.1 := by
        unfold nmL
        rw [List.getD_eq_getElem?_getD, List.getD_eq_getElem?_getD, List.getElem?_map, List.getElem?_eq_getElem hlt]
        rfl
      rw [hnm] at u0
      obtain ⟨n, HK⟩ : ∃ t, Hid ((L.getD i noI).2.1 = t) := ⟨_, rfl⟩
      rw [HK.out] at u0 y1
      have f2 : ((mk n).toList == (mk n).toList) = true := by simp
      clear hnm
      go_wp2_with fail
      go_quiet (fail)
      go_wp2
      exact ⟨⟨i + 1, _, by simp, by omega, rfl⟩, by simp [intOf]; omega⟩
    · have q1 : ¬ (i : Int) < (L.length : Int) := by omega
      go_wp2_with (go_at_call 13; refine (HAL.out _ (HT.out.below (below_drewN HC7.out _))).mono ?_; rintro r w8 ⟨rfl, hb8⟩)
      go_ret
      exact ⟨rfl, (below_drewN HC7.out _).trans (hb8.mono HC7.out.size)⟩

end Go.Proofs.YtlpengaclkidiaaDoor

/- LexBack: values survive the way to text and back. -/
namespace Go.Proofs.YtlpengaclkidiaaDoor
open Go.RowKit

theorem hx_hex : ∀ q : Fin 16, hxN (hexQ q.val) = q.val := by decide +kernel
theorem pc_qp (c : UInt8) (r : List UInt8) : pcP (qpP c ++ r) = (c, (qpP c).length) ∧ ¬ (qpP c ++ r).getD 0 0 = 34 := by
  unfold qpP
  split
  · rename_i h; subst h
    exact ⟨by unfold pcP; simp, by simp⟩
  · split
    · rename_i h; subst h
      exact ⟨by unfold pcP; simp, by simp⟩
    · split
      · rename_i h1 h2 h
        rcases h with rfl | rfl
        · exact ⟨by unfold pcP; simp, by simp⟩
        · exact ⟨by unfold pcP; simp, by simp⟩
      · split
        · rename_i h1 h2 h3 h4
          refine ⟨pc_plain (by simp) (by simp) h4, ?_⟩
          simp only [List.singleton_append, List.getD_cons_zero]
          exact fun e => h3 (Or.inl e)
        · refine ⟨?_, by simp⟩
          have hc := c.toNat_lt
          have e1 := hx_hex ⟨c.toNat / 16, by omega⟩
          have e2 := hx_hex ⟨c.toNat % 16, by omega⟩
          simp only at e1 e2
          rw [pc_coded (by simp) (by simp) (by simp)]
          unfold cdQ
          simp only [List.cons_append, List.nil_append, List.getD_cons_succ, List.getD_cons_zero]
          rw [e1, e2, if_pos ⟨by omega, by omega⟩]
          have : UInt8.ofNat (16 * (c.toNat / 16) + c.toNat % 16) = c := by
            rw [show 16 * (c.toNat / 16) + c.toNat % 16 = c.toNat by omega]
            simp
          rw [this]
          rfl
theorem qp_pos (c : UInt8) : (qpP c).length ≠ 0 := by
  unfold qpP
  repeat' split
  all_goals simp
theorem tx_flat (v r : List UInt8) : txP (v.flatMap qpP ++ 34 :: r) = some (v, (v.flatMap qpP).length + 1) := by
  induction v with
  | nil => exact txP_quote rfl
  | cons c t ih =>
    rw [List.flatMap_cons, List.append_assoc]
    obtain ⟨h1, h2⟩ := pc_qp c (t.flatMap qpP ++ 34 :: r)
    rw [txP_step h2 (by rw [h1]; exact qp_pos c), h1, List.drop_left, ih]
    simp only [Option.map_some, List.length_append, Nat.add_assoc]
theorem qu_len (v : List UInt8) : (quP v).length = (v.flatMap qpP).length + 2 := by
  show (34 :: (v.flatMap qpP ++ [34])).length = _
  rw [List.length_cons, List.length_append]
  rfl
theorem js_quote {v : List UInt8} (hv : v.length ≤ 4096) : jsP 3 (quP v) = true ∧ txP ((quP v).drop 1) = some (v, (quP v).length - 1) := by
  have h1 : (quP v).drop 1 = v.flatMap qpP ++ 34 :: [] := rfl
  have h2 := tx_flat v []
  have hl := qu_len v
  refine ⟨?_, by rw [h1, h2, hl]; rfl⟩
  unfold jsP
  rw [decide_eq_true_eq]
  unfold tokP
  rw [if_neg (by omega), show (quP v).getD 0 0 = 34 from rfl, if_neg (by decide), if_neg (by decide), if_pos rfl]
  unfold tqP
  rw [h1, h2]
  simp only
  rw [if_pos hv, hl]
theorem qp_least {l : List UInt8} {c : UInt8} {k : Nat} (h : pcP l = (c, k)) (hk : k ≠ 0) : (qpP c).length ≤ k := by
  unfold pcP at h
  split at h
  · simp only [Prod.mk.injEq] at h; omega
  · split at h
    · split at h
      · rename_i hp
        simp only [Prod.mk.injEq] at h
        obtain ⟨h1, h2⟩ := h
        rw [h1] at hp
        have hq : qpP c = [c] := by
          unfold qpP
          have a1 : ¬ c = 10 := by rintro rfl; revert hp; decide
          have a2 : ¬ c = 9 := by rintro rfl; revert hp; decide
          have a3 : ¬ (c = 34 ∨ c = 92) := by rintro (rfl | rfl) <;> (revert hp; decide)
          rw [if_neg a1, if_neg a2, if_neg a3, if_pos hp]
        rw [hq, ← h2]
        simp
      · simp only [Prod.mk.injEq] at h; omega
    · split at h
      · simp only [Prod.mk.injEq] at h; omega
      · split at h
        · simp only [Prod.mk.injEq] at h; rw [← h.1, ← h.2]; decide
        · split at h
          · simp only [Prod.mk.injEq] at h; rw [← h.1, ← h.2]; decide
          · split at h
            · rename_i hq
              simp only [Prod.mk.injEq] at h
              rw [h.1] at hq
              rw [← h.2]
              rcases hq with rfl | rfl <;> decide
            · split at h
              · simp only [Prod.mk.injEq] at h
                rw [← h.2]; exact qp_len c
              · simp only [Prod.mk.injEq] at h; omega
theorem tx_least {l v : List UInt8} {m : Nat} (h : txP l = some (v, m)) : (v.flatMap qpP).length + 1 ≤ m := by
  induction hn : l.length using Nat.strongRecOn generalizing l v m with
  | _ n ih =>
    by_cases hq : l.getD 0 0 = 34
    · rw [txP_quote hq] at h
      injection h with h; injection h with h1 h2
      rw [← h1, ← h2]; simp
    · by_cases hp : (pcP l).2 = 0
      · rw [txP_bad hq hp] at h; cases h
      · rw [txP_step hq hp] at h
        cases e : txP (l.drop (pcP l).2) with
        | none => rw [e] at h; cases h
        | some r =>
          rw [e] at h
          injection h with h; injection h with h1 h2
          have hle := pcP_le l
          have i := ih (l.drop (pcP l).2).length (by rw [List.length_drop]; omega) (v := r.1) e rfl
          have j := qp_least (c := (pcP l).1) (k := (pcP l).2) rfl hp
          rw [← h1, ← h2, List.flatMap_cons, List.length_append]
          omega

end Go.Proofs.YtlpengaclkidiaaDoor

/- Includes are written; other includes in a text's place: what With answers. -/
namespace Go.Proofs.YtlpengaclkidiaaDoor
open Go.RowKit

def wl1 : List UInt8 := [105, 110, 99, 108, 117, 100, 101, 32]
def wl2 : List UInt8 := [32, 97, 115, 32]
def wl3 : List UInt8 := [59, 10]
/-- an include's line -/
def wlP (x : List UInt8 × List UInt8 × Int) : List UInt8 := wl1 ++ quP x.1 ++ wl2 ++ x.2.1 ++ wl3
/-- an include that may be -/
def okI (x : List UInt8 × List UInt8 × Int) : Bool := decide (x.1.length ≤ 4096) && jsP 1 x.2.1
theorem okI_len {x : List UInt8 × List UInt8 × Int} (h : okI x = true) : x.1.length ≤ 4096 ∧ x.2.1.length ≤ 32 ∧ jsP 1 x.2.1 = true := by
  unfold okI at h
  rw [Bool.and_eq_true] at h
  have hn := ((js_word x.2.1).1.1 h.2).1
  obtain ⟨_, h2, _⟩ := of_decide_eq_true hn
  exact ⟨of_decide_eq_true h.1, h2, h.2⟩
theorem wl_len {x : List UInt8 × List UInt8 × Int} (h : okI x = true) : (wlP x).length ≤ 17000 ∧ 14 ≤ (wlP x).length := by
  obtain ⟨h1, h2, h3⟩ := okI_len h
  have hf := flat_len x.1
  unfold wlP
  simp only [List.length_append, qu_len]
  have e1 : wl1.length = 8 := rfl
  have e2 : wl2.length = 4 := rfl
  have e3 : wl3.length = 2 := rfl
  omega
/-- what With answers -/
def wiP (l : List UInt8) (L : List (List UInt8 × List UInt8 × Int)) : List UInt8 × Int :=
  if (isP l).2.2.1 ≠ 0 then ([], (isP l).2.2.1)
  else if L.all okI = false then ([], 1)
  else if 65536 < (L.flatMap wlP ++ l.drop (isP l).2.1).length then ([], 3)
  else (L.flatMap wlP ++ l.drop (isP l).2.1, 0)

/-- blocks of other things stay -/
def Oth (w w' : World) (b : Nat) : Prop := ∀ k cs T z, T ≠ 5 → k ≠ b → w.heap[k]? = some (.cells cs T z) → w'.heap[k]? = some (.cells cs T z)
theorem Oth.trans {w w' w'' : World} {b : Nat} (h : Oth w w' b) (h' : Oth w' w'' b) : Oth w w'' b := fun k cs T z h1 h2 h3 => h' k cs T z h1 h2 (h k cs T z h1 h2 h3)
theorem Oth.of {w w' : World} {b : Nat} (h : Below w.heap.size w w') : Oth w w' b := fun k _ _ _ _ _ h3 => (h.block k (hp_lt h3)).trans h3
theorem cc_oth (B b : Nat) (bs : List UInt8) (w : World) (h : Bq w B b bs) :
    Calls Tryd.prog 57 #[.pointer (some ⟨b, 0, none⟩)] w fun e w' => e = .returned (.tuple #[]) ∧ Lib.BuilderAt 68 5 B b (.pointer (some ⟨b, 0, none⟩)) (bytesV bs) w' ∧ Below B w w' ∧ Oth w w' b := by
  rcases h with h | h
  · refine (cc_fresh b w h.cell0 h.shape h.frozen0).mono ?_
    rintro e w' ⟨rfl, rfl⟩
    exact ⟨rfl, h.used _, (Below.refl B w).setCell (p := ⟨b, 0, none⟩) h.1 _, fun k _ _ _ _ h2 h3 => (hp_set w k b 0 _ h2).trans h3⟩
  · refine (cc_used b w h.cell0).mono ?_
    rintro e w' ⟨rfl, rfl⟩
    exact ⟨rfl, h, Below.refl B _, fun _ _ _ _ _ _ h3 => h3⟩
theorem oth_app {w w1 w2 : World} {B b : Nat} {v : Value} {bs : List UInt8} (h : Oth w w1 b) (ho : OwnB w1 B v bs) (hg : w1.grownBy w2 v.ownBlock) (u : Value) : Oth w (w2.setCell ⟨b, 1, none⟩ u) b := fun k cs T z h1 h2 h3 => by
  have h4 := h k cs T z h1 h2 h3
  refine (hp_set w2 k b 1 u h2).trans ((hg.block k (hp_lt h4) (fun e => ?_)).trans h4)
  rcases ho.2 with ⟨rfl, _⟩ | ⟨g, cap, cur, rfl, _, h5, _⟩
  · cases e
  · obtain rfl : k = g := by simpa [Value.ownBlock] using e
    rw [h4] at h5
    injection h5 with h5
    injection h5 with _ h5 _
    exact h1 h5

set_option maxHeartbeats 2000000 in
set_option maxRecDepth 100000 in
theorem wstr_big (B b : Nat) (bs cs : List UInt8) (w : World) (h : Bq w B b bs) (hlen : bs.length ≤ 1000000) (hcl : cs.length ≤ 1000000) (hBw : B ≤ w.heap.size) :
    Calls Tryd.prog 34 #[.pointer (some ⟨b, 0, none⟩), .string (mk cs)] w fun e w' => e = .returned (.tuple #[.int .i64 (cs.length : Nat), .nilIface]) ∧ Bq w' B b (bs ++ cs) ∧ Below B w w' ∧ Oth w w' b := by
  have hsz := mk_size cs
  have H1 := hid (cc_oth B b bs w h)
  clear h
  go_enter Tryd.func34, Tryd.ntmps34
  go_wp2_with first
    | (go_at_call 57; refine H1.out.mono ?_; clear H1; rintro e w1 ⟨rfl, hbu, hb1, ho1⟩
       have HOT := hid ho1
       clear ho1
       obtain ⟨hB, v, hbk, hown, hne⟩ := hbu
       rw [bytesV_length] at hown
       have HO : Hid (OwnB w1 B v bs) := hown
       obtain ⟨sa, sc, rfl⟩ := HO.out.shape
       have HBK := hid hbk
       have HNE := hid hne
       have HB1 := hid hb1
       have hblt : b < w1.heap.size := hp_lt hbk
       have c0 : w1.cell? ⟨b, 0, none⟩ = some (.pointer (some ⟨b, 0, none⟩)) := by rw [cell_of_row _ _ _ _ _ _ hbk]; rfl
       have c1 : w1.cell? ⟨b, 1, none⟩ = some (.slice sa bs.length sc) := by rw [cell_of_row _ _ _ _ _ _ hbk]; rfl
       clear hbk hown hne hb1)
    | (refine app_str (by rfl) (.tmp 12) (.tmp 13) (by rfl) B _ bs (by rfl) HO.out (mk cs) (by rfl) (by rw [mk_size]; omega) (by have := HB1.out.size; omega) ?_
       intro v' w2 ho hg
       have ho : OwnB w2 B v' (bs ++ cs) := ho
       obtain ⟨sa2, sc2, hv2⟩ := ho.shape
       rw [show (bs ++ cs).length = bs.length + cs.length by simp] at hv2
       subst hv2
       have hp := bq_put hB HBK.out HNE.out hg ho
       have HQ := hid hp.2
       have hbg : Below B w w2 := HB1.out.grown hg (by have := HB1.out.size; omega) (fun q hq => (HO.out.lt q hq).1)
       have HOG := hid (oth_app HOT.out HO.out hg (.slice sa2 (bs.length + cs.length) sc2))
       have HBG := hid (hbg.setCell (p := ⟨b, 1, none⟩) hB (.slice sa2 (bs.length + cs.length) sc2))
       have d0 : w2.cell? ⟨b, 0, none⟩ = some (.pointer (some ⟨b, 0, none⟩)) := by rw [cell_of_row _ _ _ _ _ _ hp.1]; rfl
       have d1 : w2.cell? ⟨b, 1, none⟩ = some (.slice sa bs.length sc) := by rw [cell_of_row _ _ _ _ _ _ hp.1]; rfl
       have fz : w2.frozen? ⟨b, 1, none⟩ = false := by simp [World.frozen?, hp.1]
       clear hp ho hg hbg)
  go_ret2
  exact ⟨rfl, HQ.out, HBG.out, HOG.out⟩

theorem Bq.below {w w' : World} {B b : Nat} {bs : List UInt8} (h : Bq w B b bs) (hb : Below w.heap.size w w') : Bq w' B b bs := by
  rcases h with ⟨hB, v, h1, h2, h3⟩ | ⟨hB, v, h1, h2, h3⟩
  · exact Or.inl ⟨hB, v, (hb.block b (hp_lt h1)).trans h1, World.ownsRow.kept h2 (below_gb hb none) (by cases e : v.ownBlock <;> simp), h3⟩
  · exact Or.inr ⟨hB, v, (hb.block b (hp_lt h1)).trans h1, World.ownsRow.kept h2 (below_gb hb none) (by cases e : v.ownBlock <;> simp), h3⟩
theorem Bq.c1 {w : World} {B b : Nat} {bs : List UInt8} (h : Bq w B b bs) : ∃ sa sc, w.cell? ⟨b, 1, none⟩ = some (.slice sa bs.length sc) := by
  have key : ∀ (p v : Value), w.heap[b]? = some (.cells #[p, v] 68 (0, 0)) → w.ownsRow B 5 1 v (bytesV bs).length (bytesV bs) → ∃ sa sc, w.cell? ⟨b, 1, none⟩ = some (.slice sa bs.length sc) := fun p v h1 h2 => by
    rw [bytesV_length] at h2
    obtain ⟨sa, sc, rfl⟩ := OwnB.shape (show OwnB w B v bs from h2)
    exact ⟨sa, sc, by rw [cell_of_row _ _ _ _ _ _ h1]; rfl⟩
  rcases h with ⟨hB, v, h1, h2, h3⟩ | ⟨hB, v, h1, h2, h3⟩
  · exact key _ v h1 h2
  · exact key _ v h1 h2
theorem Bq.lo {w : World} {B b : Nat} {bs : List UInt8} (h : Bq w B b bs) : B ≤ b ∧ b < w.heap.size := by
  rcases h with ⟨hB, v, h1, h2, h3⟩ | ⟨hB, v, h1, h2, h3⟩
  · exact ⟨hB, hp_lt h1⟩
  · exact ⟨hB, hp_lt h1⟩

set_option maxRecDepth 20000 in
theorem blen_any (B b : Nat) (bs : List UInt8) (w : World) (h : Bq w B b bs) :
    Calls Tryd.prog 33 #[.pointer (some ⟨b, 0, none⟩)] w fun e w' => e = .returned (.int .i64 (bs.length : Int)) ∧ w' = w := by
  obtain ⟨sa, sc, c1⟩ := h.c1
  have hb := h.lo.2
  clear h
  go_enter Tryd.func33, Tryd.ntmps33
  go_wp2
  go_ret
  exact ⟨rfl, rfl⟩

set_option maxRecDepth 20000 in
set_option maxHeartbeats 1000000 in
theorem maybe_any (x : List UInt8 × List UInt8 × Int) (h1 : x.1.length ≤ 140737488355328) (h2 : x.2.1.length ≤ 140737488355328) (w : World) (hT : Tabs w) :
    Calls Tryd.prog 31 #[.agg #[.string (mk x.1), .string (mk x.2.1), .int .i64 x.2.2]] w fun e w' => e = .returned (.bool (okI x)) ∧ Below w.heap.size w w' := by
  obtain ⟨p, n, t⟩ := x
  show Calls _ _ _ _ fun e w' => e = .returned (.bool (decide (p.length ≤ 4096) && jsP 1 n)) ∧ Below w.heap.size w w'
  have hmk := mk_size p
  have HB := hid (below_walk w (.cells #[.string (mk p), .string (mk n), .int .i64 t] 35))
  have HW := hid (word_is n h2 _ (hT.below HB.out))
  have hf := hp_new w (.cells #[.string (mk p), .string (mk n), .int .i64 t] 35)
  have c0 : (w.alloc (.cells #[.string (mk p), .string (mk n), .int .i64 t] 35)).cell? ⟨w.heap.size, 0, none⟩ = some (.string (mk p)) := by rw [cell_of_row _ _ _ _ _ _ hf]; rfl
  have c1 : (w.alloc (.cells #[.string (mk p), .string (mk n), .int .i64 t] 35)).cell? ⟨w.heap.size, 1, none⟩ = some (.string (mk n)) := by rw [cell_of_row _ _ _ _ _ _ hf]; rfl
  clear hf hT h2
  by_cases hq : p.length ≤ 4096
  · have q1 : (p.length : Int) ≤ 4096 := by omega
    rw [decide_eq_true hq, Bool.true_and]
    obtain ⟨j, HJ⟩ : ∃ j, Hid (jsP 1 n = j) := ⟨_, rfl⟩
    rw [HJ.out] at HW
    rw [HJ.out]
    go_enter Tryd.func31, Tryd.ntmps31
    go_upto_region 1 with (refine bx_row (by rfl) 35 (.tmp 0) (by rfl) _ (by rfl) ?_)
    generalize w.alloc (.cells #[.string (mk p), .string (mk n), .int .i64 t] 35) = w1 at *
    go_wp2_with (go_at_call 55; refine HW.out.mono ?_; rintro e w' ⟨rfl, m, rfl⟩)
    go_ret
    exact ⟨rfl, below_drewN HB.out _⟩
  · have q1 : ¬ (p.length : Int) ≤ 4096 := by omega
    rw [decide_eq_false hq, Bool.false_and]
    go_enter Tryd.func31, Tryd.ntmps31
    go_upto_region 1 with (refine bx_row (by rfl) 35 (.tmp 0) (by rfl) _ (by rfl) ?_)
    generalize w.alloc (.cells #[.string (mk p), .string (mk n), .int .i64 t] 35) = w1 at *
    go_wp2
    go_ret
    exact ⟨rfl, HB.out⟩

set_option maxRecDepth 20000 in
set_option maxHeartbeats 2000000 in
theorem wrinc_any (B b : Nat) (bs : List UInt8) (x : List UInt8 × List UInt8 × Int) (hx : okI x = true) (w : World) (h : Bq w B b bs) (hlen : bs.length ≤ 100000) (hBw : B ≤ w.heap.size) :
    Calls Tryd.prog 32 #[.pointer (some ⟨b, 0, none⟩), .agg #[.string (mk x.1), .string (mk x.2.1), .int .i64 x.2.2]] w fun e w' => e = .returned (.tuple #[]) ∧ Bq w' B b (bs ++ wlP x) ∧ Below B w w' ∧ Oth w w' b := by
  obtain ⟨hp, hn, _⟩ := okI_len hx
  obtain ⟨p, n, t⟩ := x
  simp only at hp hn ⊢
  have hfl := flat_len p
  have hql := qu_len p
  have HB := hid (below_walk w (.cells #[.string (mk p), .string (mk n), .int .i64 t] 35))
  have HQ1 := hid (h.below HB.out)
  have HK1 := hid (hp_new w (.cells #[.string (mk p), .string (mk n), .int .i64 t] 35))
  have HQU := hid (quote_any p hp)
  have e1 : wl1.length = 8 := rfl
  have e2 : wl2.length = 4 := rfl
  have e3 : wl3.length = 2 := rfl
  obtain ⟨Q, HQE⟩ : ∃ q, Hid (quP p = q) := ⟨_, rfl⟩
  rw [HQE.out] at hql HQU
  have hQ : Q.length ≤ 17000 := by omega
  have hsz := hp_size w (.cells #[.string (mk p), .string (mk n), .int .i64 t] 35)
  have W1 := hid (fun W hW hs => wstr_big B b bs wl1 W hW (by omega) (by omega) hs)
  have W2 := hid (fun W hW hs => wstr_big B b (bs ++ wl1) Q W hW (by rw [List.length_append]; omega) (by omega) hs)
  have W3 := hid (fun W hW hs => wstr_big B b (bs ++ wl1 ++ Q) wl2 W hW (by rw [List.length_append, List.length_append]; omega) (by omega) hs)
  have W4 := hid (fun W hW hs => wstr_big B b (bs ++ wl1 ++ Q ++ wl2) n W hW (by rw [List.length_append, List.length_append, List.length_append]; omega) (by omega) hs)
  have W5 := hid (fun W hW hs => wstr_big B b (bs ++ wl1 ++ Q ++ wl2 ++ n) wl3 W hW (by rw [List.length_append, List.length_append, List.length_append, List.length_append]; omega) (by omega) hs)
  have HLO := hid h.lo
  have k1 := cell_of_row _ _ 1 _ _ _ HK1.out
  clear h hfl
  go_enter Tryd.func32, Tryd.ntmps32
  go_upto_region 1 with (refine bx_row (by rfl) 35 (.tmp 1) (by rfl) _ (by rfl) ?_)
  have c0 : (w.alloc (.cells #[.string (mk p), .string (mk n), .int .i64 t] 35)).cell? ⟨w.heap.size, 0, none⟩ = some (.string (mk p)) := by rw [cell_of_row _ _ _ _ _ _ HK1.out]; rfl
  clear k1
  generalize w.alloc (.cells #[.string (mk p), .string (mk n), .int .i64 t] 35) = w1 at *
  go_upto_region 2 with (go_at_call 56; refine (HQU.out _).mono ?_; rintro r w2 ⟨rfl, hb⟩; have HB2 := hid hb; clear hb)
  have HQ2 := hid (HQ1.out.below HB2.out)
  have HS2 := hid (show B ≤ w2.heap.size by have := HB2.out.size; omega)
  go_upto_region 3 with (go_at_call 34; refine (W1.out _ HQ2.out HS2.out).mono ?_; rintro r w3 ⟨rfl, hq, hb, ho⟩; have HQ3 := hid hq; have HB3 := hid hb; have HO3 := hid ho; clear hq hb ho)
  go_upto_region 4 with (go_at_call 34; refine (W2.out _ HQ3.out (Nat.le_trans HS2.out HB3.out.size)).mono ?_; rintro r w4 ⟨rfl, hq, hb, ho⟩; have HQ4 := hid hq; have HB4 := hid (HB3.out.trans hb); have HO4 := hid (HO3.out.trans ho); clear hq hb ho)
  go_upto_region 5 with (go_at_call 34; refine (W3.out _ HQ4.out (Nat.le_trans HS2.out HB4.out.size)).mono ?_; rintro r w5 ⟨rfl, hq, hb, ho⟩; have HQ5 := hid hq; have HB5 := hid (HB4.out.trans hb); have HO5 := hid (HO4.out.trans ho); clear hq hb ho)
  have k5 := HO5.out _ _ _ _ (by decide) (by have := HLO.out.2; omega) ((HB2.out.block _ (hp_lt HK1.out)).trans HK1.out)
  have c5 : w5.cell? ⟨w.heap.size, 1, none⟩ = some (.string (mk n)) := by rw [cell_of_row _ _ _ _ _ _ k5]; rfl
  clear k5
  go_upto_region 6 with (go_at_call 34; refine (W4.out _ HQ5.out (Nat.le_trans HS2.out HB5.out.size)).mono ?_; rintro r w6 ⟨rfl, hq, hb, ho⟩; have HQ6 := hid hq; have HB6 := hid (HB5.out.trans hb); have HO6 := hid (HO5.out.trans ho); clear hq hb ho)
  go_wp2_with (go_at_call 34; refine (W5.out _ HQ6.out (Nat.le_trans HS2.out HB6.out.size)).mono ?_; rintro r w7 ⟨rfl, hq, hb, ho⟩)
  go_end0
  refine ⟨rfl, ?_, ((HB.out.mono hBw).trans (HB2.out.mono (by omega))).trans (HB6.out.trans hb), ((Oth.of HB.out).trans (Oth.of HB2.out)).trans (HO6.out.trans ho)⟩
  have e : bs ++ wlP (p, n, t) = bs ++ wl1 ++ Q ++ wl2 ++ n ++ wl3 := by
    unfold wlP
    simp only [HQE.out, List.append_assoc]
  rw [e]
  exact hq

end Go.Proofs.YtlpengaclkidiaaDoor

/- Includes that were written are found, plainly. -/
namespace Go.Proofs.YtlpengaclkidiaaDoor
open Go.RowKit

/-- a name, and behind it no byte of a name -/
theorem tok_word {n r : List UInt8} (h : nmT n = true) (hr : ∀ c, r.head? = some c → wdB c = false) : tokP (n ++ r) = if n ∈ kyL then (4, n.length, 0) else (1, n.length, 0) := by
  obtain ⟨a, b, c, d⟩ := of_decide_eq_true h
  have g : ∀ j, j < n.length → (n ++ r).getD j 0 = n.getD j 0 := fun j hj => by
    rw [List.getD_eq_getElem?_getD, List.getD_eq_getElem?_getD, List.getElem?_append_left hj]
  have ht : twN wdB (n ++ r) = n.length := by
    refine twN_eq (by rw [List.length_append]; omega) (fun j hj => by rw [g j hj]; exact d j hj) (fun hl => ?_)
    rw [List.getD_eq_getElem?_getD, List.getElem?_append_right (Nat.le_refl _), Nat.sub_self]
    cases r with
    | nil => simp at hl
    | cons x t => exact hr x rfl
  unfold tokP
  rw [if_neg (by rw [List.length_append]; omega), if_pos (by rw [g 0 a]; exact c)]
  unfold wdP
  rw [ht, if_neg (by omega), List.take_left]
theorem gap_none {r : List UInt8} (h : ∀ c, r.head? = some c → bkB c = false ∧ c ≠ 47) : gapP r = 0 := by
  match r with
  | [] => rfl
  | c :: t =>
    obtain ⟨h1, h2⟩ := h c rfl
    unfold gapP
    rw [gapN, if_neg (by rw [h1]; decide), if_neg (fun x => h2 x.1)]
theorem gap_blank {c : UInt8} {r : List UInt8} (h : bkB c = true) : gapP (c :: r) = gapP r + 1 := by
  unfold gapP; rw [gapN, if_pos h]

/-- the token behind a place, by what stands there -/
theorem nx_at {l X : List UInt8} {a g k n : Nat} (hl : l.length ≤ 65536) (hX : l.drop a = X) (ha : a ≤ l.length) (hg : gapP X = g) (ht : tokP (X.drop g) = (k, n, 0)) : nxP l (a : Int) = ((k, a + g, a + g + n), 0) := by
  have hf : frP l a = a + g := by unfold frP; rw [hX, hg]
  have htk : tkP l a = (k, n, 0) := by unfold tkP; rw [hf, ← List.drop_drop, hX]; exact ht
  have hp : plN l (a : Int) = 0 := by unfold plN; rw [if_neg (by omega), if_neg (by omega)]
  unfold nxP
  rw [hp, if_neg (by simp)]
  simp only [Int.toNat_natCast]
  rw [htk, hf, if_neg (by simp)]
theorem pl_of {l : List UInt8} {p a k f m : Nat} (hn : nxP l (a : Int) = ((k, f, m), 0)) (hf : fitP p k (ttP l f m) = true) : plP l p a = ((k, f, m), 0) := by
  unfold plP
  rw [hn, if_neg (by simp)]
  simp only
  rw [hf, if_pos rfl]

/-! what stands behind other bytes -/
theorem drop_sh (P X : List UInt8) (a : Nat) : (P ++ X).drop (P.length + a) = X.drop a := by
  rw [← List.drop_drop, List.drop_left]
theorem tt_sh (P X : List UInt8) (f m : Nat) : ttP (P ++ X) (P.length + f) (P.length + m) = ttP X f m := by
  unfold ttP
  rw [Nat.add_sub_add_left, drop_sh]
theorem nx_eq {l : List UInt8} {a : Nat} (hl : l.length ≤ 65536) (ha : a ≤ l.length) : nxP l (a : Int) = if (tkP l a).2.2 ≠ 0 then ((0, frP l a, 0), (tkP l a).2.2) else (((tkP l a).1, frP l a, frP l a + (tkP l a).2.1), 0) := by
  have hp : plN l (a : Int) = 0 := by unfold plN; rw [if_neg (by omega), if_neg (by omega)]
  unfold nxP
  rw [hp, if_neg (by simp)]
  simp only [Int.toNat_natCast]
theorem nx_sh {P X : List UInt8} {a : Nat} (hl : (P ++ X).length ≤ 65536) (ha : a ≤ X.length) : (nxP (P ++ X) ((P.length + a : Nat) : Int)).2 = (nxP X (a : Int)).2 ∧ ((nxP X (a : Int)).2 = 0 → (nxP (P ++ X) ((P.length + a : Nat) : Int)).1 = ((nxP X (a : Int)).1.1, P.length + (nxP X (a : Int)).1.2.1, P.length + (nxP X (a : Int)).1.2.2)) := by
  have hf : frP (P ++ X) (P.length + a) = P.length + frP X a := by unfold frP; rw [drop_sh]; omega
  have ht : tkP (P ++ X) (P.length + a) = tkP X a := by unfold tkP; rw [hf, drop_sh]
  have hx : X.length ≤ 65536 := by rw [List.length_append] at hl; omega
  rw [nx_eq hl (by rw [List.length_append]; omega), nx_eq hx ha, ht, hf]
  by_cases he : (tkP X a).2.2 ≠ 0
  · rw [if_pos he, if_pos he]
    exact ⟨rfl, fun h => absurd h he⟩
  · rw [if_neg he, if_neg he]
    exact ⟨rfl, fun _ => by simp only [Nat.add_assoc]⟩
theorem pl_sh {P X : List UInt8} {p a k f m : Nat} (hl : (P ++ X).length ≤ 65536) (ha : a ≤ X.length) (h : plP X p a = ((k, f, m), 0)) : plP (P ++ X) p (P.length + a) = ((k, P.length + f, P.length + m), 0) := by
  have hx : X.length ≤ 65536 := by rw [List.length_append] at hl; omega
  rcases pl_view p hx ha with ⟨e, f', h0, _, _, _, hf, hn, hp⟩ | ⟨k', f', m', _, hfm, hm, hn, hb, hp⟩ | ⟨k', f', m', _, hfm, hm, hn, hb, hp, _⟩
  · rw [hp] at h; simp only [Prod.mk.injEq] at h; omega
  · rw [hp] at h; simp only [Prod.mk.injEq] at h; omega
  · rw [hp] at h
    simp only [Prod.mk.injEq, and_true] at h
    obtain ⟨rfl, rfl, rfl⟩ := h
    obtain ⟨s1, s2⟩ := nx_sh hl ha
    rw [hn] at s1 s2
    have s2 := s2 rfl
    refine pl_of (Prod.ext s2 s1) ?_
    rw [tt_sh]; exact hb
theorem pl_sh_no {P X : List UInt8} {p a : Nat} (hl : (P ++ X).length ≤ 65536) (ha : a ≤ X.length) (h : (plP X p a).2 ≠ 0) : (plP (P ++ X) p (P.length + a)).2 ≠ 0 := by
  have hx : X.length ≤ 65536 := by rw [List.length_append] at hl; omega
  obtain ⟨s1, s2⟩ := nx_sh hl ha
  rcases pl_view p hx ha with ⟨e, f', h0, _, _, _, hf, hn, hp⟩ | ⟨k', f', m', _, hfm, hm, hn, hb, hp⟩ | ⟨k', f', m', _, hfm, hm, hn, hb, hp, _⟩
  · rw [hn] at s1
    unfold plP
    rw [if_pos (by rw [s1]; exact h0), s1]
    exact h0
  · rw [hn] at s1 s2
    have s2 := s2 rfl
    unfold plP
    rw [if_neg (by rw [s1]; simp), s2]
    simp only
    rw [tt_sh, hb, if_neg (by simp)]
    simp
  · rw [hp] at h; simp at h
theorem in_sh {P X : List UInt8} {a to : Nat} {v n : List UInt8} (hl : (P ++ X).length ≤ 65536) (ha : a ≤ X.length) (h : in1 X a = (0, 0, v, n, to)) : in1 (P ++ X) (P.length + a) = (0, 0, v, n, P.length + to) := by
  have hx : X.length ≤ 65536 := by rw [List.length_append] at hl; omega
  rcases in_view hx ha with ⟨e, g, h0, hg, hi2⟩ | ⟨f1, m1, k2, f2, m2, f3, m3, k4, f4, m4, i1, i2, i3, i4, i5, i6, i7, i8, i9, p1, p2, p3, p4, j3, j1, hi2⟩
  · rw [h] at hi2
    simp only [Prod.mk.injEq] at hi2
    exact absurd hi2.1.symm h0
  · rw [h] at hi2
    simp only [Prod.mk.injEq, true_and] at hi2
    obtain ⟨rfl, rfl, rfl⟩ := hi2
    have q1 := pl_sh hl ha p1
    have q2 := pl_sh hl (by omega) p2
    have q3 := pl_sh hl (by omega) p3
    have q4 := pl_sh hl (by omega) p4
    unfold in1; rw [q1, if_neg (by simp)]; unfold in2; simp only; rw [q2, if_neg (by simp)]; unfold in3; simp only; rw [q3, if_neg (by simp)]; unfold in4; simp only; rw [q4, if_neg (by simp), tt_sh, tt_sh]
theorem sc_sh {P X : List UInt8} (hl : (P ++ X).length ≤ 65536) : ∀ (n a : Nat), a ≤ X.length → X.length - a = n → ∀ (L : List (List UInt8 × List UInt8 × Nat)) (to : Nat), scP X a = (L, to, 0, 0) → scP (P ++ X) (P.length + a) = (L.map (fun x => (x.1, x.2.1, P.length + x.2.2)), P.length + to, 0, 0) := by
  have hx : X.length ≤ 65536 := by rw [List.length_append] at hl; omega
  intro n
  induction n using Nat.strongRecOn with
  | _ n ih =>
    intro a ha hn L to h
    rcases sc_view hx ha with ⟨t, e, h0, hp⟩ | ⟨k, f, x, _, _, _, hp, e, g, h0, _, hi⟩ | ⟨k, f, x, v, s, t2, h1, h2, h3, h4, hp, hi⟩
    · rw [sc_end hp h0] at h
      simp only [Prod.mk.injEq, and_true] at h
      obtain ⟨rfl, rfl⟩ := h
      have := pl_sh_no (p := 0) hl ha (by rw [hp]; exact h0)
      exact sc_end (t := (plP (P ++ X) 0 (P.length + a)).1) (e := (plP (P ++ X) 0 (P.length + a)).2) rfl this
    · rw [sc_bad hp hi h0] at h
      simp only [Prod.mk.injEq] at h
      exact absurd h.2.2.1 h0
    · rw [sc_step hx (by omega) h4 hp hi] at h
      obtain ⟨q1, q2, e2, g2, hq⟩ : ∃ L2 to2 e2 g2, scP X t2 = (L2, to2, e2, g2) := ⟨_, _, _, _, rfl⟩
      unfold jnP at h
      rw [hq] at h
      simp only at h
      split at h
      · rename_i h5
        simp only [Prod.mk.injEq] at h
        exact absurd h.2.2.1 h5
      · rename_i h5
        have h5 : e2 = 0 := Decidable.not_not.1 h5
        subst h5
        simp only [Prod.mk.injEq, and_true] at h
        obtain ⟨rfl, rfl⟩ := h
        have hq2 : scP X t2 = (q1, q2, 0, 0) := by
          have := sc_form hx (a := t2) h4
          rw [hq] at this
          unfold jnP at this
          simp only [ne_eq, not_true_eq_false, if_false, List.nil_append] at this
          rw [hq, this]
        have i2 := ih (X.length - t2) (by omega) t2 h4 rfl q1 q2 hq2
        have hto : P.length + t2 ≤ (P ++ X).length := by rw [List.length_append]; omega
        rw [sc_step hl (by omega) hto (pl_sh hl ha hp) (in_sh hl (by omega) hi), i2]
        unfold jnP
        rw [if_neg (by simp)]
        simp
/-- where the includes of a source end, none begins -/
theorem sc_stop {l : List UInt8} (hl : l.length ≤ 65536) : ∀ (n a : Nat), a ≤ l.length → l.length - a = n → ∀ (L : List (List UInt8 × List UInt8 × Nat)) (to : Nat), scP l a = (L, to, 0, 0) → (plP l 0 to).2 ≠ 0 := by
  intro n
  induction n using Nat.strongRecOn with
  | _ n ih =>
    intro a ha hn L to h
    rcases sc_view hl ha with ⟨t, e, h0, hp⟩ | ⟨k, f, x, _, _, _, hp, e, g, h0, _, hi⟩ | ⟨k, f, x, v, s, t2, h1, h2, h3, h4, hp, hi⟩
    · rw [sc_end hp h0] at h
      simp only [Prod.mk.injEq, and_true] at h
      obtain ⟨_, rfl⟩ := h
      rw [hp]; exact h0
    · rw [sc_bad hp hi h0] at h
      simp only [Prod.mk.injEq] at h
      exact absurd h.2.2.1 h0
    · rw [sc_step hl (by omega) h4 hp hi] at h
      obtain ⟨q1, q2, e2, g2, hq⟩ : ∃ L2 to2 e2 g2, scP l t2 = (L2, to2, e2, g2) := ⟨_, _, _, _, rfl⟩
      unfold jnP at h
      rw [hq] at h
      simp only at h
      split at h
      · rename_i h5
        simp only [Prod.mk.injEq] at h
        exact absurd h.2.2.1 h5
      · rename_i h5
        have h5 : e2 = 0 := Decidable.not_not.1 h5
        subst h5
        simp only [Prod.mk.injEq, and_true] at h
        obtain ⟨_, rfl⟩ := h
        have hq2 : scP l t2 = (q1, q2, 0, 0) := by
          have := sc_form hl (a := t2) h4
          rw [hq] at this
          unfold jnP at this
          simp only [ne_eq, not_true_eq_false, if_false, List.nil_append] at this
          rw [hq, this]
        exact ih (l.length - t2) (by omega) t2 h4 rfl q1 q2 hq2

end Go.Proofs.YtlpengaclkidiaaDoor

/- Lines of includes are read as what they say, and nothing more. -/
namespace Go.Proofs.YtlpengaclkidiaaDoor
open Go.RowKit

theorem tok_quote {v : List UInt8} (hv : v.length ≤ 4096) (r : List UInt8) : tokP (quP v ++ r) = (3, (quP v).length, 0) := by
  have h1 : (quP v ++ r).drop 1 = v.flatMap qpP ++ 34 :: r := by
    show (v.flatMap qpP ++ [34]) ++ r = _
    simp
  have h2 := tx_flat v r
  have hl := qu_len v
  unfold tokP
  rw [if_neg (by rw [List.length_append]; omega), show (quP v ++ r).getD 0 0 = 34 from rfl, if_neg (by decide), if_neg (by decide), if_pos rfl]
  unfold tqP
  rw [h1, h2]
  simp only
  rw [if_pos hv, hl]
theorem tok_semi (r : List UInt8) : tokP (59 :: r) = (5, 1, 0) := by
  unfold tokP
  rw [if_neg (by simp), show (59 :: r).getD 0 0 = (59 : UInt8) from rfl, if_neg (by decide), if_neg (by decide), if_neg (by decide)]
  have hs : sgP (59 :: r) = 1 := by
    unfold sgP
    have h2 : (59 :: r).take 2 ∉ sg2 := by
      have ha : sg2.all (fun x => !(x.getD 0 0 == 59)) = true := by decide
      intro hm
      have := List.all_eq_true.1 ha _ hm
      cases r with
      | nil => simp at this
      | cons c t => simp at this
    rw [if_neg h2, if_pos (show (59 :: r).take 1 ∈ sg1 by show [59] ∈ sg1; decide)]
  unfold sqP
  rw [hs, if_neg (by decide)]
theorem nm_inc : nmT kInc = true := by decide +kernel
theorem nm_as : nmT kAs = true := by decide +kernel
theorem ky_inc : kInc ∈ kyL := by decide
theorem ky_as : kAs ∈ kyL := by decide
theorem nm_head {n r : List UInt8} (h : nmT n = true) : ∀ c, (n ++ r).head? = some c → bkB c = false ∧ c ≠ 47 := by
  obtain ⟨a, b, c, d⟩ := of_decide_eq_true h
  intro x hx
  cases n with
  | nil => simp at a
  | cons y t =>
    simp only [List.cons_append, List.head?_cons, Option.some.injEq] at hx
    subst hx
    have hy : ltB y = true := by simpa using c
    have hw : wdB y = true := by unfold wdB; rw [hy]; rfl
    refine ⟨?_, ?_⟩
    · cases hb : bkB y with
      | false => rfl
      | true => rw [bk_wd hb] at hw; cases hw
    · rintro rfl
      revert hy; decide

set_option maxRecDepth 10000 in
/-- one line -/
theorem line_in {x : List UInt8 × List UInt8 × Int} (hx : okI x = true) (R : List UInt8) (hl : (wlP x ++ R).length ≤ 65536) :
    plP (wlP x ++ R) 0 0 = ((4, 0, 7), 0) ∧ in1 (wlP x ++ R) 7 = (0, 0, x.1, x.2.1, (wlP x).length - 1) := by
  obtain ⟨hp, hn32, hj⟩ := okI_len hx
  have hnm := ((js_word x.2.1).1.1 hj)
  have hq := js_quote hp
  have hQ := qu_len x.1
  obtain ⟨p, n, t⟩ := x
  simp only at hp hn32 hj hnm hq hQ ⊢
  have hwl : (wlP (p, n, t)).length = 14 + (quP p).length + n.length := by
    unfold wlP
    simp only [List.length_append]
    have e1 : wl1.length = 8 := rfl
    have e2 : wl2.length = 4 := rfl
    have e3 : wl3.length = 2 := rfl
    omega
  have tq := fun r => tok_quote hp r
  have vq : vlP (quP p) = p := by
    have := vl_text hq.1
    rw [hq.2] at this
    injection this with this
    injection this with this _
    exact this.symm
  have hq34 : ∀ r, ∀ c, (quP p ++ r).head? = some c → bkB c = false ∧ c ≠ 47 := fun r c hc => by
    have : c = 34 := by
      have h0 : (quP p ++ r).head? = some 34 := rfl
      rw [h0] at hc
      injection hc with hc
      exact hc.symm
    subst this
    exact ⟨by decide, by decide⟩
  have hY : wlP (p, n, t) ++ R = kInc ++ (32 :: (quP p ++ (32 :: (kAs ++ (32 :: (n ++ (59 :: 10 :: R))))))) := by
    unfold wlP wl1 wl2 wl3 kInc kAs
    simp [List.append_assoc]
  rw [hY] at hl ⊢
  rw [hwl]
  obtain ⟨A4, hA4⟩ : ∃ A, 59 :: 10 :: R = A := ⟨_, rfl⟩
  obtain ⟨A3, hA3⟩ : ∃ A, 32 :: (n ++ (59 :: 10 :: R)) = A := ⟨_, rfl⟩
  obtain ⟨A2, hA2⟩ : ∃ A, 32 :: (kAs ++ A3) = A := ⟨_, rfl⟩
  obtain ⟨Q, hQe⟩ : ∃ Q, quP p = Q := ⟨_, rfl⟩
  rw [hQe] at hQ hl tq vq hq34 ⊢
  rw [hA3, hA2] at hl ⊢
  have hlen : (kInc ++ (32 :: (Q ++ A2))).length = 8 + Q.length + A2.length := by
    simp only [List.length_append, List.length_cons]
    have : kInc.length = 7 := rfl
    omega
  have hA2l : A2.length = 3 + A3.length := by
    rw [← hA2]
    simp only [List.length_append, List.length_cons]
    have : kAs.length = 2 := rfl
    omega
  have hA3l : A3.length = 1 + n.length + A4.length := by
    rw [← hA3, hA4]
    simp only [List.length_append, List.length_cons]
    omega
  have hA4l : A4.length = 2 + R.length := by rw [← hA4]; simp only [List.length_cons]; omega
  obtain ⟨Y, hYe⟩ : ∃ Y, kInc ++ (32 :: (Q ++ A2)) = Y := ⟨_, rfl⟩
  have d0 : Y.drop 0 = kInc ++ (32 :: (Q ++ A2)) := by rw [hYe]; rfl
  have d1 : Y.drop 7 = 32 :: (Q ++ A2) := by rw [← hYe]; exact List.drop_left (l₁ := kInc)
  have d2 : Y.drop (8 + Q.length) = A2 := by
    rw [show 8 + Q.length = 7 + (1 + Q.length) by omega, ← List.drop_drop, d1, ← List.drop_drop, List.drop_one, List.tail_cons, List.drop_left]
  have d3 : Y.drop (11 + Q.length) = A3 := by
    rw [show 11 + Q.length = (8 + Q.length) + 3 by omega, ← List.drop_drop, d2, ← hA2]; rfl
  have d4 : Y.drop (12 + Q.length + n.length) = A4 := by
    rw [show 12 + Q.length + n.length = (11 + Q.length) + (1 + n.length) by omega, ← List.drop_drop, d3, ← hA3, ← List.drop_drop, List.drop_one, List.tail_cons, List.drop_left, hA4]
  rw [hYe] at hl hlen ⊢
  have b32 : bkB 32 = true := by decide
  have w32 : ∀ (r : List UInt8), ∀ c, (32 :: r).head? = some c → wdB c = false := fun r c hc => by
    simp only [List.head?_cons, Option.some.injEq] at hc; subst hc; decide
  -- the key include
  have n0 : nxP Y ((0 : Nat) : Int) = ((4, 0, 7), 0) := by
    have g0 : gapP (kInc ++ (32 :: (Q ++ A2))) = 0 := gap_none (nm_head nm_inc)
    have t0 : tokP ((kInc ++ (32 :: (Q ++ A2))).drop 0) = (4, 7, 0) := by
      rw [List.drop_zero, tok_word nm_inc (w32 _), if_pos ky_inc]; rfl
    have := nx_at hl d0 (Nat.zero_le _) g0 t0
    simpa using this
  have p0 : plP Y 0 0 = ((4, 0, 7), 0) := pl_of n0 (by
    show decide (ttP Y 0 7 = kInc) = true
    have : ttP Y 0 7 = kInc := by unfold ttP; rw [← hYe]; rfl
    rw [decide_eq_true this])
  -- the text
  have n1 : nxP Y ((7 : Nat) : Int) = ((3, 8, 8 + Q.length), 0) := by
    have g1 : gapP (32 :: (Q ++ A2)) = 1 := by rw [gap_blank b32, gap_none (hq34 A2)]
    have t1 : tokP ((32 :: (Q ++ A2)).drop 1) = (3, Q.length, 0) := by rw [List.drop_one, List.tail_cons]; exact tq A2
    exact nx_at hl d1 (by omega) g1 t1
  have e1 : ttP Y 8 (8 + Q.length) = Q := by
    unfold ttP
    rw [show (8 : Nat) = 7 + 1 from rfl, ← List.drop_drop, d1, List.drop_one, List.tail_cons, Nat.add_sub_cancel_left, List.take_left]
  have p1 : plP Y 1 7 = ((3, 8, 8 + Q.length), 0) := pl_of n1 rfl
  -- the key as
  have n2 : nxP Y ((8 + Q.length : Nat) : Int) = ((4, 9 + Q.length, 11 + Q.length), 0) := by
    have g1 : gapP A2 = 1 := by rw [← hA2, gap_blank b32, gap_none (nm_head nm_as)]
    have t1 : tokP (A2.drop 1) = (4, 2, 0) := by
      rw [← hA2, List.drop_one, List.tail_cons, tok_word nm_as (by rw [← hA3]; exact w32 _), if_pos ky_as]; rfl
    have := nx_at hl d2 (by omega) g1 t1
    rw [this, show 8 + Q.length + 1 = 9 + Q.length by omega]
    rw [show 9 + Q.length + 2 = 11 + Q.length by omega]
  have e2 : ttP Y (9 + Q.length) (11 + Q.length) = kAs := by
    unfold ttP
    rw [show 9 + Q.length = (8 + Q.length) + 1 by omega, ← List.drop_drop, d2, ← hA2, List.drop_one, List.tail_cons, show 11 + Q.length - (8 + Q.length + 1) = kAs.length by (have : kAs.length = 2 := rfl); omega, List.take_left]
  have p2 : plP Y 2 (8 + Q.length) = ((4, 9 + Q.length, 11 + Q.length), 0) := pl_of n2 (by
    rw [e2]; rfl)
  -- the name
  have n3 : nxP Y ((11 + Q.length : Nat) : Int) = ((1, 12 + Q.length, 12 + Q.length + n.length), 0) := by
    have g1 : gapP A3 = 1 := by rw [← hA3, gap_blank b32, gap_none (nm_head hnm.1)]
    have t1 : tokP (A3.drop 1) = (1, n.length, 0) := by
      rw [← hA3, List.drop_one, List.tail_cons, tok_word hnm.1 (fun c hc => by simp only [List.head?_cons, Option.some.injEq] at hc; subst hc; decide), if_neg hnm.2]
    have := nx_at hl d3 (by omega) g1 t1
    rw [this, show 11 + Q.length + 1 = 12 + Q.length by omega]
  have e3 : ttP Y (12 + Q.length) (12 + Q.length + n.length) = n := by
    unfold ttP
    rw [show 12 + Q.length = (11 + Q.length) + 1 by omega, ← List.drop_drop, d3, ← hA3, List.drop_one, List.tail_cons, Nat.add_sub_cancel_left, List.take_left]
  have p3 : plP Y 3 (11 + Q.length) = ((1, 12 + Q.length, 12 + Q.length + n.length), 0) := pl_of n3 rfl
  -- the sign
  have n4 : nxP Y ((12 + Q.length + n.length : Nat) : Int) = ((5, 12 + Q.length + n.length, 13 + Q.length + n.length), 0) := by
    have g1 : gapP A4 = 0 := by rw [← hA4]; exact gap_none (fun c hc => by simp only [List.head?_cons, Option.some.injEq] at hc; subst hc; exact ⟨by decide, by decide⟩)
    have t1 : tokP (A4.drop 0) = (5, 1, 0) := by rw [← hA4, List.drop_zero]; exact tok_semi _
    have := nx_at hl d4 (by omega) g1 t1
    rw [this, Nat.add_zero, show 12 + Q.length + n.length + 1 = 13 + Q.length + n.length by omega]
  have e4 : ttP Y (12 + Q.length + n.length) (13 + Q.length + n.length) = kEnd := by
    unfold ttP
    rw [d4, ← hA4, show 13 + Q.length + n.length - (12 + Q.length + n.length) = 1 by omega]
    rfl
  have p4 : plP Y 4 (12 + Q.length + n.length) = ((5, 12 + Q.length + n.length, 13 + Q.length + n.length), 0) := pl_of n4 (by rw [e4]; rfl)
  refine ⟨p0, ?_⟩
  unfold in1; rw [p1, if_neg (by simp)]; unfold in2; simp only; rw [p2, if_neg (by simp)]; unfold in3; simp only; rw [p3, if_neg (by simp)]; unfold in4; simp only; rw [p4, if_neg (by simp), e1, e3, vq]
  simp only [Prod.mk.injEq, true_and]
  omega

end Go.Proofs.YtlpengaclkidiaaDoor
