/- The document's Parts and SameParts. -/
import Derived.Test.YticmdmnjajjpbabDoorSFit
import Derived.Test.YticmdmnjajjpbabDoorSRef1
namespace Go.Proofs.YticmdmnjajjpbabDoor
open Go.RowKit

theorem Tryd.infoBs : (Tryd.prog.info? 24).map (fun i => (i.zero, i.size, i.bytes)) = some (some (.slice none 0 0), 1, 24) := by kernel_rfl

/-- two rows of unlike types are not one -/
theorem rows_ne {w : World} {base base' : Nat} {e e' : TypeId} {s s' : Nat} {v u : Value} {n m : Nat} {xs ys : List Value} (h : w.ownsRow base e s v n xs) (k : w.ownsRow base' e' s' u m ys) (hne : e' ≠ e) : u.ownBlock = none ∨ u.ownBlock ≠ v.ownBlock := by
  rcases k.2 with ⟨rfl, _⟩ | ⟨g, cap, cur, rfl, _, hg, _⟩
  · exact Or.inl rfl
  · refine Or.inr fun heq => ?_
    rcases h.2 with ⟨rfl, _⟩ | ⟨g', cap', cur', rfl, _, hg', _⟩
    · cases heq
    · simp only [Value.ownBlock, Option.some.injEq] at heq
      subst heq
      rw [hg] at hg'
      simp only [Option.some.injEq, Obj.cells.injEq] at hg'
      exact hne hg'.2.1

/-- append(own, list) -/
theorem app_list {w : World} {ops : Array Oper} {rest : List Oper} {o : Oper} {a : Act} {Q : Exit → Act → World → Prop} (hgd : o.guard = none) (s x : Operand)
    (ho : o.op = .call { callee := .builtin .append, args := #[s, x], argTypes := #[47, 47] })
    (base : Nat) (v : Value) (us : List Value) (hs : a.eval s = v) (hown : w.ownsRow base 24 1 v us.length us) (u : Value) (g : Nat) (hx : a.eval x = .slice (some ⟨g, 0, none⟩) 1 1) (hc : w.cell? ⟨g, 0, none⟩ = some u) (hu : u.oneCell' = true)
    (hlen : us.length ≤ 1048576) (hbase : base ≤ w.heap.size)
    (h : ∀ v' w', w'.ownsRow base 24 1 v' (us ++ [u]).length (us ++ [u]) → w.grownBy w' v.ownBlock → wpList Tryd.prog ops Q rest (a.put o.dst v') w') : wpList Tryd.prog ops Q (o :: rest) a w := by
  obtain ⟨i0, hi, hz0, hz1, hz2⟩ := info_parts Tryd.infoBs
  refine wpList_append_own w hgd s x 47 ho base 24 i0 (.slice none 0 0) 1 24 Tryd.underlying47 hi hz0 hz1 hz2 rfl (by decide) v us.length us hs hown ⟨g, 0, none⟩ 1 1 [u] hx rfl (fun j y hj => ?_) (by simpa using hu) (by unfold maxLen; omega) (by omega) hbase ?_
  · match j, hj with
    | 0, hj =>
      simp only [List.getElem?_cons_zero, Option.some.injEq] at hj
      subst hj
      rw [addr_add]
      exact hc
    | j + 1, hj => simp at hj
  · intro v' w' h3 h4 _
    exact h v' w' (by rw [List.length_append]; exact h3) h4

/-- while Parts goes on -/
structure Pt (w : World) (pss : List (List UInt8)) (v : Value) (us : List Value) (k : Nat) (wr : World) : Prop where
  own : wr.ownsRow w.heap.size 24 1 v us.length us
  len : us.length = k
  src : ∀ j, j < k → ∃ u, us[j]? = some u ∧ OwnB wr w.heap.size u (pss.getD j [])
  bel : Below w.heap.size w wr

theorem Pt.lists {w : World} {pss : List (List UInt8)} {v : Value} {us : List Value} {wr : World} (h : Pt w pss v us pss.length wr) (hl : ∀ j, j < pss.length → (pss.getD j []).length ≤ 140737488355327) : Lists (· < wr.heap.size) wr v pss := by
  have hown := h.own
  rcases h.own.2 with ⟨hv, h0⟩ | ⟨g, cap, cur, hv, _, hh, _, _, _, _⟩
  · refine Or.inl ⟨none, 0, hv, ?_⟩
    have := h.len
    exact List.length_eq_zero_iff.1 (by omega)
  · refine Or.inr ⟨g, 0, cap, by rw [hv, h.len], hp_lt hh, hp_lt hh, fun j hj => ?_⟩
    obtain ⟨u, hu, ho⟩ := h.src j hj
    refine ⟨u, ?_, ho.src (hl j hj), fun k _ hk => (ho.lt k hk).2⟩
    have := World.ownsRow.cells hown (g := g) (by rw [hv]; rfl) j u hu
    rw [addr_add] at this
    rwa [Nat.zero_add]

theorem Pt.next {w : World} {pss : List (List UInt8)} {v : Value} {us : List Value} {k : Nat} {wr w1 w2 : World} {o : Obj} {u v2 : Value} {cs : List UInt8} (h : Pt w pss v us k wr) (hcs : cs = pss.getD k []) (ho1 : OwnB w1 wr.heap.size u cs) (hg1 : wr.grownBy w1 none)
    (how : (w1.alloc o).ownsRow w.heap.size 24 1 v us.length us) (ho2 : w2.ownsRow w.heap.size 24 1 v2 (us ++ [u]).length (us ++ [u])) (hg2 : (w1.alloc o).grownBy w2 v.ownBlock) : Pt w pss v2 (us ++ [u]) (k + 1) w2 := by
  have hbs : w.heap.size ≤ w1.heap.size := Nat.le_trans h.bel.size hg1.size
  have hB1 := h.bel.grown hg1 h.bel.size (by intro k hk; cases hk)
  have keep : ∀ (x : Value) (bs : List UInt8), OwnB w1 w.heap.size x bs → OwnB w2 w.heap.size x bs := fun x bs hx => by
    have h1 : OwnB (w1.alloc o) w.heap.size x bs := World.ownsRow.alloc hx o
    exact h1.kept hg2 (rows_ne how h1 (by decide))
  refine ⟨ho2, by rw [List.length_append, h.len]; rfl, fun j hj => ?_, ?_⟩
  · rcases Nat.lt_or_ge j k with hjk | hjk
    · obtain ⟨x, hx, hox⟩ := h.src j hjk
      refine ⟨x, by rw [List.getElem?_append_left (by rw [h.len]; exact hjk)]; exact hx, keep _ _ ?_⟩
      exact hox.kept hg1 (by cases e : x.ownBlock <;> simp)
    · obtain rfl : j = k := by omega
      refine ⟨u, ?_, keep _ _ (by rw [← hcs]; exact ho1.le h.bel.size)⟩
      rw [List.getElem?_append_right (by rw [h.len]; exact Nat.le_refl _), h.len]
      simp
  · refine (hB1.alloc hbs o).grown hg2 (by rw [hp_size]; omega) (fun q hq => (World.ownsRow.lt how q hq).1)

set_option maxRecDepth 100000 in
set_option maxHeartbeats 1000000 in
theorem parts_any (X : Nat → Prop) (w : World) (v : Value) (pss : List (List UInt8)) (hv : Lists X w v pss) (hn : pss.length ≤ 1048576) :
    Calls Tryd.prog 35 #[v] w fun e w' => ∃ v', e = .returned v' ∧ ∃ us, Pt w pss v' us pss.length w' := by
  have HP0 := hid (⟨World.ownsRow_nil _ _ _ _, rfl, fun j hj => by omega, Below.refl _ _⟩ : Pt w pss (.slice none 0 0) [] 0 w)
  rcases hv with ⟨ao, c, rfl, rfl⟩ | ⟨g, o, c, rfl, hlt, hX, hc⟩
  · go_enter Tryd.func35, Tryd.ntmps35
    go_wp2
    go_loop [3, 4] (fun s i => s = .slice none 0 0 ∧ i = .int .i64 0) (fun _ _ => 0)
    case atStart => exact ⟨rfl, rfl⟩
    case round =>
      obtain ⟨rfl, rfl⟩ := hrel
      go_wp2
      go_ret
      exact ⟨_, rfl, [], HP0.out⟩
  · have HC := hid hc
    have HLT := hid hlt
    clear hc hlt
    go_enter Tryd.func35, Tryd.ntmps35
    go_wp2
    go_loopw [3, 4] (fun s i wr => ∃ (k : Nat) (us : List Value), k ≤ pss.length ∧ i = .int .i64 k ∧ Pt w pss s us k wr) (fun _ i _ => pss.length - (intOf i).toNat)
    case atStart => exact ⟨0, [], by omega, rfl, HP0.out⟩
    case round =>
      obtain ⟨k, us, hk, rfl, hp⟩ := hrel
      clear HP0
      have HP0 := hid hp
      clear hp
      by_cases hkl : k < pss.length
      · obtain ⟨u, hcell0, hsrc0, _⟩ := HC.out k hkl
        have hcell : wr.cell? ⟨g, o + k, none⟩ = some u := by rw [HP0.out.bel.cell (p := ⟨g, o + k, none⟩) HLT.out]; exact hcell0
        have HSRC := hid (hsrc0.below HP0.out.bel)
        obtain ⟨ab, cu, rfl⟩ := src_shape hsrc0
        clear hsrc0 hcell0
        obtain ⟨cs, HCS⟩ : ∃ cs, Hid (cs = pss.getD k []) := ⟨_, rfl⟩
        rw [← HCS.out] at HSRC hcell
        have HLEN := hid (show ([] : List UInt8).length + cs.length ≤ 140737488355327 by have := HSRC.out.1; simpa using this)
        have HON := hid (OwnB.nil wr wr.heap.size)
        go_upto_region 6 with fail
        go_wp2_with (at_builtin; refine app_src rfl _ _ rfl wr.heap.size _ [] rfl HON.out _ cs rfl HSRC.out HLEN.out (Nat.le_refl _) ?_)
        intro v1 w1 ho1 hg1
        have HO1 := hid (show OwnB w1 wr.heap.size v1 cs from ho1)
        have HG1 := hid (show wr.grownBy w1 none from hg1)
        clear ho1 hg1
        obtain ⟨a1, k1, hv1⟩ := HO1.out.shape
        subst hv1
        go_upto_region 7 with fail
        have HOW := hid (show w1.ownsRow w.heap.size 24 1 u3 us.length us from World.ownsRow.kept HP0.out.own HG1.out (by cases e : u3.ownBlock <;> simp))
        have HUL := hid (show us.length ≤ 1048576 by have := HP0.out.len; omega)
        have HBS := hid (show w.heap.size ≤ w1.heap.size from Nat.le_trans HP0.out.bel.size HG1.out.size)
        have HB1 := hid (HP0.out.bel.grown HG1.out HP0.out.bel.size (by intro k hk; cases hk))
        go_wp2_with (at_builtin; refine app_list rfl _ _ rfl w.heap.size _ us rfl (World.ownsRow.alloc HOW.out _) (.slice a1 cs.length k1) w1.heap.size rfl (by rw [cell_of_row _ _ _ _ _ _ (hp_new _ _)]; rfl) rfl HUL.out ?c2 ?_)
        case c2 => rw [hp_size]; have := HBS.out; omega
        intro v2 w2 ho2 hg2
        have HN := hid (Pt.next HP0.out HCS.out HO1.out HG1.out (World.ownsRow.alloc HOW.out _) (by rw [List.length_append]; exact ho2) hg2)
        clear ho2 hg2
        go_wp2
        exact ⟨⟨k + 1, _, by omega, by simp, HN.out⟩, by simp [intOf]; omega⟩
      · obtain rfl : k = pss.length := by omega
        go_wp2
        go_ret
        exact ⟨_, rfl, us, HP0.out⟩

set_option maxRecDepth 100000 in
set_option maxHeartbeats 1000000 in
theorem same_parts (X Y : Nat → Prop) (w : World) (va vb : Value) (pss : List (List UInt8)) (ha : Lists X w va pss) (hb : Lists Y w vb pss) (hn : pss.length ≤ 1048576) :
    Calls Tryd.prog 27 #[va, vb] w fun e w' => e = .returned (.bool true) ∧ ∃ k, w' = w.drewN k := by
  obtain ⟨aa, ca, rfl⟩ : ∃ aa ca, va = .slice aa pss.length ca := by
    rcases ha with ⟨ao, c, rfl, rfl⟩ | ⟨g, o, c, rfl, _⟩
    · exact ⟨_, _, rfl⟩
    · exact ⟨_, _, rfl⟩
  obtain ⟨ab, cb, rfl⟩ : ∃ aa ca, vb = .slice aa pss.length ca := by
    rcases hb with ⟨ao, c, rfl, rfl⟩ | ⟨g, o, c, rfl, _⟩
    · exact ⟨_, _, rfl⟩
    · exact ⟨_, _, rfl⟩
  have HA := hid ha
  have HB := hid hb
  clear ha hb
  go_enter Tryd.func27, Tryd.ntmps27
  go_wp2
  go_loopw [5] (fun i wr => ∃ k q : Nat, k ≤ pss.length ∧ i = .int .i64 k ∧ wr = w.drewN q) (fun i _ => pss.length - (intOf i).toNat)
  case atStart => exact ⟨0, 0, by omega, rfl, rfl⟩
  case round =>
    obtain ⟨k, q, hk, rfl, rfl⟩ := hrel
    by_cases hlt : k < pss.length
    · obtain ⟨g1, o1, rfl, u1, c1, s1⟩ : ∃ g o, aa = some ⟨g, o, none⟩ ∧ ∃ u, w.cell? ⟨g, o + k, none⟩ = some u ∧ Src w u (pss.getD k []) := by
        rcases HA.out with ⟨ao, c, hv, h0⟩ | ⟨g, o, c, hv, _, _, hc⟩
        · rw [h0] at hlt; simp at hlt
        · injection hv with h1
          obtain ⟨u, h2, h3, _⟩ := hc k hlt
          exact ⟨g, o, h1, u, h2, h3⟩
      obtain ⟨g2, o2, rfl, u2, c2, s2⟩ : ∃ g o, ab = some ⟨g, o, none⟩ ∧ ∃ u, w.cell? ⟨g, o + k, none⟩ = some u ∧ Src w u (pss.getD k []) := by
        rcases HB.out with ⟨ao, c, hv, h0⟩ | ⟨g, o, c, hv, _, _, hc⟩
        · rw [h0] at hlt; simp at hlt
        · injection hv with h1
          obtain ⟨u, h2, h3, _⟩ := hc k hlt
          exact ⟨g, o, h1, u, h2, h3⟩
      obtain ⟨W, HW⟩ : ∃ W, Hid (W = w.drewN q) := ⟨_, rfl⟩
      have d1 : W.cell? ⟨g1, o1 + k, none⟩ = some u1 := by rw [HW.out]; exact c1
      have d2 : W.cell? ⟨g2, o2 + k, none⟩ = some u2 := by rw [HW.out]; exact c2
      have HAL := hid (fun (n : Nat) => alike_true u1 u2 (pss.getD k []) (W.drewN n) (by rw [HW.out]; exact s1) (by rw [HW.out]; exact s2))
      clear s1 s2 c1 c2
      rw [← HW.out]
      go_upto_region 6 with fail
      go_quiet (first
        | (go_at_call 28; exact Calls.quiet_of (HAL.out _)))
      go_wp2
      exact ⟨⟨k + 1, _, by omega, by simp, by rw [HW.out, World.drewN_drewN]⟩, by simp [intOf]; omega⟩
    · obtain rfl : k = pss.length := by omega
      go_wp2
      go_ret
      exact ⟨rfl, _, rfl⟩

end Go.Proofs.YticmdmnjajjpbabDoor
