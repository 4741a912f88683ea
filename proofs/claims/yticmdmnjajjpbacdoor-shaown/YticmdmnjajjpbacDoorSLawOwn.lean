/- ShaOwn answers true. -/
import Derived.Test.YticmdmnjajjpbacDoorSAwake
import Derived.Test.YticmdmnjajjpbacDoorSState
import Derived.Test.YticmdmnjajjpbacDoorSLawTags
import Derived.Test.YticmdmnjajjpbacDoorSAlike
namespace Go.Proofs.YticmdmnjajjpbacDoor
open Go.RowKit

theorem Lists.lt'' {X : Nat → Prop} {w : World} {v : Value} {pss : List (List UInt8)} (h : Lists X w v pss) : Lists (· < w.heap.size) w v pss := by
  rcases h with h | ⟨g, o, c, hv, hlt, hX, hc⟩
  · exact Or.inl h
  · refine Or.inr ⟨g, o, c, hv, hlt, hlt, fun j hj => ?_⟩
    obtain ⟨u, h1, h2, h3⟩ := hc j hj
    refine ⟨u, h1, h2, fun k hp hk => ?_⟩
    obtain ⟨_, ⟨rfl, _⟩ | ⟨ad, cap, rfl, _, _, hlt2, _⟩⟩ := h2
    · cases hk
    · simp only [Value.ownBlock, Option.some.injEq] at hk
      rw [← hk]
      exact hlt2 hp
theorem pre_own (X : Nat → Prop) (w : World) (s : ByteArray) (l : List UInt8) (v : Value) (pss : List (List UInt8)) (hs : s.data.toList = l) (hv : Lists X w v pss) (hn : pss.length ≤ 1048576) (hN : (fl pss).length ≤ 1048576) :
    Calls Tryd.prog 22 #[.string s, v] w fun e w' => ∃ v', e = .returned (.tuple #[v', .int .i64 (tgE l)]) ∧ OwnB w' w.heap.size v' (preA l pss) ∧ Below w.heap.size w w' := by
  cases ht : tagP l with
  | false =>
    refine (pre_no w s l v hs ht).mono ?_
    rintro e w' ⟨rfl, rfl⟩
    exact ⟨_, by unfold tgE; rw [ht]; rfl, by unfold preA; rw [ht]; exact OwnB.nil _ _, Below.refl _ _⟩
  | true =>
    refine (pre_ok X w s l v pss hs ht hv hn hN).mono ?_
    rintro e w' ⟨v', rfl, ho, hb⟩
    exact ⟨_, by unfold tgE; rw [ht]; rfl, by unfold preA; rw [ht]; exact ho, hb⟩
theorem preA_len (l : List UInt8) (pss : List (List UInt8)) (hn : pss.length ≤ 1048576) (hN : (fl pss).length ≤ 1048576) : (preA l pss).length ≤ 10000000 := by
  have h1 := preQ_len pss
  unfold preA
  cases ht : tagP l with
  | false => simp
  | true =>
    have h2 := tag_len ht
    simp only [if_true, preP, List.length_cons, List.length_append]
    omega
/-- a tag and parts, in a block of their own -/
structure Nb (w : World) (b : Nat) (s : ByteArray) (v : Value) : Prop where
  blk : w.heap[b]? = some (.cells #[.string s, v] 51 (0, 0))
theorem Nb.c0 {w : World} {b : Nat} {s : ByteArray} {v : Value} (h : Nb w b s v) : w.cell? ⟨b, 0, none⟩ = some (.string s) := by
  rw [cell_of_row _ _ _ _ _ _ h.blk]; rfl
theorem Nb.c1 {w : World} {b : Nat} {s : ByteArray} {v : Value} (h : Nb w b s v) : w.cell? ⟨b, 1, none⟩ = some v := by
  rw [cell_of_row _ _ _ _ _ _ h.blk]; rfl
theorem Nb.lt {w : World} {b : Nat} {s : ByteArray} {v : Value} (h : Nb w b s v) : b < w.heap.size := hp_lt h.blk
theorem Nb.below {w w' : World} {b B : Nat} {s : ByteArray} {v : Value} (h : Nb w b s v) (hb : Below B w w') (hB : b < B) : Nb w' b s v := ⟨(hb.block b hB).trans h.blk⟩
theorem Hst.belowAt {w w' : World} {b B : Nat} {H : List Int} {buf : List UInt8} {N : Nat} (h : Hst w b H buf N) (hb : Below B w w') (hB : b < B) : Hst w' b H buf N :=
  ⟨⟨(hb.block b hB).trans h.hb.blk, h.hb.hl, h.hb.rl⟩, h.len, h.nk, h.nh⟩
theorem below_drew (w : World) : Below w.heap.size w w.drew := ⟨rfl, rfl, rfl, Nat.le_refl _, fun _ _ => rfl⟩
theorem below_drewN (w : World) (n : Nat) : Below w.heap.size w (w.drewN n) := ⟨rfl, rfl, rfl, Nat.le_refl _, fun _ _ => rfl⟩

/-- one's own bytes, some of them written over -/
theorem own_set {w : World} {base : Nat} {ao : Option Addr} {n c : Nat} {bs : List UInt8} (h : OwnB w base (.slice ao n c) bs) (k : Nat) (hk : k < bs.length) (m : UInt8) :
    ∃ g, ao = some ⟨g, 0, none⟩ ∧ base ≤ g ∧ g < w.heap.size ∧ w.cell? ⟨g, k, none⟩ = some (.int .u8 (bs.getD k 0).toNat) ∧ w.frozen? ⟨g, k, none⟩ = false ∧ OwnB (w.setCell ⟨g, k, none⟩ (.int .u8 m.toNat)) base (.slice ao n c) (bs.set k m) := by
  rcases h.forms with ⟨h0, h1⟩ | ⟨g, cap, hv, h1, h2, _, _, h3, h4⟩
  · rw [h1] at hk; simp at hk
  · injection hv with e1 e2 e3
    subst e1
    exact ⟨g, rfl, h1, h2, h4 k hk, h3 k, h.setAt k m⟩
theorem own_typ {w : World} {base : Nat} {v : Value} {bs : List UInt8} {s : Nat} {H : List Int} {vb : Value} {N : Int} (h : OwnB w base v bs) (k : Sb w s H vb N) : v.ownBlock ≠ some s := by
  intro e
  obtain ⟨_, ⟨rfl, _⟩ | ⟨g, cap, cur, rfl, _, hh, _⟩⟩ := h
  · cases e
  · simp only [Value.ownBlock, Option.some.injEq] at e
    subst e
    have := k.blk
    rw [hh] at this
    injection this with this
    injection this with _ h2
    cases h2

/-- a round's memory: a state and three slices -/
structure Ow (base s : Nat) (H : List Int) (N : Int) (v1 v2 v3 : Value) (B1 B2 B3 : List UInt8) (w0 w : World) : Prop where
  st : Sb w s H v1 N
  o1 : OwnB w base v1 B1
  o2 : OwnB w base v2 B2
  o3 : OwnB w base v3 B3
  bel : Below base w0 w
/-- which slices lie apart -/
structure Ap (v1 v2 v3 : Value) : Prop where
  a : v1.ownBlock = none ∨ v1.ownBlock ≠ v2.ownBlock
  b : v1.ownBlock = none ∨ v1.ownBlock ≠ v3.ownBlock
  c : v2.ownBlock = none ∨ v2.ownBlock ≠ v3.ownBlock
section
variable {base s g n c : Nat} {H : List Int} {N : Int} {v1 v2 v3 : Value} {B1 B2 B3 : List UInt8} {w0 w w' : World}
theorem Ow.below (h : Ow base s H N v1 v2 v3 B1 B2 B3 w0 w) (hs : base ≤ w.heap.size) (hb : Below w.heap.size w w') : Ow base s H N v1 v2 v3 B1 B2 B3 w0 w' :=
  ⟨h.st.below hb, h.o1.below hb, h.o2.below hb, h.o3.below hb, h.bel.trans (hb.mono hs)⟩
theorem flip {a b : Option Nat} (h : a = none ∨ a ≠ b) : b = none ∨ b ≠ a := by
  rcases h with rfl | h
  · cases b
    · exact Or.inl rfl
    · exact Or.inr (by simp)
  · exact Or.inr (Ne.symm h)
theorem ne_some {a b : Option Nat} {g : Nat} (h : a = none ∨ a ≠ b) (e : a = some g) : b = none ∨ b ≠ some g := by
  rcases flip h with h | h
  · exact Or.inl h
  · exact Or.inr (by rw [← e]; exact h)
theorem Ow.set1 (h : Ow base s H N (.slice (some ⟨g, 0, none⟩) n c) v2 v3 B1 B2 B3 w0 w) (ap : Ap (.slice (some ⟨g, 0, none⟩) n c) v2 v3) (hg : base ≤ g) (k : Nat) (u : Value) (X : List UInt8) (ho : OwnB (w.setCell ⟨g, k, none⟩ u) base (.slice (some ⟨g, 0, none⟩) n c) X) :
    Ow base s H N (.slice (some ⟨g, 0, none⟩) n c) v2 v3 X B2 B3 w0 (w.setCell ⟨g, k, none⟩ u) := by
  have hgb := gb_set w ⟨g, k, none⟩ u
  exact ⟨h.st.grown hgb (by intro e; exact own_typ h.o1 h.st (by simpa [Value.ownBlock] using e)), ho, h.o2.kept hgb (ne_some ap.a rfl), h.o3.kept hgb (ne_some ap.b rfl), h.bel.grown hgb (Nat.le_trans hg (Nat.le_of_lt (h.o1.lt g rfl).2)) (by intro q hq; cases hq; exact hg)⟩
theorem Ow.set2 (h : Ow base s H N v1 (.slice (some ⟨g, 0, none⟩) n c) v3 B1 B2 B3 w0 w) (ap : Ap v1 (.slice (some ⟨g, 0, none⟩) n c) v3) (hg : base ≤ g) (k : Nat) (u : Value) (X : List UInt8) (ho : OwnB (w.setCell ⟨g, k, none⟩ u) base (.slice (some ⟨g, 0, none⟩) n c) X) :
    Ow base s H N v1 (.slice (some ⟨g, 0, none⟩) n c) v3 B1 X B3 w0 (w.setCell ⟨g, k, none⟩ u) := by
  have hgb := gb_set w ⟨g, k, none⟩ u
  exact ⟨h.st.grown hgb (by intro e; exact own_typ h.o2 h.st (by simpa [Value.ownBlock] using e)), h.o1.kept hgb (ap.a.imp id (by intro e; simpa [Value.ownBlock] using e)), ho, h.o3.kept hgb (ne_some ap.c rfl), h.bel.grown hgb (Nat.le_trans hg (Nat.le_of_lt (h.o2.lt g rfl).2)) (by intro q hq; cases hq; exact hg)⟩
theorem Ow.set3 (h : Ow base s H N v1 v2 (.slice (some ⟨g, 0, none⟩) n c) B1 B2 B3 w0 w) (ap : Ap v1 v2 (.slice (some ⟨g, 0, none⟩) n c)) (hg : base ≤ g) (k : Nat) (u : Value) (X : List UInt8) (ho : OwnB (w.setCell ⟨g, k, none⟩ u) base (.slice (some ⟨g, 0, none⟩) n c) X) :
    Ow base s H N v1 v2 (.slice (some ⟨g, 0, none⟩) n c) B1 B2 X w0 (w.setCell ⟨g, k, none⟩ u) := by
  have hgb := gb_set w ⟨g, k, none⟩ u
  exact ⟨h.st.grown hgb (by intro e; exact own_typ h.o3 h.st (by simpa [Value.ownBlock] using e)), h.o1.kept hgb (ap.b.imp id (by intro e; simpa [Value.ownBlock] using e)), h.o2.kept hgb (ap.c.imp id (by intro e; simpa [Value.ownBlock] using e)), ho, h.bel.grown hgb (Nat.le_trans hg (Nat.le_of_lt (h.o3.lt g rfl).2)) (by intro q hq; cases hq; exact hg)⟩
end

theorem ap_lt {a b : Option Nat} {X : Nat} (h : ∀ k, a = some k → k < X) (h2 : ∀ k, b = some k → X ≤ k) : a = none ∨ a ≠ b := by
  cases a with
  | none => exact Or.inl rfl
  | some k =>
    refine Or.inr (fun e => ?_)
    have h3 := h k rfl
    have h4 := h2 k e.symm
    omega

/-- how the law's loop stands -/
structure Iv (w : World) (bx b : Nat) (s : ByteArray) (v : Value) (H : List Int) (buf : List UInt8) (N : Nat) (wr : World) : Prop where
  bel : Below w.heap.size w wr
  hst : Hst wr b H buf N
  nb : Nb wr bx s v
  lb : w.heap.size ≤ b
  lx : w.heap.size ≤ bx

set_option maxRecDepth 100000 in
set_option maxHeartbeats 8000000 in
theorem own_any (X : Nat → Prop) (w : World) (s : ByteArray) (ao : Option Addr) (n c : Nat) (pss : List (List UInt8)) (m0 : Nat) (hT : Tabs w) (hR : TabR w) (hs : s.size ≤ 1048576) (hv : Lists X w (.slice ao n c) pss) (hn : pss.length ≤ 1048576) (hN : (fl pss).length ≤ 1048576) :
    Calls Tryd.prog 6 #[.agg #[.string s, .slice ao n c], .int .u64 m0] w fun e w' => e = .returned (.bool true) ∧ Below w.heap.size w w' := by
  have HT := hid hT
  have HR := hid hR
  obtain ⟨l, HL⟩ : ∃ l, Hid (s.data.toList = l) := ⟨_, rfl⟩
  have HSS := hid hs
  have HNN := hid hN
  have HN1 := hid hn
  have HV := hid hv
  obtain ⟨m, HM⟩ : ∃ m, Hid (m = m0 % 1000) := ⟨_, rfl⟩
  have hm : m < 1000 := by rw [HM.out]; omega
  have hrem : ((m0 : Nat) : Int).tmod 1000 = (m : Int) := by rw [HM.out]; rfl
  have HB0 := hid (below_walk w (.cells #[.string s, .slice ao n c] 51))
  have HX0 := hid (⟨hp_new w _⟩ : Nb (w.alloc (.cells #[.string s, .slice ao n c] 51)) w.heap.size s (.slice ao n c))
  obtain ⟨HH, HHH⟩ : ∃ HH, Hid (HH = (absorb (Hs, []) (fl pss)).1) := ⟨_, rfl⟩
  obtain ⟨BF, HBF⟩ : ∃ BF, Hid (BF = (absorb (Hs, []) (fl pss)).2) := ⟨_, rfl⟩
  obtain ⟨D, HD⟩ : ∃ D, Hid (D = u8V (ofP (fl pss))) := ⟨_, rfl⟩
  have HDS := hid (show u8V (sumP HH BF (fl pss).length) = D by rw [HD.out, HHH.out, HBF.out]; rfl)
  have eqd := of_eq (ofP (fl pss)) (ofP_length _)
  have neqd : ∀ W, (binOp .neq 23 (.agg (u8V (ofP (fl pss))).toArray) (.agg (u8V (ofP (fl pss))).toArray)).run Tryd.prog W = .ok (.bool false) W := fun W => neq_row W 23 5 32 .u8 Tryd.underlying23 Tryd.underlying5 (by kernel_rfl) _ (ofP_length _)
  rw [← HD.out] at eqd neqd
  obtain ⟨z, sz⟩ := zero_of_info (P := Tryd.prog) (t := 43) (v := .agg z10.toArray) (n := 10) (by kernel_rfl)
  have HZ := hid z
  have HZS := hid sz
  clear z sz hT hR hs hv hn hN
  go_enter Tryd.func6, Tryd.ntmps6
  go_upto_region 1 with fail
  generalize w.alloc (.cells #[.string s, .slice ao n c] 51) = w0 at HB0 HX0 ⊢
  go_wp2_with fail
  refine (new_any w0 (HT.out.below HB0.out)).mono ?_
  rintro e w1 ⟨rfl, hw1⟩
  have HS1 := hid (new_hst (HT.out.below HB0.out))
  have hbw := below_walk w0 (.cells (hcells Hs (zeros 64) 0 true).toArray 47)
  rw [← hw1] at HS1 hbw
  have HB1 := hid (HB0.out.trans (hbw.mono HB0.out.size))
  have HX1 := hid (HX0.out.below hbw HX0.out.lt)
  have HLB := hid (show w.heap.size < w0.heap.size from HX0.out.lt)
  clear hw1 hbw
  obtain ⟨b, HBE⟩ : ∃ b, Hid (b = w0.heap.size) := ⟨_, rfl⟩
  rw [← HBE.out] at HS1 HLB ⊢
  clear HBE HB0 HX0
  obtain ⟨bx, HBX⟩ : ∃ b, Hid (b = w.heap.size) := ⟨_, rfl⟩
  rw [← HBX.out] at HX1 ⊢
  have c1 := HX1.out.c1
  go_wp2_with fail
  refine (write_ok w1 b Hs [] 0 _ pss (HT.out.below HB1.out) HS1.out.hg ((HV.out.lt''.below HB1.out).imp (fun k hk => by have := HLB.out; omega)) (by have := HN1.out; omega) (by have := HNN.out; omega)).mono ?_
  rintro e w2 ⟨rfl, hst, _, hg⟩
  rw [Nat.zero_add, ← HHH.out, ← HBF.out] at hst
  have HI2 := hid (⟨HB1.out.grown hg HB1.out.size (by intro k hk; cases hk; exact Nat.le_of_lt HLB.out), hst, ⟨(hg.block bx HX1.out.lt (by have := HLB.out; rw [HBX.out]; simp only [ne_eq, Option.some.injEq]; omega)).trans HX1.out.blk⟩, Nat.le_of_lt HLB.out, by rw [HBX.out]; exact Nat.le_refl _⟩ : Iv w bx b s (.slice ao n c) HH BF (fl pss).length w2)
  clear hst hg c1 HS1 HB1 HX1
  go_wp2
  go_loopw [6] (fun i wr => ∃ r : Nat, r ≤ 2 ∧ i = .int .i64 r ∧ Iv w bx b s (.slice ao n c) HH BF (fl pss).length wr) (fun i _ => 2 - (intOf i).toNat)
  case atStart => exact ⟨0, by omega, rfl, HI2.out⟩
  case round =>
    obtain ⟨r, hr, rfl, hI⟩ := hrel
    clear HI2
    have HI := hid hI
    clear hI
    obtain ⟨W0, HW0⟩ : ∃ W0 : World, Hid (W0 = wr) := ⟨_, rfl⟩
    rw [← HW0.out] at HI ⊢
    by_cases hr2 : r < 2
    · have q1 : (r : Int) < 2 := by omega
      go_wp2_with fail
      refine (state_any W0 b HH BF (fl pss).length (HT.out.below HI.out.bel) HI.out.hst.hg).mono ?_
      rintro e w3 ⟨v1, rfl, ho1, hb3⟩
      have HO1 := hid ho1
      have HB3 := hid hb3
      clear ho1 hb3
      obtain ⟨a1, k1, hv1⟩ := HO1.out.shape
      subst hv1
      have HHL := hid (show HH.length = 8 from HI.out.hst.hb.hl)
      have HSZ : Hid ((Tryd.prog.info? 43).map (·.size) = some (scells HH (.slice a1 BF.length k1) ((fl pss).length : Nat)).length) := by rw [scells_length _ _ _ HHL.out]; exact HZS
      rename_i Kx hKx
      refine hKx _ _ ?_
      clear hKx
      refine al_row (by rfl) 43 (by rfl) _ HZ.out ?_
      refine st_new (by rfl) 43 (.tmp 7) (.tmp 34) (by rfl) (scells HH (.slice a1 BF.length k1) ((fl pss).length : Nat)) (by rfl) (by rfl) _ _ HSZ.out (by rw [List.size_toArray, scells_length _ _ _ HHL.out]; rfl) (scells_one _ _ _ rfl) ?_
      have hbw := below_walk w3 (.cells (scells HH (.slice a1 BF.length k1) ((fl pss).length : Nat)).toArray 43)
      have HB4 := hid (HB3.out.trans (hbw.mono HB3.out.size))
      have HS4 := hid (⟨hp_new w3 _, HHL.out⟩ : Sb (w3.alloc (.cells (scells HH (.slice a1 BF.length k1) ((fl pss).length : Nat)).toArray 43)) w3.heap.size HH (.slice a1 BF.length k1) ((fl pss).length : Nat))
      have HO4 := hid (HO1.out.below hbw)
      have HX1 := hid (show ∀ k, (Value.slice a1 BF.length k1).ownBlock = some k → k < w3.heap.size from fun k hk => (HO1.out.lt k hk).2)
      have HX4 := hid (show w3.heap.size ≤ (w3.alloc (.cells (scells HH (.slice a1 BF.length k1) ((fl pss).length : Nat)).toArray 43)).heap.size by simp)
      clear hbw HO1
      generalize w3.alloc (.cells (scells HH (.slice a1 BF.length k1) ((fl pss).length : Nat)).toArray 43) = w4 at HB4 HS4 HO4 HX4 ⊢
      obtain ⟨sb, HSB⟩ : ∃ g, Hid (g = w3.heap.size) := ⟨_, rfl⟩
      rw [← HSB.out] at HS4 ⊢
      go_wp2_with fail
      refine (pad_ok w4 m (by omega)).mono ?_
      rintro e w5 ⟨v2, rfl, ho5, hb5⟩
      have HP5 := hid ho5
      have HB5 := hid (HB4.out.trans (hb5.mono HB4.out.size))
      have HS5 := hid (HS4.out.below hb5)
      have HO5 := hid (HO4.out.below hb5)
      have HX5 := hid hb5.size
      clear ho5 hb5 HS4 HO4
      obtain ⟨L2, HL2⟩ : ∃ L, Hid (L = (padB m).length) := ⟨_, rfl⟩
      have hL2 : L2 ≤ 72 := by rw [HL2.out]; exact padB_le m
      obtain ⟨a2, k2, hv2⟩ := HP5.out.shape
      rw [← HL2.out] at hv2
      subst hv2
      have HY2 := hid (show ∀ k, (Value.slice a2 L2 k2).ownBlock = some k → w4.heap.size ≤ k ∧ k < w5.heap.size from fun k hk => HP5.out.lt k hk)
      have HW5 := hid (HI.out.bel.trans (HB5.out.mono HI.out.bel.size))
      have HN5 := hid (HI.out.nb.below HB5.out HI.out.nb.lt)
      have c0 := HN5.out.c0
      have c1 := HN5.out.c1
      go_wp2_with fail
      refine (pre_own X w5 s l _ pss HL.out (HV.out.below HW5.out) HN1.out HNN.out).mono ?_
      rintro e w6 ⟨v3, rfl, ho6, hb6⟩
      have HQ6 := hid ho6
      have HB6 := hid (HB5.out.trans (hb6.mono HB5.out.size))
      have HS6 := hid (HS5.out.below hb6)
      have HO6 := hid (HO5.out.below hb6)
      have HP6 := hid (HP5.out.below hb6)
      clear ho6 hb6 HS5 HO5 HP5 c0 c1 HN5
      obtain ⟨L3, HL3⟩ : ∃ L, Hid (L = (preA l pss).length) := ⟨_, rfl⟩
      have hL3 : L3 ≤ 10000000 := by rw [HL3.out]; exact preA_len l pss HN1.out HNN.out
      obtain ⟨a3, k3, hv3⟩ := HQ6.out.shape
      rw [← HL3.out] at hv3
      subst hv3
      have HY3 := hid (show ∀ k, (Value.slice a3 L3 k3).ownBlock = some k → w5.heap.size ≤ k from fun k hk => (HQ6.out.lt k hk).1)
      go_wp2_with fail
      refine (rpad_ok w6 m (by omega)).mono ?_
      rintro e w7 ⟨v4, rfl, ho7, hb7⟩
      have HR7 := hid ho7
      have HB7 := hid (HB6.out.trans (hb7.mono HB6.out.size))
      have HS7 := hid (HS6.out.below hb7)
      have HO7 := hid (HO6.out.below hb7)
      have HP7 := hid (HP6.out.below hb7)
      have HQ7 := hid (HQ6.out.below hb7)
      clear ho7 hb7 HS6 HO6 HP6 HQ6
      obtain ⟨a4, k4, hv4⟩ := HR7.out.shape
      rw [← HL2.out] at hv4
      subst hv4
      have HW7 := hid (HI.out.bel.trans (HB7.out.mono HI.out.bel.size))
      have HN7 := hid (HI.out.nb.below HB7.out HI.out.nb.lt)
      have c0 := HN7.out.c0
      have c1 := HN7.out.c1
      go_wp2_with fail
      refine (rpre_any X w7 s l _ pss HL.out HSS.out (HV.out.below HW7.out) HN1.out HNN.out).mono ?_
      rintro e w8 ⟨v5, rfl, ha8, hb8⟩
      have HI8 := hid ha8.src
      have HB8 := hid (HB7.out.trans (hb8.mono HB7.out.size))
      have HR8 := hid (HR7.out.below hb8)
      have HOW8 := hid (⟨HS7.out.below hb8, HO7.out.below hb8, (HP7.out.below hb8).le HB4.out.size, (HQ7.out.below hb8).le HB5.out.size, HB8.out⟩ : Ow W0.heap.size sb HH ((fl pss).length : Nat) (.slice a1 BF.length k1) (.slice a2 L2 k2) (.slice a3 L3 k3) BF (padB m) (preA l pss) W0 w8)
      have HAP := hid (⟨ap_lt (X := w3.heap.size) HX1.out (fun k hk => Nat.le_trans HX4.out (HY2.out k hk).1), ap_lt (X := w3.heap.size) HX1.out (fun k hk => Nat.le_trans HX4.out (Nat.le_trans HX5.out (HY3.out k hk))), ap_lt (X := w5.heap.size) (fun k hk => (HY2.out k hk).2) HY3.out⟩ : Ap (.slice a1 BF.length k1) (.slice a2 L2 k2) (.slice a3 L3 k3))
      clear ha8 hb8 HS7 HO7 HP7 HQ7 HR7 c0 c1 HN7
      obtain ⟨a5, k5, hv5⟩ := src_shape HI8.out
      rw [← HL3.out] at hv5
      subst hv5
      have HN8 := hid (HI.out.nb.below HB8.out HI.out.nb.lt)
      go_upto_region 12 with fail
      have HN9 := hid (show Nb w8.drew bx s (.slice ao n c) from ⟨HN8.out.blk⟩)
      have HB9 := hid (below_drew w8)
      refine wp_noPanic (wp_region_held_drew (S := fun W => Nb W bx s (.slice ao n c)) (by kernel_rfl) HN9.out ?_)
      intro hHeld
      refine wpAnyH_take (i := 0) (v := (.slice a2 L2 k2)) rfl (by kernel_rfl) (by kernel_rfl) (by kernel_rfl) (fun _ _ _ h => h) (Or.inl ⟨by rfl, fun W _ => by go_simp⟩) hHeld ?_
      simp only [Act.put, List.getElem_toArray, List.getElem_cons_zero, List.setIfInBounds_toArray, List.set_cons_succ, List.set_cons_zero]
      refine wpAnyH_take (i := 1) (v := (.slice a4 L2 k4)) rfl (by kernel_rfl) (by kernel_rfl) (by kernel_rfl) (fun _ _ _ h => h) (Or.inl ⟨by rfl, fun W _ => by go_simp⟩) hHeld ?_
      simp only [Act.put, List.getElem_toArray, List.getElem_cons_zero, List.getElem_cons_succ, List.setIfInBounds_toArray, List.set_cons_succ, List.set_cons_zero]
      refine wpAnyH_ready (rs := [2]) (by kernel_rfl) (by simp) ?_
      refine AllReadyH.cons rfl (fun K hK => ?_) AllReadyH.nil
      go_simp
      refine (alike_true _ _ (padB m) _ ((HOW8.out.o2.below HB9.out).src (by rw [← HL2.out]; omega)) ((HR8.out.below HB9.out).src (by rw [← HL2.out]; omega))).mono ?_
      rintro e u1 ⟨rfl, q1, hu1⟩
      have HB10 := hid (show Below w8.heap.size w8 u1 by rw [hu1]; exact ⟨HB9.out.os, HB9.out.tape, HB9.out.output, HB9.out.size, HB9.out.block⟩)
      have HN10 := hid (show Nb u1 bx s (.slice ao n c) by rw [hu1]; exact ⟨HN9.out.blk⟩)
      clear hu1
      go_wp2_with fail
      refine hK.out _ _ HN10.out (fun hHeld => ?_)
      clear hK K
      refine wpAnyH_take (i := 3) (v := (.bool false)) rfl (by kernel_rfl) (by kernel_rfl) (by kernel_rfl) (fun _ _ _ h => h) (Or.inl ⟨by rfl, fun W _ => by go_simp⟩) hHeld ?_
      simp only [Act.put, List.getElem_toArray, List.getElem_cons_zero, List.getElem_cons_succ, List.setIfInBounds_toArray, List.set_cons_succ, List.set_cons_zero]
      refine wpAnyH_take (i := 4) (v := (.bool false)) rfl (by kernel_rfl) (by kernel_rfl) (by kernel_rfl) (fun _ _ _ h => h) (Or.inl ⟨by rfl, fun W _ => by go_simp⟩) hHeld ?_
      simp only [Act.put, List.getElem_toArray, List.getElem_cons_zero, List.getElem_cons_succ, List.setIfInBounds_toArray, List.set_cons_succ, List.set_cons_zero]
      refine wpAnyH_take (i := 5) (v := (.slice a3 L3 k3)) rfl (by kernel_rfl) (by kernel_rfl) (by kernel_rfl) (fun _ _ _ h => h) (Or.inl ⟨by rfl, fun W _ => by go_simp⟩) hHeld ?_
      simp only [Act.put, List.getElem_toArray, List.getElem_cons_zero, List.getElem_cons_succ, List.setIfInBounds_toArray, List.set_cons_succ, List.set_cons_zero]
      refine wpAnyH_take (i := 6) (v := (.slice a5 L3 k5)) rfl (by kernel_rfl) (by kernel_rfl) (by kernel_rfl) (fun _ _ _ h => h) (Or.inl ⟨by rfl, fun W _ => by go_simp⟩) hHeld ?_
      simp only [Act.put, List.getElem_toArray, List.getElem_cons_zero, List.getElem_cons_succ, List.setIfInBounds_toArray, List.set_cons_succ, List.set_cons_zero]
      refine wpAnyH_ready (rs := [7]) (by kernel_rfl) (by simp) ?_
      refine AllReadyH.cons rfl (fun K hK => ?_) AllReadyH.nil
      go_simp
      refine (alike_true _ _ (preA l pss) _ ((HOW8.out.o3.below HB10.out).src (by rw [← HL3.out]; omega)) (HI8.out.below HB10.out)).mono ?_
      rintro e u2 ⟨rfl, q2, hu2⟩
      have HB11 := hid (show Below w8.heap.size w8 u2 by rw [hu2]; exact ⟨HB10.out.os, HB10.out.tape, HB10.out.output, HB10.out.size, HB10.out.block⟩)
      have HN11 := hid (show Nb u2 bx s (.slice ao n c) by rw [hu2]; exact ⟨HN10.out.blk⟩)
      clear hu2
      go_wp2_with fail
      refine hK.out _ _ HN11.out (fun hHeld => ?_)
      clear hK K
      refine wpAnyH_take (i := 8) (v := (.bool false)) rfl (by kernel_rfl) (by kernel_rfl) (by kernel_rfl) (fun _ _ _ h => h) (Or.inl ⟨by rfl, fun W _ => by go_simp⟩) hHeld ?_
      simp only [Act.put, List.getElem_toArray, List.getElem_cons_zero, List.getElem_cons_succ, List.setIfInBounds_toArray, List.set_cons_succ, List.set_cons_zero]
      refine wpAnyH_take (i := 9) (v := (.bool false)) rfl (by kernel_rfl) (by kernel_rfl) (by kernel_rfl) (fun _ _ _ h => h) (Or.inl ⟨by rfl, fun W _ => by go_simp⟩) hHeld ?_
      simp only [Act.put, List.getElem_toArray, List.getElem_cons_zero, List.getElem_cons_succ, List.setIfInBounds_toArray, List.set_cons_succ, List.set_cons_zero]
      refine wpAnyH_take (i := 10) (v := (.bool false)) rfl (by kernel_rfl) (by kernel_rfl) (by kernel_rfl) (fun _ _ _ h => h) (Or.inl ⟨by rfl, fun W _ => by go_simp⟩) hHeld ?_
      simp only [Act.put, List.getElem_toArray, List.getElem_cons_zero, List.getElem_cons_succ, List.setIfInBounds_toArray, List.set_cons_succ, List.set_cons_zero]
      refine wpAnyH_take (i := 11) (v := (.pointer (some ⟨b, 0, none⟩))) rfl (by kernel_rfl) (by kernel_rfl) (by kernel_rfl) (fun _ _ _ h => h) (Or.inl ⟨by rfl, fun W _ => by go_simp⟩) hHeld ?_
      simp only [Act.put, List.getElem_toArray, List.getElem_cons_zero, List.getElem_cons_succ, List.setIfInBounds_toArray, List.set_cons_succ, List.set_cons_zero]
      refine wpAnyH_take (i := 13) (v := (.pointer (some ⟨bx, 1, none⟩))) rfl (by kernel_rfl) (by kernel_rfl) (by kernel_rfl) (fun _ _ _ h => h) (Or.inl ⟨by rfl, fun W _ => by go_simp⟩) hHeld ?_
      simp only [Act.put, List.getElem_toArray, List.getElem_cons_zero, List.getElem_cons_succ, List.setIfInBounds_toArray, List.set_cons_succ, List.set_cons_zero]
      refine wpAnyH_take (i := 14) (v := (.slice ao n c)) rfl (by kernel_rfl) (by kernel_rfl) (by kernel_rfl) (fun _ _ _ h => h) (Or.inl ⟨by rfl, fun W hW => by have hcell := Nb.c1 hW; clear hW; go_simp⟩) hHeld ?_
      simp only [Act.put, List.getElem_toArray, List.getElem_cons_zero, List.getElem_cons_succ, List.setIfInBounds_toArray, List.set_cons_succ, List.set_cons_zero]
      have HBW11 := hid (HB8.out.trans (HB11.out.mono HB8.out.size))
      have HW11 := hid (HI.out.bel.trans (HBW11.out.mono HI.out.bel.size))
      refine wpAnyH_ready (rs := [12]) (by kernel_rfl) (by simp) ?_
      refine AllReadyH.cons rfl (fun K hK => ?_) AllReadyH.nil
      go_simp
      refine (sum_any _ b HH BF (fl pss).length (HT.out.below HW11.out) (HI.out.hst.belowAt HBW11.out HI.out.hst.lt).hg (by have := HNN.out; omega)).mono ?_
      rintro e u3 ⟨rfl, hb⟩
      rw [HDS.out]
      have HB12 := hid (HB11.out.trans (hb.mono HB11.out.size))
      have HN12 := hid (HN11.out.below hb HN11.out.lt)
      clear hb
      go_wp2_with fail
      refine hK.out _ _ HN12.out (fun hHeld => ?_)
      clear hK K
      have HBW12 := hid (HB8.out.trans (HB12.out.mono HB8.out.size))
      have HW12 := hid (HI.out.bel.trans (HBW12.out.mono HI.out.bel.size))
      refine wpAnyH_ready (rs := [15]) (by kernel_rfl) (by simp) ?_
      refine AllReadyH.cons rfl (fun K hK => ?_) AllReadyH.nil
      go_simp
      refine (rof_any X _ _ pss (HR.out.below HW12.out) (HV.out.below HW12.out) (by have := HN1.out; omega) (by have := HNN.out; omega)).mono ?_
      rintro e u4 ⟨rfl, hb⟩
      rw [← HD.out]
      have HB13 := hid (HB12.out.trans (hb.mono HB12.out.size))
      have HN13 := hid (HN12.out.below hb HN12.out.lt)
      clear hb
      go_wp2_with fail
      refine hK.out _ _ HN13.out (fun hHeld => ?_)
      clear hK K
      refine wpAnyH_take (i := 16) (v := (.bool false)) rfl (by kernel_rfl) (by kernel_rfl) (by kernel_rfl) (fun _ _ _ h => h) (Or.inl ⟨by rfl, fun W _ => by have hfact := neqd; go_simp; first | done | simp [hfact]⟩) hHeld ?_
      simp only [Act.put, List.getElem_toArray, List.getElem_cons_zero, List.getElem_cons_succ, List.setIfInBounds_toArray, List.set_cons_succ, List.set_cons_zero]
      refine wpAnyH_take (i := 17) (v := (.bool false)) rfl (by kernel_rfl) (by kernel_rfl) (by kernel_rfl) (fun _ _ _ h => h) (Or.inl ⟨by rfl, fun W _ => by go_simp⟩) hHeld ?_
      simp only [Act.put, List.getElem_toArray, List.getElem_cons_zero, List.getElem_cons_succ, List.setIfInBounds_toArray, List.set_cons_succ, List.set_cons_zero]
      refine wpAnyH_done (by kernel_rfl) ?_ _
      simp only [noPanic]
      clear hHeld
      go_wp2_with fail
      have HOW := hid (HOW8.out.below HB8.out.size HB13.out)
      have HPL2 := hid HL2.out.symm
      have HPL3 := hid HL3.out.symm
      obtain ⟨base, HBS⟩ : ∃ base, Hid (base = W0.heap.size) := ⟨_, rfl⟩
      rw [← HBS.out] at HOW
      have HSG := hid (show base ≤ sb by rw [HBS.out, HSB.out]; exact HB3.out.size)
      have HGE := hid (show base ≤ u4.heap.size by rw [HBS.out]; exact Nat.le_trans HB8.out.size HB13.out.size)
      generalize padB m = B2 at HOW HPL2
      generalize preA l pss = B3 at HOW HPL3
      clear HN9 HB9 HN10 HB10 HN11 HB11 HN12 HB12 HN13 HBW11 HBW12 HW11 HW12 HOW8 HI8 HR8 HN8 HB3 HB4 HB5 HB6 HB7 HW5 HW7 HX1 HX4 HX5 HY2 HY3
      obtain ⟨M1, hM1⟩ : ∃ M : UInt8, IntKind.u8.wrap (91 + (r : Int)) = ((M.toNat : Nat) : Int) := ⟨(91 + r).toUInt8, by rw [IntKind.wrap_u8, byte_of]; omega⟩
      obtain ⟨M2, hM2⟩ : ∃ M : UInt8, IntKind.u8.wrap (93 + (r : Int)) = ((M.toNat : Nat) : Int) := ⟨(93 + r).toUInt8, by rw [IntKind.wrap_u8, byte_of]; omega⟩
      obtain ⟨M3, hM3⟩ : ∃ M : UInt8, IntKind.u8.wrap (95 + (r : Int)) = ((M.toNat : Nat) : Int) := ⟨(95 + r).toUInt8, by rw [IntKind.wrap_u8, byte_of]; omega⟩
      have hBF : BF.length ≤ 64 := by have := HI.out.hst.len; omega
      obtain ⟨L1, HL1⟩ : ∃ L, Hid (BF.length = L) := ⟨_, rfl⟩
      have HPL1 := hid HL1.out
      rw [HL1.out] at HOW HAP hBF ⊢
      generalize BF = B1 at HOW HPL1
      go_wp2_with fail
      go_loopw [16] (fun i wr => ∃ (k : Nat) (B : List UInt8), k ≤ L1 ∧ i = .int .i64 k ∧ B.length = L1 ∧ base ≤ wr.heap.size ∧ Ow base sb HH ((fl pss).length : Nat) (.slice a1 L1 k1) (.slice a2 L2 k2) (.slice a3 L3 k3) B B2 B3 W0 wr) (fun i _ => L1 - (intOf i).toNat)
      case atStart => exact ⟨0, B1, by omega, rfl, HPL1.out, HGE.out, HOW.out⟩
      case round =>
        obtain ⟨k, B, hk, rfl, hBl, hge, ho⟩ := hrel
        have HO1 := hid ho
        have HGE1 := hid hge
        have HBl1 := hid hBl
        have c8 := ho.st.c8
        clear ho hBl hge
        by_cases hlt : k < L1
        · have q2 : (k : Int) < (L1 : Int) := by omega
          obtain ⟨g, hag, hg1, hg2, hcell, hfz, hset⟩ := own_set HO1.out.o1 k (by rw [HBl1.out]; exact hlt) M1
          subst hag
          have HSET := hid (HO1.out.set1 HAP.out hg1 k _ _ hset)
          have HBN := hid (show (B.set k M1).length = L1 by rw [List.length_set]; exact HBl1.out)
          generalize (B.getD k 0).toNat = x at hcell
          clear hset
          go_wp2
          exact ⟨⟨k + 1, B.set k M1, by omega, by simp, HBN.out, by simpa using HGE1.out, HSET.out⟩, by simp [intOf]; omega⟩
        · have q2 : ¬ (k : Int) < (L1 : Int) := by omega
          clear hlt hk
          obtain ⟨C1, HC1⟩ : ∃ C : List UInt8, Hid (B = C) := ⟨_, rfl⟩
          rw [HC1.out] at HO1 HBl1
          go_wp2_with fail
          clear c8
          go_loopw [17] (fun i wr => ∃ (k : Nat) (B : List UInt8), k ≤ L2 ∧ i = .int .i64 k ∧ B.length = L2 ∧ base ≤ wr.heap.size ∧ Ow base sb HH ((fl pss).length : Nat) (.slice a1 L1 k1) (.slice a2 L2 k2) (.slice a3 L3 k3) C1 B B3 W0 wr) (fun i _ => L2 - (intOf i).toNat)
          case atStart => exact ⟨0, B2, by omega, rfl, HPL2.out, HGE1.out, HO1.out⟩
          case round =>
            obtain ⟨k, B, hk, rfl, hBl, hge, ho⟩ := hrel
            have HO2 := hid ho
            have HGE2 := hid hge
            have HBl2 := hid hBl
            have c8 := ho.st.c8
            clear ho hBl hge
            by_cases hlt : k < L2
            · have q2 : (k : Int) < (L2 : Int) := by omega
              obtain ⟨g, hag, hg1, hg2, hcell, hfz, hset⟩ := own_set HO2.out.o2 k (by rw [HBl2.out]; exact hlt) M2
              subst hag
              have HSET := hid (HO2.out.set2 HAP.out hg1 k _ _ hset)
              have HBN := hid (show (B.set k M2).length = L2 by rw [List.length_set]; exact HBl2.out)
              generalize (B.getD k 0).toNat = x at hcell
              clear hset
              go_wp2
              exact ⟨⟨k + 1, B.set k M2, by omega, by simp, HBN.out, by simpa using HGE2.out, HSET.out⟩, by simp [intOf]; omega⟩
            · have q2 : ¬ (k : Int) < (L2 : Int) := by omega
              clear hlt hk
              obtain ⟨C2, HC2⟩ : ∃ C : List UInt8, Hid (B = C) := ⟨_, rfl⟩
              rw [HC2.out] at HO2 HBl2
              go_wp2_with fail
              clear c8
              go_loopw [18] (fun i wr => ∃ (k : Nat) (B : List UInt8), k ≤ L3 ∧ i = .int .i64 k ∧ B.length = L3 ∧ base ≤ wr.heap.size ∧ Ow base sb HH ((fl pss).length : Nat) (.slice a1 L1 k1) (.slice a2 L2 k2) (.slice a3 L3 k3) C1 C2 B W0 wr) (fun i _ => L3 - (intOf i).toNat)
              case atStart => exact ⟨0, B3, by omega, rfl, HPL3.out, HGE2.out, HO2.out⟩
              case round =>
                obtain ⟨k, B, hk, rfl, hBl, hge, ho⟩ := hrel
                have HO3 := hid ho
                have HGE3 := hid hge
                have HBl3 := hid hBl
                have c8 := ho.st.c8
                clear ho hBl hge
                by_cases hlt : k < L3
                · have q2 : (k : Int) < (L3 : Int) := by omega
                  obtain ⟨g, hag, hg1, hg2, hcell, hfz, hset⟩ := own_set HO3.out.o3 k (by rw [HBl3.out]; exact hlt) M3
                  subst hag
                  have HSET := hid (HO3.out.set3 HAP.out hg1 k _ _ hset)
                  have HBN := hid (show (B.set k M3).length = L3 by rw [List.length_set]; exact HBl3.out)
                  generalize (B.getD k 0).toNat = x at hcell
                  clear hset
                  go_wp2
                  exact ⟨⟨k + 1, B.set k M3, by omega, by simp, HBN.out, by simpa using HGE3.out, HSET.out⟩, by simp [intOf]; omega⟩
                · have q2 : ¬ (k : Int) < (L3 : Int) := by omega
                  clear hlt hk
                  obtain ⟨C3, HC3⟩ : ∃ C : List UInt8, Hid (B = C) := ⟨_, rfl⟩
                  rw [HC3.out] at HO3 HBl3
                  obtain ⟨Wl, HWl⟩ : ∃ W : World, Hid (W = wr) := ⟨_, rfl⟩
                  rw [← HWl.out] at c8 HO3 HGE3 ⊢
                  obtain ⟨J1, HJ1⟩ : ∃ J, Hid (J = L1 + 8) := ⟨_, rfl⟩
                  obtain ⟨J2, HJ2⟩ : ∃ J, Hid (J = L2 + 4) := ⟨_, rfl⟩
                  obtain ⟨J3, HJ3⟩ : ∃ J, Hid (J = L3 + 4) := ⟨_, rfl⟩
                  have hw2 : IntKind.i64.wrap ((L2 : Int) + 4) = (J2 : Int) := by rw [IntKind.wrap_i64, HJ2.out]; omega
                  have hw3 : IntKind.i64.wrap ((L3 : Int) + 4) = (J3 : Int) := by rw [IntKind.wrap_i64, HJ3.out]; omega
                  go_wp2_with (at_builtin; refine app_src rfl _ _ rfl base _ C1 rfl (HO3.out.o1.below (below_walk _ _)) _ [1, 2, 3, 4, 5, 6, 7, 8] rfl (src_lit (hp_new _ _) rfl (by simp) 8 rfl) ?l1 ?l2 ?_)
                  case l1 => rw [HBl1.out]; first | omega | (show L1 + 8 ≤ 140737488355327; omega)
                  case l2 => have := HGE3.out; simp; omega
                  intro v1' wA hoA hgA
                  have HAs := hid ((HO3.out.st.below (below_walk Wl _)).grown hgA (own_typ HO3.out.o1 HO3.out.st))
                  have HA2 := hid ((HO3.out.o2.below (below_walk Wl _)).kept hgA (flip HAP.out.a))
                  have HA3 := hid ((HO3.out.o3.below (below_walk Wl _)).kept hgA (flip HAP.out.b))
                  have HAg := hid (Nat.le_trans HGE3.out (Nat.le_trans (below_walk Wl _).size hgA.size))
                  have HAb := hid ((HO3.out.bel.trans ((below_walk Wl _).mono HGE3.out)).grown hgA (Nat.le_trans HGE3.out (below_walk Wl _).size) (fun k hk => (HO3.out.o1.lt k hk).1))
                  obtain ⟨x1, y1, hv1⟩ := hoA.shape
                  have e1 : (C1 ++ [1, 2, 3, 4, 5, 6, 7, 8]).length = J1 := by rw [List.length_append, HBl1.out, HJ1.out]; rfl
                  rw [e1] at hv1
                  subst hv1
                  clear hoA hgA c8
                  have c8 := HAs.out.c8
                  have f8 := HAs.out.fz 8
                  go_upto_region 27 with fail
                  have hgs := gb_set wA ⟨sb, 8, none⟩ (.slice x1 J1 y1)
                  have HB2' := hid (HA2.out.kept hgs (Or.inr (own_typ HA2.out HAs.out)))
                  have HBq := hid (HA3.out.kept hgs (Or.inr (own_typ HA3.out HAs.out)))
                  have HBb := hid (HAb.out.grown hgs HAg.out (by intro k hk; cases hk; exact HSG.out))
                  have HBg := hid (show base ≤ (wA.setCell ⟨sb, 8, none⟩ (.slice x1 J1 y1)).heap.size by simpa using HAg.out)
                  clear hgs c8 f8 HAs HA2 HA3 HAb HAg
                  generalize wA.setCell ⟨sb, 8, none⟩ (.slice x1 J1 y1) = wB at HB2' HBq HBb HBg ⊢
                  go_wp2_with (at_builtin; refine app_src rfl _ _ rfl base _ C2 rfl (HB2'.out.below (below_walk _ _)) _ [9, 9, 9, 9] rfl (src_lit (hp_new _ _) rfl (by simp) 4 rfl) ?l3 ?l4 ?_)
                  case l3 => rw [HBl2.out]; first | omega | (show L2 + 4 ≤ 140737488355327; omega)
                  case l4 => have := HBg.out; simp; omega
                  intro v2' wC hoC hgC
                  have HCo := hid ((HBq.out.below (below_walk wB _)).kept hgC (flip HAP.out.c))
                  have HCg := hid (Nat.le_trans HBg.out (Nat.le_trans (below_walk wB _).size hgC.size))
                  have HCb := hid ((HBb.out.trans ((below_walk wB _).mono HBg.out)).grown hgC (Nat.le_trans HBg.out (below_walk wB _).size) (fun k hk => (HB2'.out.lt k hk).1))
                  obtain ⟨x2, y2, hv2⟩ := hoC.shape
                  have e2 : (C2 ++ [9, 9, 9, 9]).length = J2 := by rw [List.length_append, HBl2.out, HJ2.out]; rfl
                  rw [e2] at hv2
                  subst hv2
                  clear hoC hgC HB2' HBq HBb HBg
                  go_wp2_with (at_builtin; refine app_src rfl _ _ rfl base _ C3 rfl (HCo.out.below (below_walk _ _)) _ [8, 8, 8, 8] rfl (src_lit (hp_new _ _) rfl (by simp) 4 rfl) ?l5 ?l6 ?_)
                  case l5 => rw [HBl3.out]; first | omega | (show L3 + 4 ≤ 140737488355327; omega)
                  case l6 => have := HCg.out; simp; omega
                  intro v3' wD hoD hgD
                  have HDb := hid (show Below W0.heap.size W0 wD by rw [← HBS.out]; exact (HCb.out.trans ((below_walk wC _).mono HCg.out)).grown hgD (Nat.le_trans HCg.out (below_walk wC _).size) (fun k hk => (HCo.out.lt k hk).1))
                  obtain ⟨x3, y3, hv3⟩ := hoD.shape
                  have e3 : (C3 ++ [8, 8, 8, 8]).length = J3 := by rw [List.length_append, HBl3.out, HJ3.out]; rfl
                  rw [e3] at hv3
                  subst hv3
                  clear hoD hgD HCo HCg HCb
                  have HIV := hid (⟨HI.out.bel.trans (HDb.out.mono HI.out.bel.size), HI.out.hst.belowAt HDb.out HI.out.hst.lt, HI.out.nb.below HDb.out HI.out.nb.lt, HI.out.lb, HI.out.lx⟩ : Iv w bx b s (.slice ao n c) HH BF (fl pss).length wD)
                  go_wp2
                  exact ⟨⟨r + 1, by omega, by simp, HIV.out⟩, by simp [intOf]; omega⟩
    · have q1 : ¬ (r : Int) < 2 := by omega
      go_upto_region 31 with fail
      have HN9 := hid (show Nb W0.drew bx s (.slice ao n c) from ⟨HI.out.nb.blk⟩)
      have HB9 := hid (below_drew W0)
      have HW9 := hid (HI.out.bel.trans (HB9.out.mono HI.out.bel.size))
      refine wp_noPanic (wp_region_held_drew (S := fun W => Nb W bx s (.slice ao n c)) (by kernel_rfl) HN9.out ?_)
      intro hHeld
      refine wpAnyH_take (i := 0) (v := (.pointer (some ⟨b, 0, none⟩))) rfl (by kernel_rfl) (by kernel_rfl) (by kernel_rfl) (fun _ _ _ h => h) (Or.inl ⟨by rfl, fun W _ => by go_simp⟩) hHeld ?_
      simp only [Act.put, List.getElem_toArray, List.getElem_cons_zero, List.setIfInBounds_toArray, List.set_cons_succ, List.set_cons_zero]
      refine wpAnyH_take (i := 2) (v := (.pointer (some ⟨bx, 1, none⟩))) rfl (by kernel_rfl) (by kernel_rfl) (by kernel_rfl) (fun _ _ _ h => h) (Or.inl ⟨by rfl, fun W _ => by go_simp⟩) hHeld ?_
      simp only [Act.put, List.getElem_toArray, List.getElem_cons_zero, List.getElem_cons_succ, List.setIfInBounds_toArray, List.set_cons_succ, List.set_cons_zero]
      refine wpAnyH_take (i := 3) (v := (.slice ao n c)) rfl (by kernel_rfl) (by kernel_rfl) (by kernel_rfl) (fun _ _ _ h => h) (Or.inl ⟨by rfl, fun W hW => by have hcell := Nb.c1 hW; clear hW; go_simp⟩) hHeld ?_
      simp only [Act.put, List.getElem_toArray, List.getElem_cons_zero, List.getElem_cons_succ, List.setIfInBounds_toArray, List.set_cons_succ, List.set_cons_zero]
      refine wpAnyH_ready (rs := [1]) (by kernel_rfl) (by simp) ?_
      refine AllReadyH.cons rfl (fun K hK => ?_) AllReadyH.nil
      go_simp
      refine (sum_any _ b HH BF (fl pss).length (HT.out.below HW9.out) (HI.out.hst.belowAt HB9.out HI.out.hst.lt).hg (by have := HNN.out; omega)).mono ?_
      rintro e u3 ⟨rfl, hb⟩
      rw [HDS.out]
      have HW12 := hid (HW9.out.trans (hb.mono HW9.out.size))
      have HN12 := hid (HN9.out.below hb HN9.out.lt)
      clear hb
      go_wp2_with fail
      refine hK.out _ _ HN12.out (fun hHeld => ?_)
      clear hK K
      refine wpAnyH_ready (rs := [4]) (by kernel_rfl) (by simp) ?_
      refine AllReadyH.cons rfl (fun K hK => ?_) AllReadyH.nil
      go_simp
      refine (rof_any X _ _ pss (HR.out.below HW12.out) (HV.out.below HW12.out) (by have := HN1.out; omega) (by have := HNN.out; omega)).mono ?_
      rintro e u4 ⟨rfl, hb⟩
      rw [← HD.out]
      have HW13 := hid (HW12.out.trans (hb.mono HW12.out.size))
      have HN13 := hid (HN12.out.below hb HN12.out.lt)
      clear hb
      go_wp2_with fail
      refine hK.out _ _ HN13.out (fun hHeld => ?_)
      clear hK K
      refine wpAnyH_take (i := 5) (v := (.bool true)) rfl (by kernel_rfl) (by kernel_rfl) (by kernel_rfl) (fun _ _ _ h => h) (Or.inl ⟨by rfl, fun W _ => by have hfact := eqd; go_simp; first | done | simp [hfact]⟩) hHeld ?_
      simp only [Act.put, List.getElem_toArray, List.getElem_cons_zero, List.getElem_cons_succ, List.setIfInBounds_toArray, List.set_cons_succ, List.set_cons_zero]
      refine wpAnyH_take (i := 6) (v := (.bool true)) rfl (by kernel_rfl) (by kernel_rfl) (by kernel_rfl) (fun _ _ _ h => h) (Or.inl ⟨by rfl, fun W _ => by go_simp⟩) hHeld ?_
      simp only [Act.put, List.getElem_toArray, List.getElem_cons_zero, List.getElem_cons_succ, List.setIfInBounds_toArray, List.set_cons_succ, List.set_cons_zero]
      refine wpAnyH_ready (rs := [7]) (by kernel_rfl) (by simp) ?_
      refine AllReadyH.cons rfl (fun K hK => ?_) AllReadyH.nil
      go_simp
      refine (awake_any _ (HT.out.below HW13.out)).mono ?_
      rintro e u5 ⟨rfl, hb⟩
      have HW14 := hid (HW13.out.trans (hb.mono HW13.out.size))
      have HN14 := hid (HN13.out.below hb HN13.out.lt)
      clear hb
      go_wp2_with fail
      refine hK.out _ _ HN14.out (fun hHeld => ?_)
      clear hK K
      refine wpAnyH_take (i := 8) (v := (.bool true)) rfl (by kernel_rfl) (by kernel_rfl) (by kernel_rfl) (fun _ _ _ h => h) (Or.inl ⟨by rfl, fun W _ => by go_simp⟩) hHeld ?_
      simp only [Act.put, List.getElem_toArray, List.getElem_cons_zero, List.getElem_cons_succ, List.setIfInBounds_toArray, List.set_cons_succ, List.set_cons_zero]
      refine wpAnyH_take (i := 9) (v := (.bool true)) rfl (by kernel_rfl) (by kernel_rfl) (by kernel_rfl) (fun _ _ _ h => h) (Or.inl ⟨by rfl, fun W _ => by go_simp⟩) hHeld ?_
      simp only [Act.put, List.getElem_toArray, List.getElem_cons_zero, List.getElem_cons_succ, List.setIfInBounds_toArray, List.set_cons_succ, List.set_cons_zero]
      refine wpAnyH_done (by kernel_rfl) ?_ _
      simp only [noPanic]
      clear hHeld
      go_wp2_with fail
      go_ret
      exact ⟨rfl, HW14.out⟩

end Go.Proofs.YticmdmnjajjpbacDoor
