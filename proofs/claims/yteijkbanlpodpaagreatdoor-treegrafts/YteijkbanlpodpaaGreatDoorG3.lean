/- Contracts and pure facts that the proof needs, joined. -/
import Derived.Test.YteijkbanlpodpaaGreatDoorG1
import Derived.Test.YteijkbanlpodpaaGreatDoorG2
import Derived.Deep.Strs
import Derived.ChangeSame
import Derived.Laws.StructEq
import Derived.Deep.MidRow
import Derived.Deep.Upon
import Derived.Test.YteijkbanlpodpaaGreatDoorRows
import Derived.ProofKit
import Derived.OpenShut
import Derived.Deep.Slices
import Derived.SizedLaws
import Derived.RangeFuncBox
import Derived.RangeFuncLeaves
import Derived.RangeFuncNested
import Derived.Shelf.Abstract
import Derived.WalkKit
import Derived.OwnWalkIn
import Derived.TacticsInMore
import Derived.LoopNIn
import Derived.LoopIn
import Derived.Laws.EntriesVeiled
import Derived.Deep.OwnRows
import Derived.Deep.Cut
import Derived.Laws.CopyOwn
import Derived.Deep.RegionLaw
import Derived.OrdersHeld
import Derived.Deep.RegionHeld3

/- Entries out of their reading. -/
namespace Go.Proofs.YteijkbanlpodpaaGreatDoor
open Go.ChangeShapes Go.WideShapes Go.ChangeAt Go.RowKit

theorem cellsEnt : Tryz.prog.cellsOf 25 = 3 := by kernel_rfl
theorem cellsInt : Tryz.prog.cellsOf 3 = 1 := by kernel_rfl
theorem three_of {α : Type} {l : List α} (h : l.length = 3) : ∃ a b c, l = [a, b, c] := by
  match l, h with
  | [a, b, c], _ => exact ⟨a, b, c, rfl⟩

/-- entries of bulk -/
structure EBk (es : List Ent) : Prop where
  len : es.length ≤ 1048576
  bulk : Bulk es
  sz : szP es ≤ 1048576
theorem EBk.tre {es : List Ent} (h : EBk es) : Tre es := ⟨by have := h.len; omega, fun e he => by have := h.bulk e he; unfold Shr; omega, by have := h.sz; omega⟩

section
variable {H : Type} {enc : TypeId × Value → H} {W : World} {spare : Nat → Bool} {held : Bool}

/-- one entry -/
theorem ent_b {fuel : Nat} {cs : List Value} {x : DataW H × List MemPlace} (h : DataW.trod enc Tryz.prog W 0 spare held fuel 25 cs = some x) :
    ∃ e : Ent, cs = entV e ∧ e.1.length + e.2.2.length < Rows.uptoBulk x.1 := by
  obtain ⟨y0, y1, y2, n, hx, hl, t0, t1, t2⟩ := Go.Deep.trod_struct3 Tryz.underlying25 h
  rw [cellsEnt] at hl
  obtain ⟨a, b, c, rfl⟩ := three_of hl
  simp only [cellsStr, cellsInt] at t0 t1 t2
  obtain ⟨s0, e0, f0, _⟩ := DataW.trod_string Tryz.underlying9 t0
  obtain ⟨K, e1, f1⟩ := DataW.trod_int Tryz.underlying3 t1
  obtain ⟨s2, e2, f2, _⟩ := DataW.trod_string Tryz.underlying9 t2
  simp at e0 e1 e2
  subst e0 e1 e2
  refine ⟨(bl s0, K, bl s2), by unfold entV; rw [mk_bl, mk_bl], ?_⟩
  rw [hx, f0, f2]
  have := bulk_pos y1.1
  simp only [Rows.uptoBulk, Rows.uptoBulkAll, bl_eq]
  omega

set_option maxRecDepth 100000 in
theorem ents_b {ao : Option Addr} {n c : Nat} {d : DataW H} {pl : List MemPlace} (h : DataW.Trod enc Tryz.prog W 0 spare held 22 (.slice ao n c) d pl) (hk : Rows.uptoBulk d ≤ 1048576) :
    ∃ es : List Ent, Ents W (.slice ao n c) es ∧ EBk es := by
  obtain ⟨fuel, hf⟩ := h
  rcases Go.Deep.open_slice Tryz.underlying22 hf with ⟨hcs, _⟩ | ⟨a, len, cap, m, n', D, Pl, hcs, _, hl, hm, hmm, hx, hel⟩
  · simp [Value.cells] at hcs
    obtain ⟨rfl, rfl, rfl⟩ := hcs
    exact ⟨[], Or.inl ⟨_, _, rfl, rfl, fun _ => rfl⟩, by simp, fun e h => (by cases h), by simp [szP]⟩
  · simp [Value.cells] at hcs
    obtain ⟨rfl, rfl, rfl⟩ := hcs
    have hlm : n ≤ m := by rw [hmm]; split <;> omega
    rw [cellsEnt] at hel
    simp only [Prod.mk.injEq] at hx
    have hbd : Rows.uptoBulkAll ((List.range n).map D) ≤ 1048576 := by rw [hx.1] at hk; simp only [Rows.uptoBulk] at hk; omega
    have hn : n ≤ 1048576 := by
      have := bulk_count ((List.range n).map D)
      simp at this
      omega
    obtain ⟨es, hes, hp⟩ := list_of (P := fun i (e : Ent) => W.cell? (a.add (i * 3)) = some (.string (mk e.1)) ∧ W.cell? ((a.add (i * 3)).add 1) = some (.int .i64 e.2.1) ∧ W.cell? ((a.add (i * 3)).add 2) = some (.string (mk e.2.2)) ∧ e.1.length + e.2.2.length < Rows.uptoBulk (D i)) (n := n) (by
      intro i hi
      obtain ⟨cs', hc, ht⟩ := hel i (by omega)
      obtain ⟨e, rfl, hb⟩ := ent_b ht
      have hh := World.cells?_some hc
      exact ⟨e, by simpa [Addr.add, entV] using hh.2.2 0 (by omega), by simpa [entV] using hh.2.2 1 (by omega), by simpa [entV] using hh.2.2 2 (by omega), hb⟩)
    have hsum : ∀ k, k ≤ n → szP (es.take k) ≤ Rows.uptoBulkAll ((List.range k).map D) := by
      intro k
      induction k with
      | zero => intro _; simp [szP]
      | succ k ih =>
        intro hk2
        have h1 := ih (by omega)
        rw [take_snoc es k (by omega), szP_snoc, bulk_range]
        have h2 := (hp k (es.getD k zE) (by rw [List.getD_eq_getElem?_getD, List.getElem?_eq_getElem (show k < es.length by omega)]; rfl)).2.2.2
        omega
    refine ⟨es, ?_, by omega, ?_, ?_⟩
    · rcases Nat.eq_zero_or_pos n with rfl | hpos
      · exact Or.inl ⟨_, _, rfl, List.length_eq_zero_iff.1 hes, fun e => by cases e⟩
      · have hg : ∀ j, j < n → es[j]? = some (es.getD j zE) := fun j hj => by rw [List.getD_eq_getElem?_getD, List.getElem?_eq_getElem (show j < es.length by omega)]; rfl
        have h0 := (hp 0 _ (hg 0 hpos)).1
        have ha : a = ⟨a.block, a.off, none⟩ := addr_plain (v := .string (mk (es.getD 0 zE).1)) (by simpa [Addr.add] using h0)
        have hlt : a.block < W.heap.size := World.block_lt_of_cell? W a (u := .string (mk (es.getD 0 zE).1)) (by simpa [Addr.add] using h0)
        generalize a.block = g at ha hlt
        generalize a.off = o at ha
        subst ha
        refine Or.inr ⟨g, o, c, by rw [hes], hlt, by rw [hes]; exact hl, fun j hj => ?_⟩
        obtain ⟨c0, c1, c2, _⟩ := hp j _ (hg j (by omega))
        simp only [add_plain] at c0 c1 c2
        exact ⟨c0, c1, c2⟩
    · intro e he
      obtain ⟨j, hj, rfl⟩ := List.mem_iff_getElem.1 he
      have h1 := (hp j _ (List.getElem?_eq_getElem hj)).2.2.2
      have h2 : Rows.uptoBulk (D j) ≤ 1048576 := Nat.le_trans (bulk_mem (List.mem_map.2 ⟨j, List.mem_range.2 (by omega), rfl⟩)) hbd
      omega
    · have := hsum n (Nat.le_refl _)
      rw [List.take_of_length_le (by omega)] at this
      omega
end

end Go.Proofs.YteijkbanlpodpaaGreatDoor

/- Entries are compared. -/
namespace Go.Proofs.YteijkbanlpodpaaGreatDoor
open Go.RowKit

theorem entG : Tryz.prog.eqGuardType Tryz.prog.depth 25 = false := by kernel_rfl
theorem eq_run (s1 s2 d1 d2 : ByteArray) (k1 k2 : Int) (w : World) : (Op.equalIn 10000 25 (.agg #[.string s1, .int .i64 k1, .string d1]) (.agg #[.string s2, .int .i64 k2, .string d2])).run Tryz.prog w = .ok (s1.toList == s2.toList && k1 == k2 && d1.toList == d2.toList) w := by
  have hS : Tryz.prog.underlying 25 = some (.struct (Tryz.prog.fieldsOf 25)) := by kernel_rfl
  have hp : Tryz.prog.stoodInHeld 25 = false := by kernel_rfl
  have u3 := Tryz.underlying3
  have a3 := Tryz.isAgg3
  have z3 := Tryz.sizeOf3
  have u9 := Tryz.underlying9
  have a9 := Tryz.isAgg9
  have z9 := Tryz.sizeOf9
  rw [show (10000 : Nat) = 9999 + 1 from rfl, run_equalIn_agg w 9999 25 _ _ hS hp]
  simp only [Program.fieldsOf, Tryz.underlying25]
  go_simp
  by_cases h1 : s1.toList = s2.toList <;> by_cases h2 : k1 = k2 <;> by_cases h3 : d1.toList = d2.toList <;> simp [h1, h2, h3]
theorem eqb_ent (a b : Ent) : ((mk a.1).toList == (mk b.1).toList && a.2.1 == b.2.1 && (mk a.2.2).toList == (mk b.2.2).toList) = decide (a = b) := by
  have e1 : ∀ l, (mk l).toList = l := bl_mk
  rw [e1, e1, e1, e1, Bool.eq_iff_iff]
  obtain ⟨p, k, d⟩ := a
  obtain ⟨p', k', d'⟩ := b
  simp [and_assoc]
theorem eql_ent (a b : Ent) (w : World) : (binOp .eql 25 (.agg #[.string (mk a.1), .int .i64 a.2.1, .string (mk a.2.2)]) (.agg #[.string (mk b.1), .int .i64 b.2.1, .string (mk b.2.2)])).run Tryz.prog w = .ok (.bool (decide (a = b))) w := by
  rw [run_eql_struct, eq_run, eqb_ent]
  rfl
theorem neq_ent (a b : Ent) (w : World) : (binOp .neq 25 (.agg #[.string (mk a.1), .int .i64 a.2.1, .string (mk a.2.2)]) (.agg #[.string (mk b.1), .int .i64 b.2.1, .string (mk b.2.2)])).run Tryz.prog w = .ok (.bool (!decide (a = b))) w := by
  rw [run_neq_struct, eq_run, eqb_ent]
  rfl

end Go.Proofs.YteijkbanlpodpaaGreatDoor

/- The document's Size and Same. -/
namespace Go.Proofs.YteijkbanlpodpaaGreatDoor
open Go.RowKit Go.BigFrame

set_option maxRecDepth 100000 in
set_option maxHeartbeats 1000000 in
theorem rsize_any (v : Value) (t : List Ent) (w : World) (h : Ents w v t) (hn : t.length ≤ 4611686018427387904) (hz : szP t ≤ 4611686018427387904) :
    Calls Tryz.prog 46 #[v] w fun r w' => r = .returned (.int .i64 (szP t : Nat)) ∧ w' = w := by
  obtain ⟨ao, c, rfl⟩ := h.shape
  have H := hid h
  have HZ := hid hz
  clear h hz
  go_enter Tryz.func46, Tryz.ntmps46
  go_wp2
  go_loop [3, 4] (fun s i => ∃ k : Nat, i = .int .i64 k ∧ k ≤ t.length ∧ s = .int .i64 (szP (t.take k) : Nat)) (fun _ i => t.length - (intOf i).toNat)
  case atStart => exact ⟨0, rfl, Nat.zero_le _, rfl⟩
  case round =>
    obtain ⟨k, rfl, hk, rfl⟩ := hrel
    by_cases hlt : k < t.length
    · have q2 : (k : Int) < (t.length : Int) := by omega
      obtain ⟨g, o, rfl, hgl, hcell⟩ := H.out.at k hlt
      obtain ⟨e, HE⟩ : ∃ e, Hid (t.getD k zE = e) := ⟨_, rfl⟩
      rw [HE.out] at hcell
      obtain ⟨c0, c1, c2⟩ := hcell
      have HS := hid (show szP (t.take (k + 1)) = szP (t.take k) + e.2.2.length by rw [take_snoc t k hlt, szP_snoc, HE.out])
      have HT := hid (szP_take t (k + 1))
      obtain ⟨S, HSS⟩ : ∃ S : Nat, Hid (szP (t.take k) = S) := ⟨_, rfl⟩
      obtain ⟨M, HMM⟩ : ∃ M : Nat, Hid (szP (t.take (k + 1)) = M) := ⟨_, rfl⟩
      rw [HSS.out, HMM.out] at HS
      rw [HMM.out] at HT
      rw [HSS.out]
      have hdz : (mk e.2.2).size = e.2.2.length := mk_size _
      obtain ⟨D, HDD⟩ : ∃ D : Nat, Hid (e.2.2.length = D) := ⟨_, rfl⟩
      rw [HDD.out] at hdz HS
      have hw1 : IntKind.i64.wrap ((S : Int) + (D : Int)) = (M : Int) := by rw [IntKind.wrap_i64]; have := HS.out; have := HT.out; have := HZ.out; omega
      have hDl : D ≤ 4611686018427387904 := by have := HS.out; have := HT.out; have := HZ.out; omega
      generalize mk e.2.2 = sd at *
      go_wp2
      exact ⟨⟨k + 1, by simp, by omega, by rw [HMM.out]⟩, by simp [intOf]; omega⟩
    · have q2 : ¬ (k : Int) < (t.length : Int) := by omega
      obtain rfl : k = t.length := by omega
      rw [List.take_length]
      go_wp2
      go_ret
      exact ⟨rfl, rfl⟩

theorem ext_getD {a b : List Ent} (h : a.length = b.length) (hs : ∀ j, j < a.length → a.getD j zE = b.getD j zE) : a = b := by
  apply List.ext_getElem h
  intro i h1 h2
  have := hs i h1
  simpa [List.getD_eq_getElem?_getD, h1, h2] using this

set_option maxRecDepth 100000 in
set_option maxHeartbeats 1000000 in
theorem rsame_any (va vb : Value) (a b : List Ent) (w : World) (ha : Ents w va a) (hb : Ents w vb b) (hn : a.length ≤ 4611686018427387904) :
    Calls Tryz.prog 14 #[va, vb] w fun r w' => r = .returned (.bool (decide (a = b))) ∧ ∃ q, w' = w.drewN q := by
  obtain ⟨ao, ca, rfl⟩ := ha.shape
  obtain ⟨bo, cb, rfl⟩ := hb.shape
  have HA := hid ha
  have HB := hid hb
  by_cases hlen : a.length = b.length
  · have q1 : (a.length : Int) = (b.length : Int) := by omega
    have HL := hid hlen
    clear hlen ha hb
    go_enter Tryz.func14, Tryz.ntmps14
    go_wp2
    go_loopw [5] (fun i wr => ∃ k : Nat, i = .int .i64 k ∧ k ≤ a.length ∧ (∀ j, j < k → a.getD j zE = b.getD j zE) ∧ ∃ q, wr = w.drewN q) (fun i _ => a.length - (intOf i).toNat)
    case atStart => exact ⟨0, rfl, Nat.zero_le _, fun j hj => by omega, 0, rfl⟩
    case round =>
      obtain ⟨k, rfl, hk, hs, q, rfl⟩ := hrel
      have HS := hid hs
      clear hs
      by_cases hlt : k < a.length
      · have q2 : (k : Int) < (a.length : Int) := by omega
        have q2b : (k : Int) < (b.length : Int) := by omega
        obtain ⟨g, o, rfl, hgl, hcell⟩ := HA.out.at k hlt
        obtain ⟨g', o', rfl, hgl', hcell'⟩ := HB.out.at k (by have := HL.out; omega)
        obtain ⟨e, HE⟩ : ∃ e, Hid (a.getD k zE = e) := ⟨_, rfl⟩
        obtain ⟨f, HF⟩ : ∃ f, Hid (b.getD k zE = f) := ⟨_, rfl⟩
        rw [HE.out] at hcell
        rw [HF.out] at hcell'
        obtain ⟨c0, c1, c2⟩ := hcell
        obtain ⟨d0, d1, d2⟩ := hcell'
        have hg := entG
        have hne := fun W => neq_ent e f W
        obtain ⟨X, HX⟩ : ∃ X, Hid (decide (e = f) = X) := ⟨_, rfl⟩
        rw [HX.out] at hne
        have HNE := hid (fun (h : X = false) => show decide (a = b) = false from by
          rw [decide_eq_false_iff_not]
          rintro rfl
          rw [← HE.out, ← HF.out, h] at HX
          simpa using HX.out)
        have HEQ := hid (fun (h : X = true) => show ∀ j, j < k + 1 → a.getD j zE = b.getD j zE from by
          intro j hj
          by_cases hjk : j = k
          · subst hjk
            rw [HE.out, HF.out]
            have := HX.out
            rw [h, decide_eq_true_iff] at this
            exact this
          · exact HS.out j (by omega))
        clear HX
        generalize mk e.1 = s1 at *
        generalize mk e.2.2 = s2 at *
        generalize mk f.1 = s3 at *
        generalize mk f.2.2 = s4 at *
        generalize e.2.1 = k1 at *
        generalize f.2.1 = k2 at *
        cases X with
        | true =>
          have HEQ2 := hid (HEQ.out rfl)
          clear HEQ HNE
          go_wp2_with fail
          go_quiet (fail)
          go_wp2
          exact ⟨⟨k + 1, by simp, by omega, HEQ2.out, q + nq, by simp⟩, by simp [intOf]; omega⟩
        | false =>
          have HNE2 := hid (HNE.out rfl)
          clear HEQ HNE
          go_wp2_with fail
          go_quiet (fail)
          go_wp2
          go_ret
          exact ⟨ret_bb HNE2.out.symm, q + nq, by simp⟩
      · have q2 : ¬ (k : Int) < (a.length : Int) := by omega
        obtain rfl : k = a.length := by omega
        have HD := hid (show decide (a = b) = true by rw [decide_eq_true_iff]; exact ext_getD HL.out HS.out)
        go_wp2
        go_ret
        exact ⟨ret_bb HD.out.symm, q, rfl⟩
  · have q1 : ¬ (a.length : Int) = (b.length : Int) := by omega
    have q2 : ((a.length : Int) == (b.length : Int)) = false := by simp; omega
    have HD := hid (show decide (a = b) = false by rw [decide_eq_false_iff_not]; intro h; exact hlen (by rw [h]))
    clear hlen ha hb
    go_enter Tryz.func14, Tryz.ntmps14
    go_wp2
    go_ret
    exact ⟨ret_bb HD.out.symm, 0, rfl⟩

end Go.Proofs.YteijkbanlpodpaaGreatDoor

/- A right tree's entries in any order; entries that change places in memory; numbers out of their reading. -/
namespace Go.Proofs.YteijkbanlpodpaaGreatDoor
open Go.ChangeShapes Go.WideShapes Go.ChangeAt Go.RowKit

theorem anc_dir {t : List Ent} (h : Ris t) {e : Ent} (he : e ∈ t) {d : List UInt8} (hd : d ∈ ancs e.1) : ∃ x ∈ t, x.1 = d ∧ x.2.1 = 2 := by
  obtain ⟨j, h1, h2, rfl⟩ := mem_ancs.1 hd
  rcases anc h he _ j rfl h2 with h3 | ⟨x, hx, h3, h4⟩
  · omega
  · exact ⟨x, hx, by rw [← h3, txt_nms], h4⟩
theorem mkP_right {t l : List Ent} (h : Rgt t) (hp : l.Perm t) : mkP l = .ok t := by
  have hnt := pair_nodup h.up
  have hn : (l.map (·.1)).Nodup := (hp.map _).nodup_iff.2 hnt
  have hm : l.all mayP = true := List.all_eq_true.2 (fun e he => h.may e (hp.mem_iff.1 he))
  have hw : wrongP l = false := by
    rw [Bool.eq_false_iff]
    intro hw
    obtain ⟨e, he, x, hx, h1, h2⟩ := wrongP_iff.1 hw
    obtain ⟨y, hy, h3, h4⟩ := anc_dir h.toRis (hp.mem_iff.1 he) h1
    have := nd_uniq hnt hy (hp.mem_iff.1 hx) h3
    subst this
    exact h2 h4
  have hl : lackL l = [] := by
    rw [List.eq_nil_iff_forall_not_mem]
    intro d hd
    obtain ⟨⟨e, he, h1⟩, h2⟩ := mem_lackL.1 hd
    obtain ⟨y, hy, h3, _⟩ := anc_dir h.toRis (hp.mem_iff.1 he) h1
    exact h2 y (hp.mem_iff.2 hy) h3
  unfold mkP
  rw [hm, if_neg (show ¬ (true = false) by simp), if_neg (fun h => h hn), hw, if_neg (show ¬ (false = true) by simp), hl, List.length_nil, hp.length_eq, if_neg (by have := h.many; omega), szP_perm hp, if_neg (by have := h.big; omega), List.map_nil, List.append_nil]
  rw [← sortE_uniq h.up hn (fun e => hp.mem_iff.symm)]
theorem swap_perm {l : List Ent} {i k : Nat} (hi : i < l.length) (hk : k < l.length) : ((l.set i (l.getD k zE)).set k (l.getD i zE)).Perm l := by
  have e1 : l.getD k zE = l[k] := by simp [List.getD_eq_getElem?_getD, hk]
  have e2 : l.getD i zE = l[i] := by simp [List.getD_eq_getElem?_getD, hi]
  rw [e1, e2]
  exact List.set_set_perm hi hk

/-- entries in block g that may be written -/
structure Shf (w : World) (g : Nat) (l : List Ent) : Prop where
  ats : ∀ j, j < l.length → EntAt w g (j * 3) (l.getD j zE)
  th : ∀ j, j < l.length → w.there g (j * 3) 3
  lt : g < w.heap.size
theorem OwnE.shf {w : World} {base : Nat} {v : Value} {es : List Ent} (h : OwnE w base v es) : (v = .slice none 0 0 ∧ es = []) ∨ ∃ g cap, v = .slice (some ⟨g, 0, none⟩) es.length cap ∧ base ≤ g ∧ es.length ≤ cap ∧ Shf w g es := by
  rcases h.forms with h | ⟨g, cap, hv, h1, h2, h3, h4, h5, h6⟩
  · exact Or.inl h
  · refine Or.inr ⟨g, cap, hv, h1, h3, h6, fun j hj i hi => ⟨?_, h5 _⟩, h2⟩
    obtain ⟨c0, c1, c2⟩ := h6 j hj
    have : i = 0 ∨ i = 1 ∨ i = 2 := by omega
    rcases this with rfl | rfl | rfl
    · rw [Nat.add_zero, c0]; rfl
    · rw [c1]; rfl
    · rw [c2]; rfl
theorem Shf.ents {w : World} {g : Nat} {l : List Ent} (h : Shf w g l) (c : Nat) (hc : l.length ≤ c) : Ents w (.slice (some ⟨g, 0, none⟩) l.length c) l :=
  Or.inr ⟨g, 0, c, rfl, h.lt, hc, fun j hj => by rw [Nat.zero_add]; exact h.ats j hj⟩
theorem below_cells {B g : Nat} {a : World} (hg : B ≤ g) : ∀ (vs : List Value) (o : Nat) (w : World), Below B a w → Below B a (w.setCells g o vs)
  | [], _, _, h => h
  | v :: vs, o, _, h => below_cells hg vs (o + 1) _ (h.setCell (p := ⟨g, o, none⟩) hg v)
theorem size_cells (g : Nat) : ∀ (vs : List Value) (o : Nat) (w : World), w.heap.size ≤ (w.setCells g o vs).heap.size
  | vs, o, w => (below_cells (B := 0) (Nat.zero_le _) vs o w (Below.refl _ _)).size
theorem Shf.set {w : World} {g : Nat} {l : List Ent} (h : Shf w g l) {i : Nat} (hi : i < l.length) (e : Ent) : Shf (w.setCells g (i * 3) (entV e)) g (l.set i e) := by
  have hl : (entV e).length = 3 := rfl
  refine ⟨fun j hj => ?_, fun j hj => World.there_setCells (h.th j (by simpa using hj)) _ _ _, Nat.lt_of_lt_of_le h.lt (size_cells _ _ _ _)⟩
  rw [List.length_set] at hj
  by_cases hji : j = i
  · subst hji
    have hs := World.cell?_setCells_in g (entV e) (j * 3) w (fun k hk => (h.th j hj k (by rw [hl] at hk; exact hk)).1)
    have e1 : (l.set j e).getD j zE = e := by simp [List.getD_eq_getElem?_getD, hj]
    rw [e1]
    exact ⟨by simpa [entV] using hs 0 (by rw [hl]; omega), by simpa [entV] using hs 1 (by rw [hl]; omega), by simpa [entV] using hs 2 (by rw [hl]; omega)⟩
  · have e1 : (l.set i e).getD j zE = l.getD j zE := by
      rw [List.getD_eq_getElem?_getD, List.getD_eq_getElem?_getD, List.getElem?_set_ne (fun e => hji e.symm)]
    rw [e1]
    obtain ⟨c0, c1, c2⟩ := h.ats j hj
    exact ⟨(World.cell?_setCells_out g _ _ w ⟨g, _, none⟩ (fun _ _ => by show j * 3 < i * 3 ∨ i * 3 + 3 ≤ j * 3; omega)).trans c0,
      (World.cell?_setCells_out g _ _ w ⟨g, _, none⟩ (fun _ _ => by show j * 3 + 1 < i * 3 ∨ i * 3 + 3 ≤ j * 3 + 1; omega)).trans c1,
      (World.cell?_setCells_out g _ _ w ⟨g, _, none⟩ (fun _ _ => by show j * 3 + 2 < i * 3 ∨ i * 3 + 3 ≤ j * 3 + 2; omega)).trans c2⟩
theorem Shf.range {w : World} {g : Nat} {l : List Ent} (h : Shf w g l) (j : Nat) (hj : j < l.length) (e : Ent) (he : l.getD j zE = e) : w.rangeAt g (j * 3) (entV e) := by
  obtain ⟨c0, c1, c2⟩ := h.ats j hj
  rw [he] at c0 c1 c2
  intro i v hv
  match i, hv with
  | 0, hv => simp [entV] at hv; rw [← hv]; exact c0
  | 1, hv => simp [entV] at hv; rw [← hv]; exact c1
  | 2, hv => simp [entV] at hv; rw [← hv]; exact c2
  | n + 3, hv => simp [entV] at hv
theorem Shf.below {w w' : World} {g : Nat} {l : List Ent} (h : Shf w g l) (hb : Below w.heap.size w w') : Shf w' g l :=
  ⟨fun j hj => (h.ats j hj).below h.lt hb, fun j hj i hi => ⟨by rw [hb.cell (p := ⟨g, j * 3 + i, none⟩) h.lt]; exact (h.th j hj i hi).1, by rw [hb.frozen (p := ⟨g, j * 3 + i, none⟩) h.lt]; exact (h.th j hj i hi).2⟩, Nat.lt_of_lt_of_le h.lt hb.size⟩

/-- v is a slice of these numbers -/
def Ints (w : World) (v : Value) (ks : List Int) : Prop := ∃ ao c, v = .slice ao ks.length c ∧ ∀ j, j < ks.length → ∃ g o, ao = some ⟨g, o, none⟩ ∧ g < w.heap.size ∧ w.cell? ⟨g, o + j, none⟩ = some (.int .i64 (ks.getD j 0))
theorem Ints.below {w w' : World} {v : Value} {ks : List Int} (h : Ints w v ks) (hb : Below w.heap.size w w') : Ints w' v ks := by
  obtain ⟨ao, c, e, h⟩ := h
  refine ⟨ao, c, e, fun j hj => ?_⟩
  obtain ⟨g, o, h1, h2, h3⟩ := h j hj
  exact ⟨g, o, h1, Nat.lt_of_lt_of_le h2 hb.size, (hb.cell (p := ⟨g, o + j, none⟩) h2).trans h3⟩

section

variable {H : Type} {enc : TypeId × Value → H} {W : World} {spare : Nat → Bool} {held : Bool}

end

end Go.Proofs.YteijkbanlpodpaaGreatDoor

/- Entries and numbers out of their reading, in the full form. -/
namespace Go.Proofs.YteijkbanlpodpaaGreatDoor
open Go.ChangeShapes Go.WideShapes Go.ChangeAt Go.RowKit

theorem own : ownKnob Tryz.prog.godebug = none := by kernel_rfl
theorem laidOut : laidOutB Tryz.prog = true := by kernel_rfl
theorem bytesEnt : Tryz.prog.bytesOf 25 = 40 := by kernel_rfl
theorem bytesInt : Tryz.prog.bytesOf 3 = 8 := by kernel_rfl
theorem weightsAll_mem {H : Type} {P : Program} {e : TypeId} : ∀ {l : List (DataW H)} {d : DataW H}, d ∈ l → ∀ n ∈ d.weights P e, n ∈ DataW.weightsAll P e l
  | d' :: r, d, hd, n, hn => by
    simp only [DataW.weightsAll, List.mem_append]
    rcases List.mem_cons.1 hd with rfl | h
    · exact Or.inl hn
    · exact Or.inr (weightsAll_mem h n hn)

section

variable {H : Type} {enc : TypeId × Value → H} {W : World} {spare : Nat → Bool} {held : Bool}

theorem sized_at {ts : List TypeId} {ds : List (DataW H)} (h : ((DataW.weightsEach Tryz.prog ts ds).all fun x => decide (x ≤ reachBytes)) = true) {j : Nat} {t : TypeId} {d : DataW H} (ht : ts[j]? = some t) (hd : ds[j]? = some d) : ∀ x ∈ d.weights Tryz.prog t, x ≤ reachBytes :=
  fun x hx => of_decide_eq_true (List.all_eq_true.1 h _ (DataW.weights_mem_each ht hd x hx))

/-- one entry -/
theorem ent_w {fuel : Nat} {cs : List Value} {x : DataW H × List MemPlace} (h : DataW.trod enc Tryz.prog W 0 spare held fuel 25 cs = some x) (hk : ∀ n ∈ x.1.weights Tryz.prog 25, n ≤ reachBytes) :
    ∃ e : Ent, cs = entV e ∧ e.1.length ≤ reachBytes ∧ e.2.2.length ≤ reachBytes := by
  obtain ⟨y0, y1, y2, n, hx, hl, t0, t1, t2⟩ := Go.Deep.trod_struct3 Tryz.underlying25 h
  rw [cellsEnt] at hl
  obtain ⟨a, b, c, rfl⟩ := three_of hl
  simp only [cellsStr, cellsInt] at t0 t1 t2
  obtain ⟨s0, e0, f0, _⟩ := DataW.trod_string Tryz.underlying9 t0
  obtain ⟨K, e1, f1⟩ := DataW.trod_int Tryz.underlying3 t1
  obtain ⟨s2, e2, f2, _⟩ := DataW.trod_string Tryz.underlying9 t2
  simp at e0 e1 e2
  subst e0 e1 e2
  rw [hx, f0, f2] at hk
  refine ⟨(bl s0, K, bl s2), by unfold entV; rw [mk_bl, mk_bl], ?_, ?_⟩
  · refine hk _ ?_
    simp [DataW.weights, DataW.weightsEach, Tryz.underlying25, bl_eq]
  · refine hk _ ?_
    simp [DataW.weights, DataW.weightsEach, Tryz.underlying25, bl_eq]

set_option maxRecDepth 100000 in
theorem ents_w {ao : Option Addr} {n c : Nat} {d : DataW H} {pl : List MemPlace} (h : DataW.Trod enc Tryz.prog W 0 spare held 22 (.slice ao n c) d pl) (hk : ∀ x ∈ d.weights Tryz.prog 22, x ≤ reachBytes) :
    ∃ es : List Ent, Ents W (.slice ao n c) es ∧ Short es ∧ es.length ≤ 140737488355327 := by
  have hr : reachBytes < 2 ^ 47 := reachBytes_lt
  obtain ⟨fuel, hf⟩ := h
  rcases Go.Deep.open_slice Tryz.underlying22 hf with ⟨hcs, _⟩ | ⟨a, len, cap, m, n', D, Pl, hcs, _, hl, hm, hmm, hx, hel⟩
  · simp [Value.cells] at hcs
    obtain ⟨rfl, rfl, rfl⟩ := hcs
    exact ⟨[], Or.inl ⟨_, _, rfl, rfl, fun _ => rfl⟩, fun e h => (by cases h), by simp⟩
  · simp [Value.cells] at hcs
    obtain ⟨rfl, rfl, rfl⟩ := hcs
    have hlm : n ≤ m := by rw [hmm]; split <;> omega
    rw [cellsEnt] at hel
    simp only [Prod.mk.injEq] at hx
    obtain ⟨rfl, _⟩ := hx
    have hn : n ≤ 140737488355327 := by
      have := hk (((List.range n).map D).length * Tryz.prog.bytesOf 25 + ((List.range (m - n)).map fun j => D (n + j)).length * Tryz.prog.bytesOf 25) (by simp [DataW.weights, Tryz.underlying22, Nat.add_mul])
      rw [bytesEnt] at this
      simp at this
      omega
    have hw : ∀ i, i < n → ∀ x ∈ (D i).weights Tryz.prog 25, x ≤ reachBytes := fun i hi x hxm => hk x (by
      simp only [DataW.weights, Tryz.underlying22, List.mem_cons, List.mem_append]
      exact Or.inr (Or.inl (weightsAll_mem (List.mem_map.2 ⟨i, List.mem_range.2 hi, rfl⟩) x hxm)))
    obtain ⟨es, hes, hp⟩ := list_of (P := fun i (e : Ent) => W.cell? (a.add (i * 3)) = some (.string (mk e.1)) ∧ W.cell? ((a.add (i * 3)).add 1) = some (.int .i64 e.2.1) ∧ W.cell? ((a.add (i * 3)).add 2) = some (.string (mk e.2.2)) ∧ e.1.length ≤ reachBytes ∧ e.2.2.length ≤ reachBytes) (n := n) (by
      intro i hi
      obtain ⟨cs', hc, ht⟩ := hel i (by omega)
      obtain ⟨e, rfl, hb⟩ := ent_w ht (hw i hi)
      have hh := World.cells?_some hc
      exact ⟨e, by simpa [Addr.add, entV] using hh.2.2 0 (by omega), by simpa [entV] using hh.2.2 1 (by omega), by simpa [entV] using hh.2.2 2 (by omega), hb⟩)
    refine ⟨es, ?_, ?_, by omega⟩
    · rcases Nat.eq_zero_or_pos n with rfl | hpos
      · exact Or.inl ⟨_, _, rfl, List.length_eq_zero_iff.1 hes, fun e => by cases e⟩
      · have hg : ∀ j, j < n → es[j]? = some (es.getD j zE) := fun j hj => by rw [List.getD_eq_getElem?_getD, List.getElem?_eq_getElem (show j < es.length by omega)]; rfl
        have h0 := (hp 0 _ (hg 0 hpos)).1
        have ha : a = ⟨a.block, a.off, none⟩ := addr_plain (v := .string (mk (es.getD 0 zE).1)) (by simpa [Addr.add] using h0)
        have hlt : a.block < W.heap.size := World.block_lt_of_cell? W a (u := .string (mk (es.getD 0 zE).1)) (by simpa [Addr.add] using h0)
        generalize a.block = g at ha hlt
        generalize a.off = o at ha
        subst ha
        refine Or.inr ⟨g, o, c, by rw [hes], hlt, by rw [hes]; exact hl, fun j hj => ?_⟩
        obtain ⟨c0, c1, c2, _⟩ := hp j _ (hg j (by omega))
        simp only [add_plain] at c0 c1 c2
        exact ⟨c0, c1, c2⟩
    · intro e he
      obtain ⟨j, hj, rfl⟩ := List.mem_iff_getElem.1 he
      have h1 := (hp j _ (List.getElem?_eq_getElem hj)).2.2.2
      omega


end

end Go.Proofs.YteijkbanlpodpaaGreatDoor

/- Changes between two trees, plainly. -/
namespace Go.Proofs.YteijkbanlpodpaaGreatDoor

/-- a change: where, what stood, what stands -/
abbrev Chg := List UInt8 × Ent × Ent
/-- the changes that lead from the one to the other, of rising entries -/
def difP : List Ent → List Ent → List Chg
  | [], [] => []
  | x :: a, [] => (x.1, x, zE) :: difP a []
  | [], y :: b => (y.1, zE, y) :: difP [] b
  | x :: a, y :: b =>
    if cmpL (nms x.1) (nms y.1) < 0 then (x.1, x, zE) :: difP a (y :: b)
    else if cmpL (nms x.1) (nms y.1) = 0 then (if x = y then [] else [(x.1, x, y)]) ++ difP a b
    else (y.1, zE, y) :: difP (x :: a) b
/-- what two trees have at the first path of both -/
def firP (a b : List Ent) : Chg := match a, b with
  | [], [] => ([], zE, zE)
  | x :: _, [] => (x.1, x, zE)
  | [], y :: _ => (y.1, zE, y)
  | x :: _, y :: _ => if cmpL (nms x.1) (nms y.1) < 0 then (x.1, x, zE) else if cmpL (nms x.1) (nms y.1) = 0 then (y.1, x, y) else (y.1, zE, y)
theorem may_kind {e : Ent} (h : mayP e = true) : e.2.1 ≠ 0 := by
  unfold mayP at h
  simp only [Bool.and_eq_true, decide_eq_true_iff] at h
  omega
theorem may_zero {e : Ent} (h : mayP e = true) : e ≠ zE := fun he => may_kind h (by rw [he]; rfl)
/-- one turn of the program's loop -/
theorem difP_step {a b : List Ent} (ha : ∀ e ∈ a, mayP e = true) (hb : ∀ e ∈ b, mayP e = true) (h : a ≠ [] ∨ b ≠ []) :
    difP a b = (if (firP a b).2.1 = (firP a b).2.2 then [] else [firP a b]) ++ difP (if (firP a b).2.1.2.1 = 0 then a else a.drop 1) (if (firP a b).2.2.2.1 = 0 then b else b.drop 1) := by
  match a, b with
  | [], [] => exact absurd rfl (h.elim id id)
  | x :: a, [] =>
    have hx := ha x (by simp)
    have e1 : firP (x :: a) [] = (x.1, x, zE) := rfl
    rw [e1, if_neg (may_zero hx), if_neg (may_kind hx), if_pos (show zE.2.1 = 0 from rfl), difP]
    rfl
  | [], y :: b =>
    have hy := hb y (by simp)
    have e1 : firP [] (y :: b) = (y.1, zE, y) := rfl
    rw [e1, if_neg (fun e => may_zero hy e.symm), if_pos (show zE.2.1 = 0 from rfl), if_neg (may_kind hy), difP]
    rfl
  | x :: a, y :: b =>
    have hx := ha x (by simp)
    have hy := hb y (by simp)
    rw [difP]
    by_cases h1 : cmpL (nms x.1) (nms y.1) < 0
    · have e1 : firP (x :: a) (y :: b) = (x.1, x, zE) := by unfold firP; dsimp only; rw [if_pos h1]
      rw [if_pos h1, e1, if_neg (may_zero hx), if_neg (may_kind hx), if_pos (show zE.2.1 = 0 from rfl)]
      rfl
    · by_cases h2 : cmpL (nms x.1) (nms y.1) = 0
      · have e1 : firP (x :: a) (y :: b) = (y.1, x, y) := by unfold firP; dsimp only; rw [if_neg h1, if_pos h2]
        have e2 : x.1 = y.1 := nms_inj (cmpL_zero h2)
        rw [if_neg h1, if_pos h2, e1, if_neg (may_kind hx), if_neg (may_kind hy), e2]
        rfl
      · have e1 : firP (x :: a) (y :: b) = (y.1, zE, y) := by unfold firP; dsimp only; rw [if_neg h1, if_neg h2]
        rw [if_neg h1, if_neg h2, e1, if_neg (fun e => may_zero hy e.symm), if_pos (show zE.2.1 = 0 from rfl), if_neg (may_kind hy)]
        rfl
theorem difP_len : ∀ (n : Nat) (a b : List Ent), a.length + b.length ≤ n → (difP a b).length ≤ a.length + b.length
  | 0, a, b, h => by
    obtain rfl : a = [] := List.length_eq_zero_iff.1 (by omega)
    obtain rfl : b = [] := List.length_eq_zero_iff.1 (by simpa using h)
    rw [difP]
    simp
  | n + 1, [], [], _ => by rw [difP]; simp
  | n + 1, x :: a, [], h => by
    have := difP_len n a [] (by simp at h ⊢; omega)
    rw [difP]
    simp at this ⊢
    omega
  | n + 1, [], y :: b, h => by
    have := difP_len n [] b (by simp at h ⊢; omega)
    rw [difP]
    simp at this ⊢
    omega
  | n + 1, x :: a, y :: b, h => by
    have h1 := difP_len n a (y :: b) (by simp at h ⊢; omega)
    have h2 := difP_len n a b (by simp at h ⊢; omega)
    have h3 := difP_len n (x :: a) b (by simp at h ⊢; omega)
    rw [difP]
    split
    · simp at h1 ⊢; omega
    · split
      · rw [List.length_append]
        split
        · simp at h2 ⊢; omega
        · simp at h2 ⊢; omega
      · simp at h3 ⊢; omega

end Go.Proofs.YteijkbanlpodpaaGreatDoor

/- Where a path stands, and changes applied, plainly: the changes between two trees lead from the one to the other. -/
namespace Go.Proofs.YteijkbanlpodpaaGreatDoor

/-- where a path stands in a rising row, or would -/
def plP (t : List Ent) (p : List UInt8) : Nat := (t.takeWhile (fun e => decide (cmpL (nms e.1) (nms p) < 0))).length
def thP (t : List Ent) (p : List UInt8) : Bool := (fdP t p).isSome
/-- what stands at a path; the zero entry, if nothing does -/
def stP (t : List Ent) (p : List UInt8) : Ent := (fdP t p).getD zE
structure Plc (t : List Ent) (p : List UInt8) (i : Nat) : Prop where
  le : i ≤ t.length
  lo : ∀ j, j < i → cmpL (nms (t.getD j zE).1) (nms p) < 0
  hi : ∀ j, i ≤ j → j < t.length → ¬ cmpL (nms (t.getD j zE).1) (nms p) < 0
theorem plP_lt {x : Ent} {t : List Ent} {p : List UInt8} (h : cmpL (nms x.1) (nms p) < 0) : plP (x :: t) p = plP t p + 1 := by
  unfold plP
  rw [List.takeWhile_cons, if_pos (by simpa using h)]
  rfl
theorem plP_ge {x : Ent} {t : List Ent} {p : List UInt8} (h : ¬ cmpL (nms x.1) (nms p) < 0) : plP (x :: t) p = 0 := by
  unfold plP
  rw [List.takeWhile_cons, if_neg (by simpa using h)]
  rfl
theorem Plc.eq : ∀ {t : List Ent} {p : List UInt8} {i : Nat}, Plc t p i → i = plP t p
  | [], p, i, h => by have := h.le; simp at this; subst this; rfl
  | x :: t, p, i, h => by
    by_cases hx : cmpL (nms x.1) (nms p) < 0
    · rw [plP_lt hx]
      cases i with
      | zero => exact absurd hx (h.hi 0 (Nat.le_refl _) (by simp))
      | succ i =>
        have : Plc t p i := ⟨by have := h.le; simpa using this, fun j hj => by have := h.lo (j + 1) (by omega); simpa using this, fun j h1 h2 => by have := h.hi (j + 1) (by omega) (by simpa using h2); simpa using this⟩
        rw [← this.eq]
    · rw [plP_ge hx]
      cases i with
      | zero => rfl
      | succ i => exact absurd (h.lo 0 (by omega)) hx
theorem plP_le (t : List Ent) (p : List UInt8) : plP t p ≤ t.length := by
  unfold plP
  exact (List.takeWhile_sublist _).length_le
theorem fdP_cons_ne {x : Ent} {t : List Ent} {p : List UInt8} (h : x.1 ≠ p) : fdP (x :: t) p = fdP t p := by
  unfold fdP
  rw [List.find?_cons, decide_eq_false h]
theorem fdP_cons_eq {x : Ent} {t : List Ent} : fdP (x :: t) x.1 = some x := by
  unfold fdP
  rw [List.find?_cons, decide_eq_true rfl]
theorem cmp_ne {a b : List UInt8} (h : cmpL (nms a) (nms b) < 0) : a ≠ b := fun e => by rw [e, cmpL_self] at h; omega
/-- the place that was found: whether the path stands there -/
theorem Plc.there {t : List Ent} {p : List UInt8} {i : Nat} (_ : Plc t p i) (ht : t.Pairwise ltE) (hi : i < t.length) (h0 : cmpL (nms (t.getD i zE).1) (nms p) = 0) : fdP t p = some (t.getD i zE) := by
  have := fdP_mem ht (getD_mem hi)
  rw [nms_inj (cmpL_zero h0)] at this
  exact this
theorem Plc.lacks {t : List Ent} {p : List UInt8} {i : Nat} (h : Plc t p i) (ht : t.Pairwise ltE) (h0 : i < t.length → cmpL (nms (t.getD i zE).1) (nms p) ≠ 0) : fdP t p = none := by
  rw [fdP_none]
  intro e he hp
  obtain ⟨k, hk, rfl⟩ := List.getElem_of_mem he
  have hg : t.getD k zE = t[k] := by simp [List.getD_eq_getElem?_getD, hk]
  rcases Nat.lt_or_ge k i with h1 | h1
  · exact cmp_ne (h.lo k h1) (by rw [hg]; exact hp)
  · rcases Nat.lt_or_ge i k with h2 | h2
    · have h3 := pair_at ht h2 hk
      unfold ltE at h3
      rw [hg, hp] at h3
      exact h.hi i (Nat.le_refl _) (by omega) h3
    · obtain rfl : k = i := by omega
      exact h0 hk (by rw [hg, hp, cmpL_self])

/-- changes that are made -/
def chgd : List Ent → List Chg → List Ent
  | t, [] => t
  | t, c :: l => t.take (plP t c.1) ++ ((if c.2.2.2.1 = 0 then [] else [c.2.2]) ++ chgd (t.drop (plP t c.1 + (if thP t c.1 then 1 else 0))) l)
/-- may one side of a change be? -/
def sidP (e : Ent) (p : List UInt8) : Bool := decide (e = zE) || (decide (e.1 = p) && mayP e)
def okC (c : Chg) : Bool := !(decide (c.2.1 = zE) && decide (c.2.2 = zE)) && sidP c.2.1 c.1 && sidP c.2.2 c.1
/-- may changes be, behind a path? -/
def mayC : List UInt8 → List Chg → Bool
  | _, [] => true
  | last, c :: l => okC c && decide (cmpL (nms last) (nms c.1) < 0) && mayC c.1 l
/-- what Apply answers -/
def apP (t : List Ent) (l : List Chg) : Except Int (List Ent) :=
  if (chkP t).2 ≠ 0 then .error (chkP t).2 else if mayC [] l = false then .error 1 else if l.any (fun c => decide (stP t c.1 ≠ c.2.1)) = true then .error 8
  else if (chkP (chgd t l)).2 ≠ 0 then .error (chkP (chgd t l)).2 else .ok (chgd t l)
theorem dif_mem : ∀ (n : Nat) (a b : List Ent), a.length + b.length ≤ n → ∀ c ∈ difP a b, ∃ e ∈ a ++ b, c.1 = e.1
  | n, [], [], _, c, hc => by rw [difP] at hc; simp at hc
  | 0, x :: a, b, h, _, _ => by simp at h
  | 0, [], y :: b, h, _, _ => by simp at h
  | n + 1, x :: a, [], h, c, hc => by
    rw [difP, List.mem_cons] at hc
    rcases hc with rfl | hc
    · exact ⟨x, by simp, rfl⟩
    · obtain ⟨e, he, h1⟩ := dif_mem n a [] (by simp at h ⊢; omega) c hc
      exact ⟨e, by simp at he ⊢; exact Or.inr he, h1⟩
  | n + 1, [], y :: b, h, c, hc => by
    rw [difP, List.mem_cons] at hc
    rcases hc with rfl | hc
    · exact ⟨y, by simp, rfl⟩
    · obtain ⟨e, he, h1⟩ := dif_mem n [] b (by simp at h ⊢; omega) c hc
      exact ⟨e, by simp at he ⊢; exact Or.inr he, h1⟩
  | n + 1, x :: a, y :: b, h, c, hc => by
    rw [difP] at hc
    split at hc
    · rw [List.mem_cons] at hc
      rcases hc with rfl | hc
      · exact ⟨x, by simp, rfl⟩
      · obtain ⟨e, he, h1⟩ := dif_mem n a (y :: b) (by simp at h ⊢; omega) c hc
        exact ⟨e, by rw [List.cons_append]; exact List.mem_cons_of_mem _ he, h1⟩
    · split at hc
      · rw [List.mem_append] at hc
        rcases hc with hc | hc
        · split at hc
          · simp at hc
          · rw [List.mem_singleton] at hc
            subst hc
            exact ⟨x, by simp, rfl⟩
        · obtain ⟨e, he, h1⟩ := dif_mem n a b (by simp at h ⊢; omega) c hc
          refine ⟨e, ?_, h1⟩
          rw [List.mem_append] at he ⊢
          exact he.imp (List.mem_cons_of_mem _) (List.mem_cons_of_mem _)
      · rw [List.mem_cons] at hc
        rcases hc with rfl | hc
        · exact ⟨y, by simp, rfl⟩
        · obtain ⟨e, he, h1⟩ := dif_mem n (x :: a) b (by simp at h ⊢; omega) c hc
          refine ⟨e, ?_, h1⟩
          rw [List.mem_append] at he ⊢
          exact he.imp id (List.mem_cons_of_mem _)
/-- all changes lie behind what lies ahead of both -/
theorem dif_behind {a b : List Ent} {p : List UInt8} (ha : ∀ e ∈ a, cmpL (nms p) (nms e.1) < 0) (hb : ∀ e ∈ b, cmpL (nms p) (nms e.1) < 0) : ∀ c ∈ difP a b, cmpL (nms p) (nms c.1) < 0 := by
  intro c hc
  obtain ⟨e, he, h1⟩ := dif_mem _ a b (Nat.le_refl _) c hc
  rw [h1]
  rw [List.mem_append] at he
  exact he.elim (ha e) (hb e)
theorem chgd_skip {x : Ent} {t : List Ent} {l : List Chg} (h : ∀ c ∈ l, cmpL (nms x.1) (nms c.1) < 0) : chgd (x :: t) l = x :: chgd t l := by
  cases l with
  | nil => rfl
  | cons c l =>
    have hc := h c (by simp)
    have e1 : thP (x :: t) c.1 = thP t c.1 := by unfold thP; rw [fdP_cons_ne (cmp_ne hc)]
    rw [chgd, chgd, plP_lt hc, e1, List.take_succ_cons, show plP t c.1 + 1 + (if thP t c.1 = true then 1 else 0) = (plP t c.1 + (if thP t c.1 = true then 1 else 0)) + 1 by omega, List.drop_succ_cons]
    rfl
theorem stP_skip {x : Ent} {t : List Ent} {p : List UInt8} (h : cmpL (nms x.1) (nms p) < 0) : stP (x :: t) p = stP t p := by
  unfold stP
  rw [fdP_cons_ne (cmp_ne h)]
theorem stP_none {t : List Ent} {p : List UInt8} (h : ∀ e ∈ t, cmpL (nms p) (nms e.1) < 0) : fdP t p = none := by
  rw [fdP_none]
  exact fun e he hp => cmp_ne (h e he) hp.symm
theorem pairL {x : Ent} {t : List Ent} (h : (x :: t).Pairwise ltE) : (∀ e ∈ t, cmpL (nms x.1) (nms e.1) < 0) ∧ t.Pairwise ltE := by
  rw [List.pairwise_cons] at h
  exact ⟨fun e he => h.1 e he, h.2⟩
/-- what Diff tells leads from the one to the other, and fits what stands -/
theorem dif_leads : ∀ (n : Nat) (a b : List Ent), a.length + b.length ≤ n → a.Pairwise ltE → b.Pairwise ltE → (∀ e ∈ a, mayP e = true) → (∀ e ∈ b, mayP e = true) →
    chgd a (difP a b) = b ∧ (∀ c ∈ difP a b, stP a c.1 = c.2.1) ∧ ∀ p, (∀ e ∈ a, cmpL (nms p) (nms e.1) < 0) → (∀ e ∈ b, cmpL (nms p) (nms e.1) < 0) → mayC p (difP a b) = true
  | n, [], [], _, _, _, _, _ => by
    rw [difP]
    exact ⟨rfl, fun c hc => by simp at hc, fun _ _ _ => rfl⟩
  | 0, x :: a, b, h, _, _, _, _ => by simp at h
  | 0, [], y :: b, h, _, _, _, _ => by simp at h
  | n + 1, x :: a, [], h, pa, pb, ma, mb => by
    obtain ⟨i1, i2, i3⟩ := dif_leads n a [] (by simp at h ⊢; omega) (pairL pa).2 pb (fun e he => ma e (by simp [he])) mb
    have hx := ma x (by simp)
    rw [difP]
    refine ⟨?_, ?_, ?_⟩
    · have e1 : thP (x :: a) x.1 = true := by unfold thP; rw [fdP_cons_eq]; rfl
      rw [chgd]
      dsimp only
      rw [plP_ge (by rw [cmpL_self]; omega), e1, if_pos (show zE.2.1 = 0 from rfl), if_pos rfl]
      exact i1
    · intro c hc
      rw [List.mem_cons] at hc
      rcases hc with rfl | hc
      · unfold stP
        rw [fdP_cons_eq]
        rfl
      · rw [stP_skip (dif_behind (pairL pa).1 (fun e he => by simp at he) c hc)]
        exact i2 c hc
    · intro p h1 _
      have e1 : okC (x.1, x, zE) = true := by unfold okC sidP; simp [hx, may_zero hx]
      rw [mayC, e1, i3 x.1 (pairL pa).1 (fun e he => by simp at he), decide_eq_true (h1 x (by simp))]
      rfl
  | n + 1, [], y :: b, h, pa, pb, ma, mb => by
    obtain ⟨i1, i2, i3⟩ := dif_leads n [] b (by simp at h ⊢; omega) pa (pairL pb).2 ma (fun e he => mb e (by simp [he]))
    have hy := mb y (by simp)
    rw [difP]
    refine ⟨?_, ?_, ?_⟩
    · rw [chgd]
      dsimp only
      rw [if_neg (may_kind hy)]
      simp only [List.take_nil, List.drop_nil, List.nil_append]
      rw [i1]
      rfl
    · intro c hc
      rw [List.mem_cons] at hc
      rcases hc with rfl | hc
      · rfl
      · exact i2 c hc
    · intro p _ h2
      have e1 : okC (y.1, zE, y) = true := by unfold okC sidP; simp [hy, may_zero hy]
      rw [mayC, e1, i3 y.1 (fun e he => by simp at he) (pairL pb).1, decide_eq_true (h2 y (by simp))]
      rfl
  | n + 1, x :: a, y :: b, h, pa, pb, ma, mb => by
    have hx := ma x (by simp)
    have hy := mb y (by simp)
    have ta : ∀ {p : List UInt8}, cmpL (nms p) (nms x.1) < 0 → ∀ e ∈ x :: a, cmpL (nms p) (nms e.1) < 0 := by
      intro p hp e he
      rw [List.mem_cons] at he
      rcases he with rfl | he
      · exact hp
      · exact cmpL_lt_trans hp ((pairL pa).1 e he)
    have tb : ∀ {p : List UInt8}, cmpL (nms p) (nms y.1) < 0 → ∀ e ∈ y :: b, cmpL (nms p) (nms e.1) < 0 := by
      intro p hp e he
      rw [List.mem_cons] at he
      rcases he with rfl | he
      · exact hp
      · exact cmpL_lt_trans hp ((pairL pb).1 e he)
    rw [difP]
    split
    · rename_i hlt
      obtain ⟨i1, i2, i3⟩ := dif_leads n a (y :: b) (by simp at h ⊢; omega) (pairL pa).2 pb (fun e he => ma e (by simp [he])) mb
      have hbh := dif_behind (pairL pa).1 (tb hlt)
      refine ⟨?_, ?_, ?_⟩
      · have e1 : thP (x :: a) x.1 = true := by unfold thP; rw [fdP_cons_eq]; rfl
        rw [chgd]
        dsimp only
        rw [plP_ge (by rw [cmpL_self]; omega), e1, if_pos (show zE.2.1 = 0 from rfl), if_pos rfl]
        exact i1
      · intro c hc
        rw [List.mem_cons] at hc
        rcases hc with rfl | hc
        · unfold stP
          rw [fdP_cons_eq]
          rfl
        · rw [stP_skip (hbh c hc)]
          exact i2 c hc
      · intro p h1 _
        have e1 : okC (x.1, x, zE) = true := by unfold okC sidP; simp [hx, may_zero hx]
        rw [mayC, e1, i3 x.1 (pairL pa).1 (tb hlt), decide_eq_true (h1 x (by simp))]
        rfl
    · rename_i hlt
      split
      · rename_i heq
        have hp : x.1 = y.1 := nms_inj (cmpL_zero heq)
        obtain ⟨i1, i2, i3⟩ := dif_leads n a b (by simp at h ⊢; omega) (pairL pa).2 (pairL pb).2 (fun e he => ma e (by simp [he])) (fun e he => mb e (by simp [he]))
        have hbh := dif_behind (pairL pa).1 (fun e he => by rw [hp]; exact (pairL pb).1 e he)
        by_cases hxy : x = y
        · subst hxy
          rw [if_pos rfl, List.nil_append]
          refine ⟨by rw [chgd_skip hbh, i1], fun c hc => by rw [stP_skip (hbh c hc)]; exact i2 c hc, fun p h1 h2 => i3 p (fun e he => h1 e (by simp [he])) (fun e he => h2 e (by simp [he]))⟩
        · rw [if_neg hxy, List.singleton_append]
          refine ⟨?_, ?_, ?_⟩
          · have e1 : thP (x :: a) x.1 = true := by unfold thP; rw [fdP_cons_eq]; rfl
            rw [chgd]
            dsimp only
            rw [plP_ge (by rw [cmpL_self]; omega), e1, if_neg (may_kind hy), if_pos rfl]
            simp only [List.take_zero, List.nil_append, Nat.zero_add, List.drop_succ_cons, List.drop_zero, List.singleton_append]
            rw [i1]
          · intro c hc
            rw [List.mem_cons] at hc
            rcases hc with rfl | hc
            · unfold stP
              rw [fdP_cons_eq]
              rfl
            · rw [stP_skip (hbh c hc)]
              exact i2 c hc
          · intro p h1 _
            have e1 : okC (x.1, x, y) = true := by unfold okC sidP; simp [hx, hy, may_zero hx, hp]
            rw [mayC, e1, i3 x.1 (pairL pa).1 (fun e he => by rw [hp]; exact (pairL pb).1 e he), decide_eq_true (h1 x (by simp))]
            rfl
      · rename_i hne
        have hgt : cmpL (nms y.1) (nms x.1) < 0 := by have := cmpL_anti (nms x.1) (nms y.1); omega
        obtain ⟨i1, i2, i3⟩ := dif_leads n (x :: a) b (by simp at h ⊢; omega) pa (pairL pb).2 ma (fun e he => mb e (by simp [he]))
        have hf : fdP (x :: a) y.1 = none := stP_none (ta hgt)
        refine ⟨?_, ?_, ?_⟩
        · have e1 : thP (x :: a) y.1 = false := by unfold thP; rw [hf]; rfl
          rw [chgd]
          dsimp only
          rw [plP_ge (by omega), e1, if_neg (may_kind hy)]
          simp only [List.take_zero, List.nil_append, Nat.zero_add, List.singleton_append, Bool.false_eq_true, if_false, List.drop_zero]
          rw [i1]
        · intro c hc
          rw [List.mem_cons] at hc
          rcases hc with rfl | hc
          · unfold stP
            rw [hf]
            rfl
          · exact i2 c hc
        · intro p _ h2
          have e1 : okC (y.1, zE, y) = true := by unfold okC sidP; simp [hy, may_zero hy]
          rw [mayC, e1, i3 y.1 (ta hgt) (pairL pb).1, decide_eq_true (h2 y (by simp))]
          rfl
theorem ahead_all {t : List Ent} (h : ∀ e ∈ t, mayP e = true) : ∀ e ∈ t, cmpL (nms []) (nms e.1) < 0 := by
  intro e he
  rw [nms_e, cmpL_nil (mayP_nms (h e he))]
  omega
theorem apP_dif {a b : List Ent} (ha : Rgt a) (hb : Rgt b) : apP a (difP a b) = .ok b := by
  obtain ⟨h1, h2, h3⟩ := dif_leads _ a b (Nat.le_refl _) ha.up hb.up ha.may hb.may
  unfold apP
  rw [h1, h3 [] (ahead_all ha.may) (ahead_all hb.may), if_neg (by simpa using rgt_iff.2 ha), if_neg (by simp), if_neg ?_, if_neg (by simpa using rgt_iff.2 hb)]
  rw [List.any_eq_true]
  rintro ⟨c, hc, hd⟩
  simp only [decide_eq_true_eq] at hd
  exact hd (h2 c hc)
/-- no changes just where both are one -/
theorem dif_none {a b : List Ent} (ha : Rgt a) (hb : Rgt b) : difP a b = [] ↔ a = b := by
  obtain ⟨h1, _, _⟩ := dif_leads _ a b (Nat.le_refl _) ha.up hb.up ha.may hb.may
  constructor
  · intro h
    rw [h] at h1
    exact h1
  · rintro rfl
    have : ∀ t : List Ent, difP t t = [] := by
      intro t
      induction t with
      | nil => rw [difP]
      | cons x t ih => rw [difP, cmpL_self, if_neg (by omega), if_pos rfl, if_pos rfl, ih]; rfl
    exact this a

end Go.Proofs.YteijkbanlpodpaaGreatDoor

/- What place compares by. -/
namespace Go.Proofs.YteijkbanlpodpaaGreatDoor
open Go.RowKit Go.BigFrame

set_option maxRecDepth 100000 in
set_option maxHeartbeats 1000000 in
theorem placeCmp_any (e : Ent) (p : List UInt8) (w : World) (he : e.1.length ≤ 9223372036854775807) (hp : p.length ≤ 9223372036854775807) :
    Calls Tryz.prog 50 #[entA e, .string (mk p)] w fun r w' => r = .returned (.int .i64 (cmP e.1 p)) ∧ Below w.heap.size w w' := by
  have HC := hid (compare_any (mk e.1) (mk p) · (by rw [bl_mk]; exact he) (by rw [bl_mk]; exact hp))
  simp only [bl_mk] at HC
  have HB := hid (below_walk w (.cells #[.string (mk e.1), .int .i64 e.2.1, .string (mk e.2.2)] 25))
  unfold entA
  generalize cmP e.1 p = C at *
  generalize pN e.1 p = D at *
  generalize mk e.1 = s1 at *
  generalize mk e.2.2 = s2 at *
  generalize mk p = s3 at *
  clear he hp
  go_enter Tryz.func50, Tryz.ntmps50
  go_wp2_with (go_at_call 51; refine (HC.out _).mono ?_; rintro r w1 ⟨rfl, hb1⟩; have HB1 := hid (below_then HB.out hb1); clear hb1)
  go_ret
  exact ⟨rfl, HB1.out⟩

theorem cmP_ok {a b : List UInt8} (ha : okP a = true) (hb : okP b = true) : cmP a b = cmpL (nms a) (nms b) := by unfold cmP; rw [if_pos ⟨ha, hb⟩]

end Go.Proofs.YteijkbanlpodpaaGreatDoor

/- Where a path stands: the program's place. -/
namespace Go.Proofs.YteijkbanlpodpaaGreatDoor
open Go.RowKit Go.BigFrame

set_option maxRecDepth 100000 in
set_option maxHeartbeats 2000000 in
theorem search_any (v : Value) (t : List Ent) (p : List UInt8) (w : World) (h : Ents w v t) (hup : t.Pairwise ltE) (hok : ∀ e ∈ t, okP e.1 = true) (hp : okP p = true) (hn : t.length ≤ 1024) :
    Calls Tryz.prog 49 #[v, .string (mk p), .func (.func 50) #[] #[]] w
      fun r w' => r = .returned (.tuple #[.int .i64 (plP t p), .bool (thP t p)]) ∧ Below w.heap.size w w' := by
  obtain ⟨ao, c, rfl⟩ := h.shape
  have H := hid h
  have HUP := hid hup
  have HOK := hid hok
  have HC := hid (fun (e : Ent) (he : e ∈ t) (W : World) => placeCmp_any e p W (by have := okP_short (hok e he); omega) (by have := okP_short hp; omega))
  have HP := hid hp
  clear h hup hok hp
  go_enter Tryz.func49, Tryz.ntmps49
  go_wp2
  go_loopw [9, 10] (fun x y wr => ∃ i j : Nat, x = .int .i64 i ∧ y = .int .i64 j ∧ i ≤ j ∧ j ≤ t.length ∧ (∀ k, k < i → cmpL (nms (t.getD k zE).1) (nms p) < 0) ∧ (∀ k, j ≤ k → k < t.length → ¬ cmpL (nms (t.getD k zE).1) (nms p) < 0) ∧ Below w.heap.size w wr) (fun x y _ => (intOf y).toNat - (intOf x).toNat)
  case atStart => exact ⟨0, t.length, rfl, rfl, Nat.zero_le _, Nat.le_refl _, fun k hk => by omega, fun k h1 h2 => by omega, Below.refl _ _⟩
  case round =>
    obtain ⟨i, j, rfl, rfl, hij, hjn, hlo, hhi, hb⟩ := hrel
    have HLO := hid hlo
    have HHI := hid hhi
    have HB := hid hb
    clear hlo hhi hb
    by_cases hlt : i < j
    · have q1 : (i : Int) < (j : Int) := by omega
      obtain ⟨m, HM⟩ : ∃ m : Nat, Hid (m = (i + j) / 2) := ⟨_, rfl⟩
      have hm1 : i ≤ m := by rw [HM.out]; omega
      have hm2 : m < j := by rw [HM.out]; omega
      have hm3 : m < t.length := by omega
      obtain ⟨g, o, rfl, hgl, hx⟩ := (H.out.below HB.out).at m hm3
      obtain ⟨x, HX⟩ : ∃ x, Hid (t.getD m zE = x) := ⟨_, rfl⟩
      rw [HX.out] at hx
      have hmem : x ∈ t := by rw [← HX.out]; exact getD_mem hm3
      have HCX := hid (fun W : World => HC.out x hmem W)
      have HCO := hid (cmP_ok (HOK.out x hmem) HP.out)
      have hw1 : IntKind.i64.wrap ((i : Int) + (j : Int)) = ((i + j : Nat) : Int) := by rw [IntKind.wrap_i64]; omega
      have hq : ((i : Int) + (j : Int)) / 2 = (m : Int) := by rw [HM.out]; omega
      have hw2 : IntKind.i64.wrap ((m : Int) + 1) = ((m + 1 : Nat) : Int) := by rw [IntKind.wrap_i64]; omega
      have q2 : (m : Int) < (t.length : Int) := by omega
      have HLO2 := hid (fun (h : cmpL (nms x.1) (nms p) < 0) k (hk : k < m + 1) => show cmpL (nms (t.getD k zE).1) (nms p) < 0 from by
        rcases Nat.lt_or_ge k m with h1 | h1
        · have h2 := pair_at HUP.out h1 hm3
          unfold ltE at h2
          rw [HX.out] at h2
          exact cmpL_lt_trans h2 h
        · obtain rfl : k = m := by omega
          rw [HX.out]
          exact h)
      have HHI2 := hid (fun (h : ¬ cmpL (nms x.1) (nms p) < 0) k (h1 : m ≤ k) (h2 : k < t.length) => show ¬ cmpL (nms (t.getD k zE).1) (nms p) < 0 from by
        intro h3
        rcases Nat.lt_or_ge m k with h4 | h4
        · have h5 := pair_at HUP.out h4 h2
          unfold ltE at h5
          rw [HX.out] at h5
          exact h (cmpL_lt_trans h5 h3)
        · obtain rfl : k = m := by omega
          rw [HX.out] at h3
          exact h h3)
      obtain ⟨x0, x1, x2⟩ := hx
      clear HC hmem
      unfold entA at HCX
      rw [← HCO.out] at HLO2 HHI2
      generalize cmP x.1 p = K at *
      by_cases hK : K < 0
      · have HLO3 := hid (HLO2.out hK)
        clear HLO2 HHI2
        go_wp2_with (go_at_call 50; refine (HCX.out _).mono ?_; rintro r w1 ⟨rfl, hb1⟩; have HB1 := hid (HB.out.trans (hb1.mono HB.out.size)); clear hb1)
        exact ⟨⟨m + 1, j, by simp, rfl, by omega, hjn, HLO3.out, (fun k a b => Int.not_lt.2 (by simpa using HHI.out k a b)), HB1.out⟩, by simp [intOf]; omega⟩
      · have HHI3 := hid (HHI2.out hK)
        clear HLO2 HHI2
        go_wp2_with (go_at_call 50; refine (HCX.out _).mono ?_; rintro r w1 ⟨rfl, hb1⟩; have HB1 := hid (HB.out.trans (hb1.mono HB.out.size)); clear hb1)
        exact ⟨⟨i, m, rfl, rfl, hm1, by omega, HLO.out, (fun k a b => Int.not_lt.2 (by simpa using HHI3.out k a b)), HB1.out⟩, by simp [intOf]; omega⟩
    · have q1 : ¬ (i : Int) < (j : Int) := by omega
      obtain rfl : i = j := by omega
      have HPL : Hid (Plc t p i) := ⟨hjn, HLO.out, HHI.out⟩
      have HPE := hid HPL.out.eq
      by_cases hin : i < t.length
      · have q3 : (i : Int) < (t.length : Int) := by omega
        obtain ⟨g, o, rfl, hgl, hx⟩ := (H.out.below HB.out).at i hin
        obtain ⟨x, HX⟩ : ∃ x, Hid (t.getD i zE = x) := ⟨_, rfl⟩
        rw [HX.out] at hx
        have hmem : x ∈ t := by rw [← HX.out]; exact getD_mem hin
        have HCX := hid (fun W : World => HC.out x hmem W)
        have HTH := hid (show decide (cmP x.1 p = 0) = thP t p from by
          rw [cmP_ok (HOK.out x hmem) HP.out]
          unfold thP
          by_cases h0 : cmpL (nms x.1) (nms p) = 0
          · rw [decide_eq_true h0, HPL.out.there HUP.out hin (by rw [HX.out]; exact h0)]; rfl
          · rw [decide_eq_false h0, HPL.out.lacks HUP.out (fun _ => by rw [HX.out]; exact h0)]; rfl)
        obtain ⟨x0, x1, x2⟩ := hx
        clear HC hmem
        unfold entA at HCX
        generalize cmP x.1 p = K at *
        go_wp2_with (go_at_call 50; refine (HCX.out _).mono ?_; rintro r w1 ⟨rfl, hb1⟩; have HB1 := hid (HB.out.trans (hb1.mono HB.out.size)); clear hb1)
        go_ret2
        refine ⟨?_, HB1.out⟩
        rw [← HPE.out, ← HTH.out]
        first | rfl | simp
      · have q3 : ¬ (i : Int) < (t.length : Int) := by omega
        have HTH := hid (show thP t p = false from by unfold thP; rw [HPL.out.lacks HUP.out (fun h => absurd h hin)]; rfl)
        go_wp2
        go_ret2
        refine ⟨?_, HB.out⟩
        rw [← HPE.out, HTH.out]
        rfl

set_option maxRecDepth 100000 in
set_option maxHeartbeats 1000000 in
theorem place_any (v : Value) (t : List Ent) (p : List UInt8) (w : World) (h : Ents w v t) (hup : t.Pairwise ltE) (hok : ∀ e ∈ t, okP e.1 = true) (hp : okP p = true) (hn : t.length ≤ 1024) :
    Calls Tryz.prog 22 #[v, .string (mk p)] w fun r w' => r = .returned (.tuple #[.int .i64 (plP t p), .bool (thP t p)]) ∧ Below w.heap.size w w' := by
  have HS := hid (search_any v t p w h hup hok hp hn)
  obtain ⟨ao, c, rfl⟩ := h.shape
  generalize plP t p = I at *
  generalize thP t p = B at *
  clear h hup hok hp
  go_enter Tryz.func22, Tryz.ntmps22
  go_wp2_with (go_at_call 49; refine HS.out.mono ?_; rintro r w1 ⟨rfl, hb1⟩)
  go_ret2
  exact ⟨rfl, hb1⟩

theorem plP_th {t : List Ent} {p : List UInt8} (hup : t.Pairwise ltE) (h : thP t p = true) : plP t p < t.length ∧ t.getD (plP t p) zE = stP t p := by
  unfold thP at h
  obtain ⟨e, he⟩ := Option.isSome_iff_exists.1 h
  obtain ⟨h1, h2⟩ := fdP_some he
  obtain ⟨k, hk, rfl⟩ := List.getElem_of_mem h1
  have hg : t.getD k zE = t[k] := by simp [List.getD_eq_getElem?_getD, hk]
  have : Plc t p k := ⟨Nat.le_of_lt hk, fun j hj => by
      have := pair_at hup hj hk
      unfold ltE at this
      rw [hg, h2] at this
      exact this, fun j h3 h4 h5 => by
      rcases Nat.lt_or_ge k j with h6 | h6
      · have := pair_at hup h6 h4
        unfold ltE at this
        rw [hg, h2] at this
        have := cmpL_lt_trans this h5
        rw [cmpL_self] at this
        omega
      · obtain rfl : j = k := by omega
        rw [hg, h2, cmpL_self] at h5
        omega⟩
  rw [← this.eq]
  refine ⟨hk, ?_⟩
  unfold stP
  rw [he, hg]
  rfl

set_option maxRecDepth 100000 in
set_option maxHeartbeats 1000000 in
theorem standing_any (v : Value) (t : List Ent) (p : List UInt8) (w : World) (h : Ents w v t) (hup : t.Pairwise ltE) (hok : ∀ e ∈ t, okP e.1 = true) (hp : okP p = true) (hn : t.length ≤ 1024) :
    Calls Tryz.prog 47 #[v, .string (mk p)] w fun r w' => r = .returned (entA (stP t p)) ∧ Below w.heap.size w w' := by
  have HB0 := hid (below_walk w (.cells #[.string ⟨#[]⟩, .int .i64 0, .string ⟨#[]⟩] 25))
  have HN0 := hid (hp_new w (.cells #[.string ⟨#[]⟩, .int .i64 0, .string ⟨#[]⟩] 25))
  have HS := hid (place_any v t p (w.alloc (.cells #[.string ⟨#[]⟩, .int .i64 0, .string ⟨#[]⟩] 25)) (h.below HB0.out) hup hok hp hn)
  have HT := hid (fun h => plP_th (t := t) (p := p) hup h)
  have HF := hid (show thP t p = false → stP t p = zE from fun h => by
    unfold thP at h
    unfold stP
    rw [Option.isSome_eq_false_iff, Option.isNone_iff_eq_none] at h
    rw [h]; rfl)
  have H := hid h
  obtain ⟨ao, c, rfl⟩ := h.shape
  generalize plP t p = I at *
  generalize thP t p = B at *
  clear h hup hok hp
  have HU := hid Tryz.underlying25
  cases B with
  | true =>
    obtain ⟨hI, hst⟩ := HT.out rfl
    obtain ⟨g, o, rfl, hgl, hx⟩ := H.out.at I hI
    rw [hst] at hx
    obtain ⟨e, HE⟩ : ∃ e, Hid (stP t p = e) := ⟨_, rfl⟩
    rw [HE.out] at hx ⊢
    have HX := hid hx
    have HG := hid hgl
    have q1 : (I : Int) < (t.length : Int) := by omega
    unfold entA
    clear HT HF hst hx hgl
    go_enter Tryz.func47, Tryz.ntmps47
    go_wp2_with fail
    refine HS.out.mono ?_
    rintro r w1 ⟨rfl, hb1⟩
    have HB1 := hid (below_then HB0.out hb1)
    have HN1 := hid ((hb1.block w.heap.size (by simp)).trans HN0.out)
    obtain ⟨x0, x1, x2⟩ := HX.out.below HG.out HB1.out
    clear hb1 HS HB0 HN0
    have g0 := row_cell HN1.out 0
    have g1 := row_cell HN1.out 1
    have g2 := row_cell HN1.out 2
    have f0 := row_fz HN1.out 0
    have f1 := row_fz HN1.out 1
    have f2 := row_fz HN1.out 2
    simp at g0 g1 g2
    go_wp2
    refine ret_row 4 25 rfl w.heap.size rfl [.string (mk e.1), .int .i64 e.2.1, .string (mk e.2.2)] 25 (by rw [blk_set (blk_set (blk_set HN1.out _) _) _]; rfl) _ Tryz.underlying25 rfl (by kernel_rfl) rfl ⟨rfl, ?_⟩
    exact ((HB1.out.setCell (by simp) _).setCell (by simp) _).setCell (by simp) _
  | false =>
    rw [HF.out rfl]
    unfold entA
    clear HT HF
    go_enter Tryz.func47, Tryz.ntmps47
    go_wp2_with fail
    refine HS.out.mono ?_
    rintro r w1 ⟨rfl, hb1⟩
    have HB1 := hid (below_then HB0.out hb1)
    have HN1 := hid ((hb1.block w.heap.size (by simp)).trans HN0.out)
    clear hb1 HS HB0 HN0
    have g0 := row_cell HN1.out 0
    have g1 := row_cell HN1.out 1
    have g2 := row_cell HN1.out 2
    have f0 := row_fz HN1.out 0
    have f1 := row_fz HN1.out 1
    have f2 := row_fz HN1.out 2
    simp at g0 g1 g2
    go_wp2
    refine ret_row 4 25 rfl w.heap.size rfl [.string ⟨#[]⟩, .int .i64 0, .string ⟨#[]⟩] 25 (by rw [blk_set (blk_set (blk_set HN1.out _) _) _]; rfl) _ Tryz.underlying25 rfl (by kernel_rfl) rfl ⟨rfl, ?_⟩
    exact ((HB1.out.setCell (by simp) _).setCell (by simp) _).setCell (by simp) _

end Go.Proofs.YteijkbanlpodpaaGreatDoor

/- The program's isDirectory, below and Find. -/
namespace Go.Proofs.YteijkbanlpodpaaGreatDoor
open Go.RowKit Go.BigFrame

theorem dirP_st {t : List Ent} {p : List UInt8} (h : p ≠ []) : dirP t p = decide ((stP t p).2.1 = 2) := by
  unfold dirP stP
  rw [decide_eq_false h, Bool.false_or]
  cases fdP t p with
  | none => rfl
  | some e => rfl

theorem field_kind (s1 s2 : ByteArray) (K : Int) (W : World) : (Instr.field 25 (.agg #[.string s1, .int .i64 K, .string s2]) 1).run Tryz.prog W = .ok (.int .i64 K) W := by kernel_rfl

set_option maxRecDepth 100000 in
set_option maxHeartbeats 1000000 in
theorem isDir_any (v : Value) (t : List Ent) (p : List UInt8) (w : World) (h : Ents w v t) (hup : t.Pairwise ltE) (hok : ∀ e ∈ t, okP e.1 = true) (hp : okP p = true) (hn : t.length ≤ 1024) :
    Calls Tryz.prog 20 #[v, .string (mk p)] w fun r w' => r = .returned (.bool (dirP t p)) ∧ Below w.heap.size w w' := by
  have HS := hid (standing_any v t p w h hup hok hp hn)
  obtain ⟨ao, c, rfl⟩ := h.shape
  unfold entA at HS
  by_cases h0 : p = []
  · have HD := hid (show dirP t p = true from by unfold dirP; rw [decide_eq_true h0]; rfl)
    have e1 : (mk p).toList = [] := by rw [h0]; exact bl_mk []
    clear h hup hok hp h0 HS
    generalize mk p = s at *
    go_enter Tryz.func20, Tryz.ntmps20
    go_wp2
    go_ret
    exact ⟨ret_bb HD.out.symm, Below.refl _ _⟩
  · have HD := hid (dirP_st (t := t) h0)
    have e1 : ¬ (mk p).toList = [] := fun h => h0 ((bl_mk p).symm.trans h)
    have e2 : ((mk p).toList == []) = false := by simpa using e1
    have e3 : (mk p).toList.isEmpty = false := by simpa using e1
    obtain ⟨K, HK⟩ : ∃ K : Int, Hid ((stP t p).2.1 = K) := ⟨_, rfl⟩
    rw [HK.out] at HS HD
    clear h hup hok hp h0 HK
    generalize mk (stP t p).1 = s1 at *
    generalize mk (stP t p).2.2 = s2 at *
    generalize mk p = s at *
    have hfk := fun W => field_kind s1 s2 K W
    by_cases hk : K = 2
    · subst hk
      go_enter Tryz.func20, Tryz.ntmps20
      go_wp2_with (go_at_call 47; refine HS.out.mono ?_; rintro r w1 ⟨rfl, hb1⟩; have HB1 := hid hb1; clear hb1)
      go_ret
      exact ⟨ret_bb (by rw [HD.out]; rfl), HB1.out⟩
    · have e4 : (K == 2) = false := by simpa using hk
      have HD2 := hid (HD.out.trans (decide_eq_false hk))
      go_enter Tryz.func20, Tryz.ntmps20
      go_wp2_with (go_at_call 47; refine HS.out.mono ?_; rintro r w1 ⟨rfl, hb1⟩; have HB1 := hid hb1; clear hb1)
      go_ret
      exact ⟨ret_bb (by rw [HD2.out]), HB1.out⟩

/-- does a path lie below a directory? -/
def lyP (d q : List UInt8) : Bool := decide (d = []) || (d ++ [47]).isPrefixOf q
/-- f tells which paths lie below a directory -/
def Lies (w : World) (f : Value) (d : List UInt8) : Prop :=
  (d = [] ∧ f = .func (.func 58) #[] #[]) ∨ (d ≠ [] ∧ ∃ B, f = .func (.func 59) #[] #[.pointer (some ⟨B, 0, none⟩)] ∧ B < w.heap.size ∧ w.cell? ⟨B, 0, none⟩ = some (.string (mk (d ++ [47]))))
theorem Lies.two {w : World} {f : Value} {d : List UInt8} (h : Lies w f d) (hd : d ≠ []) : ∃ B, f = .func (.func 59) #[] #[.pointer (some ⟨B, 0, none⟩)] ∧ B < w.heap.size ∧ w.cell? ⟨B, 0, none⟩ = some (.string (mk (d ++ [47]))) := by
  rcases h with h | h
  · exact absurd h.1 hd
  · exact h.2
theorem Lies.below {w w' : World} {f : Value} {d : List UInt8} (h : Lies w f d) (hb : Below w.heap.size w w') : Lies w' f d := by
  rcases h with h | ⟨h0, B, h1, h2, h3⟩
  · exact Or.inl h
  · exact Or.inr ⟨h0, B, h1, Nat.lt_of_lt_of_le h2 hb.size, (hb.cell (p := ⟨B, 0, none⟩) h2).trans h3⟩

set_option maxRecDepth 100000 in
set_option maxHeartbeats 1000000 in
theorem below_fn (d : List UInt8) (w : World) (hd : d.length ≤ 4611686018427387904) :
    Calls Tryz.prog 33 #[.string (mk d)] w fun r w' => ∃ f, r = .returned f ∧ Lies w' f d ∧ Below w.heap.size w w' := by
  by_cases h0 : d = []
  · have HL := hid (show Lies w (.func (.func 58) #[] #[]) d from Or.inl ⟨h0, rfl⟩)
    have e1 : (mk d).toList = [] := by rw [h0]; exact bl_mk []
    clear h0
    generalize mk d = s at *
    go_enter Tryz.func33, Tryz.ntmps33
    go_wp2
    go_ret
    exact ⟨_, rfl, HL.out, Below.refl _ _⟩
  · have e1 : ¬ (mk d).toList = [] := fun h => h0 ((bl_mk d).symm.trans h)
    have e2 : ((mk d).toList == []) = false := by simpa using e1
    have e3 : (mk d).toList.isEmpty = false := by simpa using e1
    have hadd := fun W => str_add d [47] (by simp; omega) W
    have HL := hid (show ∀ W : World, W.cell? ⟨w.heap.size, 0, none⟩ = some (.string (mk (d ++ [47]))) → w.heap.size < W.heap.size → Lies W (.func (.func 59) #[] #[.pointer (some ⟨w.heap.size, 0, none⟩)]) d from fun W h1 h2 => Or.inr ⟨h0, _, rfl, h2, h1⟩)
    have HB := hid (below_walk w (.cells #[.string (mk (d ++ [47]))] 9))
    have HN := hid (hp_new w (.cells #[.string (mk (d ++ [47]))] 9))
    change ∀ W, (Op.stringOp .add (mk d) ⟨#[47]⟩).run Tryz.prog W = .ok (.string (mk (d ++ [47]))) W at hadd
    clear h0
    generalize mk (d ++ [47]) = s2 at *
    generalize mk d = s at *
    go_enter Tryz.func33, Tryz.ntmps33
    go_wp2
    go_ret
    exact ⟨_, rfl, HL.out _ (by rw [row_cell HN.out 0]; rfl) (hp_lt HN.out), HB.out⟩

set_option maxRecDepth 100000 in
set_option maxHeartbeats 1000000 in
theorem lies_one (q : List UInt8) (w : World) : Calls Tryz.prog 58 #[.string (mk q)] w fun r w' => r = .returned (.bool true) ∧ w' = w := by
  generalize mk q = s
  go_enter Tryz.func58, Tryz.ntmps58
  go_wp2
  go_ret
  exact ⟨rfl, rfl⟩

set_option maxRecDepth 100000 in
set_option maxHeartbeats 1000000 in
theorem lies_two (B : Nat) (d q : List UInt8) (w : World) (h : w.cell? ⟨B, 0, none⟩ = some (.string (mk (d ++ [47])))) :
    Calls Tryz.prog 59 #[.string (mk q), .pointer (some ⟨B, 0, none⟩)] w fun r w' => r = .returned (.bool ((d ++ [47]).isPrefixOf q)) ∧ w' = w := by
  have HP := hid (pre_any (mk q) (mk (d ++ [47])) w)
  rw [bl_mk, bl_mk] at HP
  generalize mk (d ++ [47]) = s2 at *
  generalize mk q = s at *
  go_enter Tryz.func59, Tryz.ntmps59
  go_wp2_with (go_at_call 60; refine HP.out.mono ?_; rintro r w1 ⟨rfl, rfl⟩)
  go_ret
  exact ⟨rfl, rfl⟩

end Go.Proofs.YteijkbanlpodpaaGreatDoor

/- What lies below a directory: plainly. -/
namespace Go.Proofs.YteijkbanlpodpaaGreatDoor

theorem spD_pre {p : List UInt8} (h : okP p = true) (h0 : p ≠ []) (h1 : spD p ≠ []) : ∃ x, p = spD p ++ 47 :: x := by
  obtain ⟨x, hx⟩ := nms_last h h0
  refine ⟨x, ?_⟩
  have h2 : nms (spD p) ≠ [] := fun h3 => h1 (nms_nil.1 h3)
  have h3 := txt_app h2 (r := [x]) (by simp)
  rw [← hx, txt_nms, txt_nms, txt_one] at h3
  exact h3
theorem ly_up {p : List UInt8} {e : Ent} (hm : mayP e = true) (hp : p ≠ []) (h1 : spD e.1 ≠ []) (h : spD e.1 = p ∨ lyP p (spD e.1) = true) : lyP p e.1 = true := by
  obtain ⟨x, hx⟩ := spD_pre (mayP_ok hm) (mayP_ne hm) h1
  unfold lyP at h ⊢
  rw [decide_eq_false hp, Bool.false_or] at h ⊢
  rw [List.isPrefixOf_iff_prefix] at h ⊢
  rcases h with h | h
  · refine ⟨x, ?_⟩
    rw [hx, h]
    simp
  · refine h.trans ⟨47 :: x, ?_⟩
    exact hx.symm
/-- how the law tells what lies under a path -/
theorem under_is {p q : List UInt8} (hp : p ≠ []) : lyP p q = true ↔ p.length < q.length ∧ q.take p.length = p ∧ q.getD p.length 0 = 47 := by
  unfold lyP
  rw [decide_eq_false hp, Bool.false_or, List.isPrefixOf_iff_prefix]
  constructor
  · rintro ⟨r, rfl⟩
    refine ⟨by simp, by simp, ?_⟩
    simp [List.getD_eq_getElem?_getD]
  · rintro ⟨h1, h2, h3⟩
    refine ⟨q.drop (p.length + 1), ?_⟩
    have h4 : q = q.take p.length ++ q.drop p.length := (List.take_append_drop _ _).symm
    have h5 : q.drop p.length = q[p.length] :: q.drop (p.length + 1) := List.drop_eq_getElem_cons h1
    have h6 : q[p.length] = 47 := by
      rw [List.getD_eq_getElem?_getD, List.getElem?_eq_getElem h1] at h3
      exact h3
    rw [h5, h6, h2] at h4
    rw [List.append_assoc]
    exact h4.symm

/-- a path as it is told below a directory -/
def cutP (d p : List UInt8) : List UInt8 := if d = [] then p else p.drop (d.length + 1)
/-- a path below a directory -/
def mvT (d q : List UInt8) : List UInt8 := if d = [] then q else d ++ 47 :: q
def subE (d : List UInt8) (e : Ent) : Ent := (cutP d e.1, e.2)
def mvE (d : List UInt8) (e : Ent) : Ent := (mvT d e.1, e.2)
theorem mv_cut {d p : List UInt8} (h : lyP d p = true) : mvT d (cutP d p) = p := by
  unfold mvT cutP
  by_cases hd : d = []
  · rw [if_pos hd, if_pos hd]
  · rw [if_neg hd, if_neg hd]
    unfold lyP at h
    rw [decide_eq_false hd, Bool.false_or, List.isPrefixOf_iff_prefix] at h
    obtain ⟨r, rfl⟩ := h
    rw [List.append_assoc, ← List.drop_drop, List.drop_left]
    rfl
theorem cut_mv (d q : List UInt8) : cutP d (mvT d q) = q := by
  unfold mvT cutP
  by_cases hd : d = []
  · rw [if_pos hd, if_pos hd]
  · rw [if_neg hd, if_neg hd, ← List.drop_drop, List.drop_left]
    rfl
theorem ly_mv (d q : List UInt8) : lyP d (mvT d q) = true := by
  unfold lyP mvT
  by_cases hd : d = []
  · rw [decide_eq_true hd, Bool.true_or]
  · rw [if_neg hd, decide_eq_false hd, Bool.false_or, List.isPrefixOf_iff_prefix]
    exact ⟨q, by rw [List.append_assoc]; rfl⟩
theorem nms_mv {d q : List UInt8} (h0 : q ≠ []) : nms (mvT d q) = nms d ++ nms q := by
  unfold mvT
  by_cases hd : d = []
  · rw [if_pos hd, hd, nms_e, List.nil_append]
  · rw [if_neg hd]
    unfold nms
    rw [if_neg hd, if_neg h0, if_neg (by simp), pcs_append]
theorem mv_ne {d q : List UInt8} (h0 : q ≠ []) : mvT d q ≠ [] := by
  unfold mvT
  split
  · exact h0
  · simp
theorem cut_ok {d p : List UInt8} (hp : okP p = true) (h0 : p ≠ []) (h : lyP d p = true) : okP (cutP d p) = true ∧ cutP d p ≠ [] ∧ nms p = nms d ++ nms (cutP d p) := by
  have e := mv_cut h
  have hq : cutP d p ≠ [] := by
    intro hq
    rw [hq] at e
    unfold mvT at e
    split at e
    · exact h0 e.symm
    · rename_i hd
      have h1 := ((okP_iff p).1 hp).1 [] (by
        unfold nms
        rw [if_neg h0, ← e, pcs_append]
        exact List.mem_append.2 (Or.inr (by simp [pcs])))
      simp [nmP] at h1
  have hn := nms_mv (d := d) hq
  rw [e] at hn
  have h2 := (okP_iff p).1 hp
  rw [hn] at h2
  refine ⟨(okP_iff _).2 ⟨fun x hx => h2.1 x (List.mem_append.2 (Or.inr hx)), ?_⟩, hq, hn⟩
  have := h2.2
  rw [List.length_append] at this
  omega
theorem mv_ok {d q : List UInt8} (hd : okP d = true) (hq : okP q = true) (h0 : q ≠ []) : okP (mvT d q) = decide ((nms d).length + (nms q).length ≤ 32) := by
  have h1 := ((okP_iff d).1 hd).1
  have h2 := ((okP_iff q).1 hq).1
  unfold okP
  rw [nms_mv h0, List.length_append, show (nms d ++ nms q).all nmP = true from List.all_eq_true.2 (fun x hx => (List.mem_append.1 hx).elim (h1 x) (h2 x)), Bool.true_and]
theorem cmpL_app : ∀ (a x y : List (List UInt8)), cmpL (a ++ x) (a ++ y) = cmpL x y
  | [], x, y => rfl
  | z :: a, x, y => by
    rw [List.cons_append, List.cons_append, show cmpL (z :: (a ++ x)) (z :: (a ++ y)) = if cb z z = 0 then cmpL (a ++ x) (a ++ y) else cb z z from rfl, if_pos (cb_self z), cmpL_app a x y]
theorem ly_self {d : List UInt8} (hd : d ≠ []) : lyP d d = false := by
  cases h : lyP d d with
  | false => rfl
  | true =>
    have := ((under_is hd).1 h).1
    omega
theorem ly_of {d p : List UInt8} {r : List (List UInt8)} (hr : r ≠ []) (h : nms p = nms d ++ r) : lyP d p = true := by
  by_cases h0 : d = []
  · unfold lyP
    rw [decide_eq_true h0, Bool.true_or]
  · have h1 : nms d ≠ [] := fun e => h0 (nms_nil.1 e)
    have h2 := txt_app h1 hr
    rw [← h, txt_nms, txt_nms] at h2
    rw [h2]
    have := ly_mv d (txt r)
    unfold mvT at this
    rwa [if_neg h0] at this
theorem ly_lt {d : List UInt8} {m : Ent} (hm : okP m.1 = true) (h0 : m.1 ≠ []) (h : lyP d m.1 = true) : cmpL (nms d) (nms m.1) < 0 := by
  obtain ⟨h1, h2, h3⟩ := cut_ok hm h0 h
  rw [h3, cmpL_pre (fun e => h2 (nms_nil.1 e))]
  decide
/-- what stands behind a directory and not below it stands behind all that is below it -/
theorem ly_behind {d : List UInt8} {m e : Ent} (hm : okP m.1 = true) (h0 : m.1 ≠ []) (h : lyP d m.1 = true) (hn : lyP d e.1 = false) (hlt : cmpL (nms d) (nms e.1) < 0) : ltE m e := by
  obtain ⟨h1, h2, h3⟩ := cut_ok hm h0 h
  have hr : nms (cutP d m.1) ≠ [] := fun e => h2 (nms_nil.1 e)
  have no : ∀ r, r ≠ [] → nms e.1 ≠ nms d ++ r := fun r h4 h5 => by
    rw [ly_of h4 h5] at hn
    cases hn
  unfold ltE
  rcases cmpL_range (nms m.1) (nms e.1) with h4 | h4 | h4
  · omega
  · exact absurd ((cmpL_zero h4).symm.trans h3) (no _ hr)
  · have h5 := cmpL_anti (nms m.1) (nms e.1)
    rw [h4, h3] at h5
    obtain ⟨t, h6, h7⟩ := cmpL_between hlt (r := nms (cutP d m.1)) (by omega)
    exact absurd h7 (no t h6)

theorem sz_map (f : Ent → Ent) (h : ∀ e, (f e).2 = e.2) (t : List Ent) : szP (t.map f) = szP t := by
  unfold szP
  rw [List.map_map]
  congr 2
  funext e
  rw [Function.comp, h]
theorem szL_filter (f : Ent → Bool) : ∀ t : List Ent, szP (t.filter f) ≤ szP t
  | [] => Nat.le_refl _
  | x :: t => by
    have ih := szL_filter f t
    have h4 : szP (x :: t) = x.2.2.length + szP t := by simp [szP]
    rw [List.filter_cons]
    split
    · have h5 : szP (x :: t.filter f) = x.2.2.length + szP (t.filter f) := by simp [szP]
      omega
    · omega
theorem may_of {e f : Ent} (h : mayP e = true) (h1 : f.2 = e.2) (h2 : okP f.1 = true) (h3 : f.1 ≠ []) : mayP f = true := by
  unfold mayP at h ⊢
  rw [Bool.and_eq_true, Bool.and_eq_true] at h
  rw [h1, h2, decide_eq_true h3, h.2]
  rfl
/-- what lies below a directory of a right tree -/
def subL (t : List Ent) (d : List UInt8) : List Ent := (t.filter (fun e => lyP d e.1)).map (subE d)
theorem sub_rgt {t : List Ent} (d : List UInt8) (h : Rgt t) : Rgt (subL t d) := by
  unfold subL
  refine ⟨⟨fun e he => ?_, ?_, fun e he => ?_⟩, ?_, ?_⟩
  · obtain ⟨f, hf, rfl⟩ := List.mem_map.1 he
    obtain ⟨h1, h2⟩ := List.mem_filter.1 hf
    have hm := h.may f h1
    obtain ⟨h3, h4, _⟩ := cut_ok (mayP_ok hm) (mayP_ne hm) h2
    exact may_of hm rfl h3 h4
  · rw [List.pairwise_map]
    refine List.Pairwise.imp_of_mem ?_ (h.up.sublist List.filter_sublist)
    intro a b ha hb hab
    obtain ⟨a1, a2⟩ := List.mem_filter.1 ha
    obtain ⟨b1, b2⟩ := List.mem_filter.1 hb
    obtain ⟨_, _, a3⟩ := cut_ok (mayP_ok (h.may a a1)) (mayP_ne (h.may a a1)) a2
    obtain ⟨_, _, b3⟩ := cut_ok (mayP_ok (h.may b b1)) (mayP_ne (h.may b b1)) b2
    unfold ltE at hab ⊢
    rw [a3, b3, cmpL_app] at hab
    exact hab
  · obtain ⟨f, hf, rfl⟩ := List.mem_map.1 he
    obtain ⟨h1, h2⟩ := List.mem_filter.1 hf
    have hm := h.may f h1
    obtain ⟨h3, h4, h5⟩ := cut_ok (mayP_ok hm) (mayP_ne hm) h2
    by_cases h6 : spD (cutP d f.1) = []
    · exact Or.inl h6
    · right
      have h7 : nms (spD f.1) = nms (mvT d (spD (cutP d f.1))) := by
        have hne : nms (cutP d f.1) ≠ [] := fun e => h4 (nms_nil.1 e)
        rw [nms_spD (mayP_ok hm), nms_mv h6, nms_spD h3, h5, List.dropLast_append_of_ne_nil hne]
      have h8 := nms_inj h7
      rcases h.dir f h1 with h9 | ⟨g, h9, h10, h11⟩
      · rw [h9] at h8
        exact absurd h8.symm (mv_ne h6)
      · refine ⟨subE d g, List.mem_map.2 ⟨g, List.mem_filter.2 ⟨h9, ?_⟩, rfl⟩, ?_, h11⟩
        · rw [h10, h8]
          exact ly_mv _ _
        · show cutP d g.1 = spD (cutP d f.1)
          rw [h10, h8, cut_mv]
  · rw [List.length_map]
    exact Nat.le_trans (List.length_filter_le _ _) h.many
  · rw [sz_map (subE d) (fun _ => rfl)]
    exact Nat.le_trans (szL_filter _ _) h.big

/-- entries laid right behind their directory, in the place of what lies below it -/
def rpB (d : List UInt8) (t M : List Ent) : List Ent :=
  if d = [] then M else t.flatMap (fun e => (if lyP d e.1 = true then [] else [e]) ++ (if e.1 = d then M else []))
theorem mem_rpB {d : List UInt8} {t M : List Ent} (h : d = [] ∨ ∃ f ∈ t, f.1 = d) {e : Ent} : e ∈ rpB d t M ↔ (e ∈ t ∧ lyP d e.1 = false) ∨ e ∈ M := by
  unfold rpB
  by_cases hd : d = []
  · rw [if_pos hd]
    constructor
    · exact Or.inr
    · rintro (h1 | h1)
      · have := h1.2
        unfold lyP at this
        rw [decide_eq_true hd, Bool.true_or] at this
        cases this
      · exact h1
  · rw [if_neg hd, List.mem_flatMap]
    constructor
    · rintro ⟨f, hf, hm⟩
      rcases List.mem_append.1 hm with h1 | h1
      · split at h1
        · simp at h1
        · rename_i h2
          rw [List.mem_singleton] at h1
          subst h1
          exact Or.inl ⟨hf, by simpa using h2⟩
      · split at h1
        · exact Or.inr h1
        · simp at h1
    · rintro (⟨h1, h2⟩ | h1)
      · exact ⟨e, h1, List.mem_append.2 (Or.inl (by rw [h2]; simp))⟩
      · rcases h with h | ⟨f, hf, h3⟩
        · exact absurd h hd
        · exact ⟨f, hf, List.mem_append.2 (Or.inr (by rw [if_pos h3]; exact h1))⟩
/-- entries that all lie below a directory -/
structure LyM (d : List UInt8) (M : List Ent) : Prop where
  up : M.Pairwise ltE
  ly : ∀ m ∈ M, lyP d m.1 = true ∧ okP m.1 = true ∧ m.1 ≠ []
theorem rpB_up {d : List UInt8} {t M : List Ent} (ht : Rgt t) (hM : LyM d M) : (rpB d t M).Pairwise ltE := by
  unfold rpB
  by_cases h0 : d = []
  · rw [if_pos h0]
    exact hM.up
  · rw [if_neg h0, List.pairwise_flatMap]
    refine ⟨fun e he => ?_, List.Pairwise.imp_of_mem ?_ ht.up⟩
    · rw [List.pairwise_append]
      refine ⟨by split <;> simp, by split <;> simp [hM.up], fun x hx y hy => ?_⟩
      split at hx
      · simp at hx
      · rw [List.mem_singleton] at hx
        subst hx
        split at hy
        · rename_i h1
          obtain ⟨h2, h3, h4⟩ := hM.ly y hy
          unfold ltE
          rw [h1]
          exact ly_lt h3 h4 h2
        · simp at hy
    · intro a b ha hb hab x hx y hy
      rcases List.mem_append.1 hx with hx | hx
      · split at hx
        · simp at hx
        · rw [List.mem_singleton] at hx
          subst hx
          rcases List.mem_append.1 hy with hy | hy
          · split at hy
            · simp at hy
            · rw [List.mem_singleton] at hy
              subst hy
              exact hab
          · split at hy
            · rename_i h1
              obtain ⟨h2, h3, h4⟩ := hM.ly y hy
              have h5 := ly_lt h3 h4 h2
              unfold ltE at hab ⊢
              rw [h1] at hab
              exact cmpL_lt_trans hab h5
            · simp at hy
      · split at hx
        · rename_i h1
          obtain ⟨h2, h3, h4⟩ := hM.ly x hx
          rcases List.mem_append.1 hy with hy | hy
          · split at hy
            · simp at hy
            · rename_i h5
              rw [List.mem_singleton] at hy
              subst hy
              unfold ltE at hab
              rw [h1] at hab
              exact ly_behind h3 h4 h2 (by simpa using h5) hab
          · split at hy
            · rename_i h5
              exact absurd (h1.trans h5.symm) (ltE_ne hab)
            · simp at hy
        · simp at hx
theorem mv_ly {d : List UInt8} {s : List Ent} (hs : Rgt s) (hok : ∀ e ∈ s, okP (mvT d e.1) = true) : LyM d (s.map (mvE d)) := by
  constructor
  · rw [List.pairwise_map]
    refine List.Pairwise.imp_of_mem ?_ hs.up
    intro a b ha hb hab
    unfold ltE at hab ⊢
    show cmpL (nms (mvT d a.1)) (nms (mvT d b.1)) < 0
    rw [nms_mv (mayP_ne (hs.may a ha)), nms_mv (mayP_ne (hs.may b hb)), cmpL_app]
    exact hab
  · intro m hm
    obtain ⟨e, he, rfl⟩ := List.mem_map.1 hm
    exact ⟨ly_mv _ _, hok e he, mv_ne (mayP_ne (hs.may e he))⟩
/-- a right tree in the place of a directory of a right tree: a right tree, if it is not too much -/
theorem rpB_rgt {d : List UInt8} {t s : List Ent} (ht : Rgt t) (hs : Rgt s) (hdir : dirP t d = true) (hok : ∀ e ∈ s, okP (mvT d e.1) = true)
    (hm : (rpB d t (s.map (mvE d))).length ≤ 1024) (hb : szP (rpB d t (s.map (mvE d))) ≤ 1048576) : Rgt (rpB d t (s.map (mvE d))) := by
  have hL := mv_ly hs hok
  have hw := (dirP_of ht.up).1 hdir
  have hw' : d = [] ∨ ∃ f ∈ t, f.1 = d := hw.imp id (fun ⟨f, h1, h2, _⟩ => ⟨f, h1, h2⟩)
  refine ⟨⟨fun e he => ?_, rpB_up ht hL, fun e he => ?_⟩, hm, hb⟩
  · rcases (mem_rpB hw').1 he with h1 | h1
    · exact ht.may e h1.1
    · obtain ⟨f, hf, rfl⟩ := List.mem_map.1 h1
      exact may_of (hs.may f hf) rfl (hok f hf) (mv_ne (mayP_ne (hs.may f hf)))
  · rcases (mem_rpB hw').1 he with ⟨h1, h2⟩ | h1
    · by_cases h3 : spD e.1 = []
      · exact Or.inl h3
      · rcases ht.dir e h1 with h4 | ⟨g, h4, h5, h6⟩
        · exact absurd h4 h3
        · refine Or.inr ⟨g, (mem_rpB hw').2 (Or.inl ⟨h4, ?_⟩), h5, h6⟩
          by_cases h0 : d = []
          · unfold lyP at h2
            rw [decide_eq_true h0, Bool.true_or] at h2
            cases h2
          · cases h7 : lyP d g.1 with
            | false => rfl
            | true =>
              rw [h5] at h7
              rw [ly_up (ht.may e h1) h0 h3 (Or.inr h7)] at h2
              cases h2
    · obtain ⟨f, hf, rfl⟩ := List.mem_map.1 h1
      have hmf := hs.may f hf
      have h3 : nms (spD (mvT d f.1)) = nms d ++ nms (spD f.1) := by
        rw [nms_spD (hok f hf), nms_mv (mayP_ne hmf), nms_spD (mayP_ok hmf), List.dropLast_append_of_ne_nil (mayP_nms hmf)]
      by_cases h4 : spD f.1 = []
      · rw [h4, nms_e, List.append_nil] at h3
        have h5 := nms_inj h3
        rcases hw with h6 | ⟨g, h6, h7, h8⟩
        · left
          show spD (mvT d f.1) = []
          rw [h5, h6]
        · by_cases h0 : d = []
          · left
            show spD (mvT d f.1) = []
            rw [h5, h0]
          · right
            refine ⟨g, (mem_rpB hw').2 (Or.inl ⟨h6, by rw [h7]; exact ly_self h0⟩), ?_, h8⟩
            show g.1 = spD (mvT d f.1)
            rw [h5, h7]
      · rw [← nms_mv h4] at h3
        have h5 := nms_inj h3
        rcases hs.dir f hf with h6 | ⟨g, h6, h7, h8⟩
        · exact absurd h6 h4
        · right
          refine ⟨mvE d g, (mem_rpB hw').2 (Or.inr (List.mem_map.2 ⟨g, h6, rfl⟩)), ?_, h8⟩
          show mvT d g.1 = spD (mvT d f.1)
          rw [h5, h7]
theorem mv_sub (t : List Ent) (d : List UInt8) : (subL t d).map (mvE d) = t.filter (fun e => lyP d e.1) := by
  unfold subL
  rw [List.map_map]
  conv => rhs; rw [← List.map_id (t.filter (fun e => lyP d e.1))]
  refine List.map_congr_left (fun e he => ?_)
  show (mvT d (cutP d e.1), e.2) = e
  rw [mv_cut (List.mem_filter.1 he).2]
theorem sub_mv (s : List Ent) (d : List UInt8) : (s.map (mvE d)).map (subE d) = s := by
  rw [List.map_map]
  conv => rhs; rw [← List.map_id s]
  refine List.map_congr_left (fun e _ => ?_)
  show (cutP d (mvT d e.1), e.2) = e
  rw [cut_mv]
theorem rpB_sub {d : List UInt8} {t : List Ent} (ht : Rgt t) (hdir : dirP t d = true) : rpB d t ((subL t d).map (mvE d)) = t := by
  have hw' : d = [] ∨ ∃ f ∈ t, f.1 = d := ((dirP_of ht.up).1 hdir).imp id (fun ⟨f, h1, h2, _⟩ => ⟨f, h1, h2⟩)
  rw [mv_sub]
  refine pair_ext (rpB_up ht ⟨ht.up.sublist List.filter_sublist, fun m hm => ?_⟩) ht.up (fun e => ?_)
  · obtain ⟨h1, h2⟩ := List.mem_filter.1 hm
    exact ⟨h2, mayP_ok (ht.may m h1), mayP_ne (ht.may m h1)⟩
  · rw [mem_rpB hw', List.mem_filter]
    constructor
    · rintro (h | h) <;> exact h.1
    · intro h
      cases hl : lyP d e.1 with
      | false => exact Or.inl ⟨h, rfl⟩
      | true => exact Or.inr ⟨h, rfl⟩
theorem sub_rpB {d : List UInt8} {t s : List Ent} (ht : Rgt t) (hs : Rgt s) (hdir : dirP t d = true) (hok : ∀ e ∈ s, okP (mvT d e.1) = true) : subL (rpB d t (s.map (mvE d))) d = s := by
  have hw' : d = [] ∨ ∃ f ∈ t, f.1 = d := ((dirP_of ht.up).1 hdir).imp id (fun ⟨f, h1, h2, _⟩ => ⟨f, h1, h2⟩)
  have hL := mv_ly hs hok
  have h1 : (rpB d t (s.map (mvE d))).filter (fun e => lyP d e.1) = s.map (mvE d) := by
    refine pair_ext ((rpB_up ht hL).sublist List.filter_sublist) hL.up (fun e => ?_)
    rw [List.mem_filter, mem_rpB hw']
    constructor
    · rintro ⟨h | h, h2⟩
      · rw [h.2] at h2
        cases h2
      · exact h
    · exact fun h => ⟨Or.inr h, (hL.ly e h).1⟩
  unfold subL
  rw [h1, sub_mv]

end Go.Proofs.YteijkbanlpodpaaGreatDoor

/- under: its value, and how it goes. -/
namespace Go.Proofs.YteijkbanlpodpaaGreatDoor
open Go.RowKit Go.Shelf Go.BigFrame

attribute [local go_sem] Oper.semAt_some

theorem Lies.one {w : World} {f : Value} {d : List UInt8} (h : Lies w f d) (h0 : d = []) : f = .func (.func 58) #[] #[] := by
  rcases h with h | h
  · exact h.2
  · exact absurd h0 h.1

set_option maxRecDepth 100000 in
set_option maxHeartbeats 1000000 in
/-- below, with the place of the text that it keeps -/
theorem below_new (d : List UInt8) (w : World) (hd : d.length ≤ 4611686018427387904) (h0 : d ≠ []) :
    Calls Tryz.prog 33 #[.string (mk d)] w fun r w' => ∃ f, r = .returned f ∧ (∃ B, f = .func (.func 59) #[] #[.pointer (some ⟨B, 0, none⟩)] ∧ B < w'.heap.size ∧ w'.cell? ⟨B, 0, none⟩ = some (.string (mk (d ++ [47]))) ∧ w.heap.size ≤ B) ∧ Below w.heap.size w w' := by
  have e1 : ¬ (mk d).toList = [] := fun h => h0 ((bl_mk d).symm.trans h)
  have e2 : ((mk d).toList == []) = false := by simpa using e1
  have e3 : (mk d).toList.isEmpty = false := by simpa using e1
  have hadd := fun W => str_add d [47] (by simp; omega) W
  have HB := hid (below_walk w (.cells #[.string (mk (d ++ [47]))] 9))
  have HN := hid (hp_new w (.cells #[.string (mk (d ++ [47]))] 9))
  change ∀ W, (Op.stringOp .add (mk d) ⟨#[47]⟩).run Tryz.prog W = .ok (.string (mk (d ++ [47]))) W at hadd
  clear h0
  generalize mk (d ++ [47]) = s2 at *
  generalize mk d = s at *
  go_enter Tryz.func33, Tryz.ntmps33
  go_wp2
  go_ret
  exact ⟨_, rfl, ⟨_, rfl, hp_lt HN.out, by rw [row_cell HN.out 0]; rfl, Nat.le_refl _⟩, HB.out⟩

/-- an entry that may be -/
abbrev MEnt := { e : Ent // mayP e = true }
def vals (T : List MEnt) : List Ent := T.map (·.1)
theorem vals_of {t : List Ent} (h : ∀ e ∈ t, mayP e = true) : ∃ T : List MEnt, t = vals T := by
  induction t with
  | nil => exact ⟨[], rfl⟩
  | cons e t ih =>
    obtain ⟨T, hT⟩ := ih (fun x hx => h x (List.mem_cons_of_mem _ hx))
    have he := h e (by simp)
    exact ⟨⟨e, he⟩ :: T, by rw [hT]; rfl⟩
theorem vals_len (T : List MEnt) : (vals T).length = T.length := by unfold vals; rw [List.length_map]
/-- those below a directory -/
def undL (d : List UInt8) (T : List MEnt) : List MEnt := T.filter (fun y => lyP d y.1.1)
theorem vals_und (d : List UInt8) (T : List MEnt) : vals (undL d T) = (vals T).filter (fun e => lyP d e.1) := by
  unfold vals undL
  rw [List.filter_map]
  rfl
/-- what a round is handed: the last name, the entry -/
def undE (y : MEnt) : Array Value := #[.string (mk (spN y.1.1)), entA y.1]

/-- a round keeps all below n0 but one block -/
def KpS (n0 x : Nat) (W W' : World) : Prop := W.heap.size ≤ W'.heap.size ∧ ∀ b, b < n0 → b ≠ x → W'.heap[b]? = W.heap[b]?
theorem kpS_r (n0 x : Nat) (W : World) : KpS n0 x W W := ⟨Nat.le_refl _, fun _ _ _ => rfl⟩
theorem kpS_t {n0 x : Nat} {A B C : World} (h : KpS n0 x A B) (k : KpS n0 x B C) : KpS n0 x A C := ⟨Nat.le_trans h.1 k.1, fun b h1 h2 => (k.2 b h1 h2).trans (h.2 b h1 h2)⟩
theorem kpS_b {n0 x : Nat} {w : World} (hb : n0 ≤ w.heap.size) (W : World) (l : Nat) (o o' : Obj) (hl : w.heap.size ≤ l) (_ : W.heap[l]? = some o) (_ : o.isCells = false) (_ : o.isWalk = false) : KpS n0 x W (W.putObj l o') := by
  refine ⟨by simp [World.putObj], fun b h1 _ => ?_⟩
  have hne : l ≠ b := by omega
  simp [World.putObj, hne]
theorem kpS_below {n0 x : Nat} {W W' : World} (h : Below W.heap.size W W') (hn : n0 ≤ W.heap.size) : KpS n0 x W W' := ⟨h.size, fun b h1 _ => h.block b (Nat.lt_of_lt_of_le h1 hn)⟩
theorem KpS.cell {n0 x : Nat} {W W' : World} (h : KpS n0 x W W') {b o : Nat} (h1 : b < n0) (h2 : b ≠ x) : W'.cell? ⟨b, o, none⟩ = W.cell? ⟨b, o, none⟩ := World.cell?_of_block (h.2 b h1 h2)

theorem Ents.low {w : World} {v : Value} {t : List Ent} (h : Ents w v t) {g o n c : Nat} (h0 : 0 < t.length) (e : v = .slice (some ⟨g, o, none⟩) n c) : g < w.heap.size := by
  subst e
  obtain ⟨g', o', e1, h1, _⟩ := h.at 0 h0
  injection e1 with e1
  injection e1 with e1 _
  rw [e1]
  exact h1
/-- what under's value goes over: all of it below n0, and not at x -/
structure Und (w : World) (n0 x : Nat) (tv : Value) (t : List Ent) (f : Value) (d : List UInt8) (Bt Bl : Nat) : Prop where
  ct : w.cell? ⟨Bt, 0, none⟩ = some tv
  cl : w.cell? ⟨Bl, 0, none⟩ = some f
  lt : Bt < n0 ∧ Bt ≠ x
  ll : Bl < n0 ∧ Bl ≠ x
  sh : ∃ ao c, tv = .slice ao t.length c
  et : ∀ k, k < t.length → ∃ g o c, tv = .slice (some ⟨g, o, none⟩) t.length c ∧ g < n0 ∧ g ≠ x ∧ EntAt w g (o + k * 3) (t.getD k zE)
  fl : (d = [] ∧ f = .func (.func 58) #[] #[]) ∨ (d ≠ [] ∧ ∃ B, f = .func (.func 59) #[] #[.pointer (some ⟨B, 0, none⟩)] ∧ B < n0 ∧ B ≠ x ∧ w.cell? ⟨B, 0, none⟩ = some (.string (mk (d ++ [47]))))
theorem Und.kept {w w' : World} {n0 x : Nat} {tv : Value} {t : List Ent} {f : Value} {d : List UInt8} {Bt Bl : Nat} (h : Und w n0 x tv t f d Bt Bl) (k : KpS n0 x w w') : Und w' n0 x tv t f d Bt Bl := by
  refine ⟨(k.cell h.lt.1 h.lt.2).trans h.ct, (k.cell h.ll.1 h.ll.2).trans h.cl, h.lt, h.ll, h.sh, fun j hj => ?_, ?_⟩
  · obtain ⟨g, o, c, h1, h2, h3, h4, h5, h6⟩ := h.et j hj
    exact ⟨g, o, c, h1, h2, h3, (k.cell h2 h3).trans h4, (k.cell h2 h3).trans h5, (k.cell h2 h3).trans h6⟩
  · rcases h.fl with h1 | ⟨h0, B, h1, h2, h3, h4⟩
    · exact Or.inl h1
    · exact Or.inr ⟨h0, B, h1, h2, h3, (k.cell h2 h3).trans h4⟩

set_option maxRecDepth 100000 in
set_option maxHeartbeats 1000000 in
theorem under_any (tv : Value) (t : List Ent) (d : List UInt8) (w : World) (h : Ents w tv t) (hd : d.length ≤ 4611686018427387904) (x : Nat) (hx : x < w.heap.size) (hap : ∀ g o n c, 0 < t.length → tv = .slice (some ⟨g, o, none⟩) n c → g ≠ x) :
    Calls Tryz.prog 38 #[tv, .string (mk d)] w fun r w' => ∃ Bt Bl f, r = .returned (.func (.func 63) #[] #[.pointer (some ⟨Bt, 0, none⟩), .pointer (some ⟨Bl, 0, none⟩)]) ∧ Und w' w'.heap.size x tv t f d Bt Bl ∧ w.heap.size ≤ Bt ∧ w.heap.size ≤ Bl ∧ Below w.heap.size w w' := by
  have hmf : ∀ (fn : Fn) (first cap : Array Value) (w : World), (Instr.makeFunc fn first cap).run Tryz.prog w = .ok (.func fn first cap) w := fun _ _ _ _ => rfl
  obtain ⟨ao, c, e0⟩ := h.shape
  have HET := hid h
  have HAP := hid hap
  subst e0
  clear h hap
  by_cases h0 : d = []
  · have HB := hid (fun W => below_fn d W hd)
    have H0 := hid h0
    clear h0
    go_enter Tryz.func38, Tryz.ntmps38
    go_wp2_with (go_at_call 33; go_loud (refine (HB.out _).mono ?_; rintro r w1 ⟨f, rfl, hf, hb1⟩; have hf1 := hf.one H0.out; subst hf1; have HB1 := hid hb1; clear hb1 hf))
    go_ret
    have hb0 := below_walk w (.cells #[.slice ao t.length c] 22)
    have hb1 := below_then hb0 HB1.out
    have hz1 : w.heap.size + 1 ≤ w1.heap.size := by have := HB1.out.size; simpa using this
    have hb2 := hb1.alloc hb1.size (.cells #[.func (.func 58) #[] #[]] 57)
    have hz2 : (w1.alloc (.cells #[.func (.func 58) #[] #[]] 57)).heap.size = w1.heap.size + 1 := by simp
    refine ⟨_, _, .func (.func 58) #[] #[], rfl, ?_, Nat.le_refl _, by omega, hb2⟩
    refine ⟨?_, by simp, ⟨by rw [hz2]; omega, by omega⟩, ⟨by rw [hz2]; omega, by omega⟩, ⟨_, _, rfl⟩, fun k hk => ?_, Or.inl ⟨H0.out, rfl⟩⟩
    · rw [(below_walk w1 _).cell (p := ⟨w.heap.size, 0, none⟩) (by show w.heap.size < w1.heap.size; omega), HB1.out.cell (p := ⟨w.heap.size, 0, none⟩) (by simp)]
      simp
    · obtain ⟨g, o, rfl, h2, h3⟩ := HET.out.at k hk
      exact ⟨g, o, c, rfl, by rw [hz2]; omega, HAP.out _ _ _ _ (by omega) rfl, h3.below h2 hb2⟩
  · have HB := hid (fun W => below_new d W hd h0)
    have H0 := hid h0
    clear h0
    go_enter Tryz.func38, Tryz.ntmps38
    go_wp2_with (go_at_call 33; refine (HB.out _).mono ?_; rintro r w1 ⟨f, rfl, hf, hb1⟩; obtain ⟨B, rfl, hB1, hB2, hB3⟩ := hf; have HBL := hid hB1; have HBC := hid hB2; have HBN := hid hB3; clear hB1 hB2 hB3; have HB1 := hid hb1; clear hb1)
    go_ret
    have hb0 := below_walk w (.cells #[.slice ao t.length c] 22)
    have hb1 := below_then hb0 HB1.out
    have hz1 : w.heap.size + 1 ≤ w1.heap.size := by have := HB1.out.size; simpa using this
    have hb2 := hb1.alloc hb1.size (.cells #[.func (.func 59) #[] #[.pointer (some ⟨B, 0, none⟩)]] 57)
    have hz2 : (w1.alloc (.cells #[.func (.func 59) #[] #[.pointer (some ⟨B, 0, none⟩)]] 57)).heap.size = w1.heap.size + 1 := by simp
    refine ⟨_, _, .func (.func 59) #[] #[.pointer (some ⟨B, 0, none⟩)], rfl, ?_, Nat.le_refl _, by omega, hb2⟩
    refine ⟨?_, by simp, ⟨by rw [hz2]; omega, by omega⟩, ⟨by rw [hz2]; omega, by omega⟩, ⟨_, _, rfl⟩, fun k hk => ?_, Or.inr ⟨H0.out, B, rfl, by rw [hz2]; have := HBL.out; omega, by have h4 := HBN.out; simp at h4; omega, ((below_walk w1 _).cell (p := ⟨B, 0, none⟩) HBL.out).trans HBC.out⟩⟩
    · rw [(below_walk w1 _).cell (p := ⟨w.heap.size, 0, none⟩) (by show w.heap.size < w1.heap.size; omega), HB1.out.cell (p := ⟨w.heap.size, 0, none⟩) (by simp)]
      simp
    · obtain ⟨g, o, rfl, h2, h3⟩ := HET.out.at k hk
      exact ⟨g, o, c, rfl, by rw [hz2]; omega, HAP.out _ _ _ _ (by omega) rfl, h3.below h2 hb2⟩

theorem und_snoc (d : List UInt8) (T : List MEnt) (k : Nat) (y : MEnt) (hy : T[k]? = some y) : undL d (T.take (k + 1)) = undL d (T.take k) ++ (if lyP d y.1.1 = true then [y] else []) := by
  unfold undL
  rw [List.take_add_one, hy, List.filter_append]
  congr 1
  simp only [Option.toList, List.filter_cons, List.filter_nil]

set_option maxRecDepth 100000 in
set_option maxHeartbeats 2000000 in
theorem und_in (n : Nat) (hn : 1 ≤ n) (l Bt Bl n0 x : Nat) (T : List MEnt) (hT : T.length ≤ 1024) (tv f : Value) (d : List UInt8) (J Jx : List MEnt → World → Prop)
    (hY : ∀ pre y W, J pre W → pre.length < T.length → YieldAt Fence.wide (n - 1) Tryz.prog l (undE y) W fun e W' =>
      (e = .returned (.bool true) ∧ J (pre ++ [y]) W' ∧ KpS n0 x W W') ∨ (e = .returned (.bool false) ∧ Jx (pre ++ [y]) W'))
    (W : World) (hU : Und W n0 x tv (vals T) f d Bt Bl) (hnW : n0 ≤ W.heap.size) (hJ' : AbidesFrom W.heap.size J) (h0 : J [] W) :
    CallsIn Fence.wide n Tryz.prog 63 #[.func (.yield l) #[] #[], .pointer (some ⟨Bt, 0, none⟩), .pointer (some ⟨Bl, 0, none⟩)] W fun e W' => (∃ v, e = .returned v) ∧
      ((∃ ys, ys = undL d T ∧ J ys W') ∨ (∃ pre, pre <+: undL d T ∧ Jx pre W')) := by
  obtain ⟨ao, c, rfl⟩ := hU.sh
  rw [vals_len] at hU
  have HU := hid hU
  have ct := hU.ct
  clear hU
  refine callsIn_of_wp Tryz.func63 rfl trivial ?_ rfl
  simp only [Tryz.ntmps63, List.size_toArray, List.length_cons, List.length_nil, Nat.reduceAdd, Nat.reduceSub, Array.replicate_succ, Array.replicate_zero, List.push_toArray, List.append_toArray, List.nil_append, List.cons_append]
  gi_wp2
  gi_loopw [11] (fun i wr => ∃ k : Nat, k ≤ T.length ∧ i = .int .i64 k ∧ J (undL d (T.take k)) wr ∧ KpS n0 x W wr) (fun i _ => T.length - (intOf i).toNat)
  case atStart => exact ⟨0, Nat.zero_le _, rfl, h0, kpS_r _ _ _⟩
  case round =>
    obtain ⟨k, hk, rfl, hJs, hkp⟩ := hrel
    have HJs := hid hJs
    have HKP := hid hkp
    clear hJs hkp
    by_cases hlt : k < T.length
    · obtain ⟨y, hy⟩ : ∃ y, T[k]? = some y := ⟨_, List.getElem?_eq_getElem hlt⟩
      have hge : (vals T).getD k zE = y.1 := by
        unfold vals
        rw [List.getD_eq_getElem?_getD, List.getElem?_map, hy]
        rfl
      have HS := hid (und_snoc d T k y hy)
      obtain ⟨g, o, c', e0, h2, h3, h4, h5, h6⟩ := (HU.out.kept HKP.out).et k (by rw [vals_len]; exact hlt)
      rw [hge] at h4 h5 h6
      injection e0 with e0 e1 e2
      clear e1 e2
      subst e0
      have cl := (HU.out.kept HKP.out).cl
      have hnw : n0 ≤ wr.heap.size := Nat.le_trans hnW HKP.out.1
      have q1 : (k : Int) < (T.length : Int) := by omega
      have hw1 : IntKind.i64.wrap ((k : Int) + 1) = ((k + 1 : Nat) : Int) := by rw [IntKind.wrap_i64]; omega
      have HBE := hid (below_walk wr (.cells #[.string (mk y.1.1), .int .i64 y.1.2.1, .string (mk y.1.2.2)] 25))
      have HUE := hid ((HU.out.kept HKP.out).kept (kpS_below HBE.out hnw))
      have cl2 := HUE.out.cl
      have HPS := hid (fun W => psplit_any (mk y.1.1) W (by rw [bl_mk]; have := okP_short (mayP_ok y.2); omega))
      rw [bl_mk] at HPS
      have HPX := hid (show undL d (T.take (k + 1)) <+: undL d T from List.IsPrefix.filter _ (List.take_prefix _ _))
      have HYW := hid (fun W (hJW : J (undL d (T.take k)) W) => hY _ y W hJW (Nat.lt_of_le_of_lt (by unfold undL; have := List.length_filter_le (fun y : MEnt => lyP d y.1.1) (T.take k); rw [List.length_take] at this; exact Nat.le_trans this (Nat.min_le_left _ _)) hlt))
      have HFL := hid (HUE.out.fl)
      have HLN := hid hnw
      clear hy hge cl hnw ct
      rcases HFL.out with ⟨hd0, hf⟩ | ⟨hd0, B, hf, hB1, hB2, hB3⟩
      · subst hf
        have HS1 := hid (show undL d (T.take (k + 1)) = undL d (T.take k) ++ [y] from by rw [HS.out, if_pos (by unfold lyP; rw [decide_eq_true hd0, Bool.true_or])])
        have HL := hid (fun W => lies_one y.1.1 W)
        clear HS hd0
        have HS := HS1; clear HS1
        gi_wp2_with (first | (refine ⟨trivial, ?_⟩; gi_at_call 58; refine (callsIn_wide.2 (HL.out _)).mono ?_; rintro e w5 ⟨rfl, hw5⟩; have hw5 := hw5.symm; subst hw5) | (refine ⟨trivial, ?_⟩; gi_at_call 48; refine (callsIn_wide.2 (HPS.out _)).mono ?_; rintro e w6 ⟨rfl, n1, hw6⟩; subst hw6; obtain ⟨fn, tmps, assign, body, hy, hR⟩ := HYW.out _ (hJ' _ _ _ none HJs.out (below_gb (below_n HBE.out n1) none) (by simp)); dsimp only [undE, entA] at hy))
        refine hR.mono ?_
        rintro e W3 (⟨rfl, hJ3, hk3⟩ | ⟨rfl, hJx3⟩)
        · gi_wp2
          go_roundw
          case rel => exact ⟨k + 1, by omega, by simp, by rw [HS.out]; exact hJ3, kpS_t HKP.out (kpS_t (kpS_below (below_n HBE.out n1) HLN.out) hk3)⟩
          case measure => simp [intOf]; omega
        · gi_wp2
          refine bodyPost_ret (results_none rfl _ _ _) rfl ?_
          exact ⟨⟨_, rfl⟩, .inr ⟨_, by rw [← HS.out]; exact HPX.out, hJx3⟩⟩
      · subst hf
        have HD0 := hid hd0
        have HLP := hid (show lyP d y.1.1 = (d ++ [47]).isPrefixOf y.1.1 from by unfold lyP; rw [decide_eq_false hd0, Bool.false_or])
        rw [HLP.out] at HS
        have HL := hid (fun W hW => lies_two B d y.1.1 W hW)
        have HBC := hid hB3
        clear hd0 hB1 hB2 hB3 HLP
        generalize (d ++ [47]).isPrefixOf y.1.1 = X at *
        cases X with
        | true =>
          have HS1 := hid (show undL d (T.take (k + 1)) = undL d (T.take k) ++ [y] from by rw [HS.out, if_pos rfl])
          clear HS
          have HS := HS1; clear HS1
          gi_wp2_with (first | (refine ⟨trivial, ?_⟩; gi_at_call 59; refine (callsIn_wide.2 (HL.out _ HBC.out)).mono ?_; rintro e w5 ⟨rfl, hw5⟩; have hw5 := hw5.symm; subst hw5) | (refine ⟨trivial, ?_⟩; gi_at_call 48; refine (callsIn_wide.2 (HPS.out _)).mono ?_; rintro e w6 ⟨rfl, n1, hw6⟩; subst hw6; obtain ⟨fn, tmps, assign, body, hy, hR⟩ := HYW.out _ (hJ' _ _ _ none HJs.out (below_gb (below_n HBE.out n1) none) (by simp)); dsimp only [undE, entA] at hy))
          refine hR.mono ?_
          rintro e W3 (⟨rfl, hJ3, hk3⟩ | ⟨rfl, hJx3⟩)
          · gi_wp2
            go_roundw
            case rel => exact ⟨k + 1, by omega, by simp, by rw [HS.out]; exact hJ3, kpS_t HKP.out (kpS_t (kpS_below (below_n HBE.out n1) HLN.out) hk3)⟩
            case measure => simp [intOf]; omega
          · gi_wp2
            refine bodyPost_ret (results_none rfl _ _ _) rfl ?_
            exact ⟨⟨_, rfl⟩, .inr ⟨_, by rw [← HS.out]; exact HPX.out, hJx3⟩⟩
        | false =>
          have HS1 := hid (show undL d (T.take (k + 1)) = undL d (T.take k) from by rw [HS.out, if_neg (by simp), List.append_nil])
          clear HS
          gi_wp2_with (refine ⟨trivial, ?_⟩; gi_at_call 59; refine (callsIn_wide.2 (HL.out _ HBC.out)).mono ?_; rintro e w5 ⟨rfl, hw5⟩; have hw5 := hw5.symm; subst hw5)
          go_roundw
          case rel => exact ⟨k + 1, by omega, by simp, by rw [HS1.out]; exact hJ' _ _ _ none HJs.out (below_gb HBE.out none) (by simp), kpS_t HKP.out (kpS_below HBE.out HLN.out)⟩
          case measure => simp [intOf]; omega
    · obtain rfl : k = T.length := by omega
      have HJ := hid (show J (undL d T) wr by have := HJs.out; rwa [List.take_length] at this)
      gi_wp2
      go_end0
      exact ⟨⟨_, rfl⟩, .inl ⟨_, rfl, HJ.out⟩⟩

end Go.Proofs.YteijkbanlpodpaaGreatDoor

/- What Sub and Graft answer; what is cut out and put back: plainly. -/
namespace Go.Proofs.YteijkbanlpodpaaGreatDoor

/-- why a text is no directory -/
def whP (t : List Ent) (d : List UInt8) : Int := if okP d = false then 45 else if dirP t d = true then 0 else if thP t d = false then 8 else 102
def sbP (t : List Ent) (d : List UInt8) : Except Int (List Ent) := if (chkP t).2 ≠ 0 then .error (chkP t).2 else if whP t d ≠ 0 then .error (whP t d) else .ok (subL t d)
/-- do all paths fit below a directory? -/
def mvOk (d : List UInt8) (s : List Ent) : Bool := s.all (fun e => okP (mvT d e.1))
def grP (t : List Ent) (d : List UInt8) (s : List Ent) : Except Int (List Ent) :=
  if (chkP t).2 ≠ 0 then .error (chkP t).2 else if (chkP s).2 ≠ 0 then .error (chkP s).2 else if whP t d ≠ 0 then .error (whP t d)
  else if mvOk d s = false then .error 44 else fitP (rpB d t (s.map (mvE d)))
theorem wh_zero {t : List Ent} {d : List UInt8} : whP t d = 0 ↔ okP d = true ∧ dirP t d = true := by
  unfold whP
  cases h1 : okP d <;> cases h2 : dirP t d <;> cases h3 : thP t d <;> simp
theorem sb_ok {t u : List Ent} {d : List UInt8} (h : sbP t d = .ok u) : Rgt t ∧ okP d = true ∧ dirP t d = true ∧ u = subL t d := by
  unfold sbP at h
  split at h
  · cases h
  · rename_i h0
    split at h
    · cases h
    · rename_i h1
      obtain ⟨h2, h3⟩ := wh_zero.1 (Decidable.not_not.1 h1)
      injection h with h
      exact ⟨rgt_iff.1 (Decidable.not_not.1 h0), h2, h3, h.symm⟩
theorem fit_rgt {t : List Ent} (h : Rgt t) : fitP t = .ok t := by
  unfold fitP
  rw [if_neg (by have := h.many; omega), if_neg (by have := h.big; omega)]
theorem fit_ok {t u : List Ent} (h : fitP t = .ok u) : u = t ∧ t.length ≤ 1024 ∧ szP t ≤ 1048576 := by
  unfold fitP at h
  split at h
  · cases h
  · split at h
    · cases h
    · injection h with h
      exact ⟨h.symm, by omega, by omega⟩
/-- what is cut out and put back leaves the tree as it was -/
theorem graft_back {t u : List Ent} {d : List UInt8} (h : sbP t d = .ok u) : grP t d u = .ok t := by
  obtain ⟨h1, h2, h3, rfl⟩ := sb_ok h
  unfold grP
  rw [rgt_iff.2 h1, rgt_iff.2 (sub_rgt d h1), wh_zero.2 ⟨h2, h3⟩, if_neg (by simp), if_neg (by simp), if_neg (by simp), if_neg, rpB_sub h1 h3, fit_rgt h1]
  intro h4
  have : mvOk d (subL t d) = true := by
    unfold mvOk
    rw [List.all_eq_true]
    intro e he
    have := List.mem_map_of_mem (f := mvE d) he
    rw [mv_sub] at this
    exact mayP_ok (h1.may _ (List.mem_filter.1 this).1)
  rw [this] at h4
  cases h4
/-- what is put in is what is cut out -/
theorem sub_back {t s w : List Ent} {d : List UInt8} (h : grP t d s = .ok w) : sbP w d = .ok s := by
  unfold grP at h
  split at h
  · cases h
  · rename_i h0
    split at h
    · cases h
    · rename_i h1
      split at h
      · cases h
      · rename_i h2
        split at h
        · cases h
        · rename_i h3
          have ht := rgt_iff.1 (Decidable.not_not.1 h0)
          have hs := rgt_iff.1 (Decidable.not_not.1 h1)
          obtain ⟨h4, h5⟩ := wh_zero.1 (Decidable.not_not.1 h2)
          have hok : ∀ e ∈ s, okP (mvT d e.1) = true := by
            have h6 : mvOk d s = true := by cases e : mvOk d s <;> simp_all
            exact List.all_eq_true.1 h6
          obtain ⟨rfl, h6, h7⟩ := fit_ok h
          have hw := rpB_rgt ht hs h5 hok h6 h7
          have hdir : dirP (rpB d t (s.map (mvE d))) d = true := by
            have h8 := (dirP_of ht.up).1 h5
            refine (dirP_of hw.up).2 ?_
            by_cases h9 : d = []
            · exact Or.inl h9
            · rcases h8 with h8 | ⟨g, g1, g2, g3⟩
              · exact Or.inl h8
              · exact Or.inr ⟨g, (mem_rpB (Or.inr ⟨g, g1, g2⟩)).2 (Or.inl ⟨g1, by rw [g2]; exact ly_self h9⟩), g2, g3⟩
          unfold sbP
          rw [rgt_iff.2 hw, wh_zero.2 ⟨h4, hdir⟩, if_neg (by simp), if_neg (by simp), sub_rpB ht hs h5 hok]

end Go.Proofs.YteijkbanlpodpaaGreatDoor

/- Entries that may be are not long. -/
namespace Go.Proofs.YteijkbanlpodpaaGreatDoor
open Go.RowKit

theorem may_short {t : List Ent} (h : ∀ e ∈ t, mayP e = true) : Short t := by
  intro e he
  have h1 := okP_short (mayP_ok (h e he))
  have h2 := h e he
  unfold mayP at h2
  simp only [Bool.and_eq_true, decide_eq_true_iff] at h2
  refine ⟨by omega, ?_⟩
  rcases h2.2 with h3 | h3 | h3
  · omega
  · rw [h3.2]; simp
  · omega
theorem may_shr' {e : Ent} (h : mayP e = true) : Shr e := by
  have h1 := okP_short (mayP_ok h)
  refine ⟨by omega, ?_⟩
  unfold mayP at h
  simp only [Bool.and_eq_true, decide_eq_true_iff] at h
  rcases h.2 with h2 | h2 | h2
  · omega
  · rw [h2.2]; simp
  · omega

end Go.Proofs.YteijkbanlpodpaaGreatDoor

/- directory; under's value as a contract for loops. -/
namespace Go.Proofs.YteijkbanlpodpaaGreatDoor
open Go.RowKit Go.BigFrame

theorem und_stops (n : Nat) (hn : 1 ≤ n) (Bt Bl n0 x : Nat) (T : List MEnt) (hT : T.length ≤ 1024) (tv f : Value) (d : List UInt8) (w : World) (hU : Und w n0 x tv (vals T) f d Bt Bl) (hnw : n0 ≤ w.heap.size) :
    SeqStopsK Fence.wide n Tryz.prog 63 #[.pointer (some ⟨Bt, 0, none⟩), .pointer (some ⟨Bl, 0, none⟩)] undE (KpS n0 x) (fun ys => ys = undL d T) (fun pre => pre <+: undL d T) T.length w := by
  intro l J Jx W hW hJ hJx hY h0
  exact und_in n hn l Bt Bl n0 x T hT tv f d J Jx hY W (hU.kept (kpS_below hW hnw)) (Nat.le_trans hnw hW.size) hJ h0

set_option maxRecDepth 100000 in
set_option maxHeartbeats 1000000 in
theorem directory_any (v : Value) (t : List Ent) (d : List UInt8) (w : World) (h : Ents w v t) (hr : Rgt t) (hd : d.length ≤ 4611686018427387904) :
    Calls Tryz.prog 37 #[v, .string (mk d)] w fun r w' => r = .returned (.int .i64 (whP t d)) ∧ Below w.heap.size w w' := by
  have hoks : ∀ e ∈ t, okP e.1 = true := fun e he => mayP_ok (hr.may e he)
  obtain ⟨ao, c, e0⟩ := h.shape
  cases hok : okP d with
  | false =>
    have HC := hid (check_is (mk d) 45 (by rw [bl_mk]; unfold chN; rw [hok]; rfl) (by rw [bl_mk]; omega))
    have HW := hid (show whP t d = 45 from by unfold whP; rw [if_pos hok])
    clear hok h hr hoks
    subst e0
    generalize mk d = s at *
    go_enter Tryz.func37, Tryz.ntmps37
    go_wp2_with (go_at_call 32; refine (HC.out _).mono ?_; rintro r w1 ⟨rfl, n1, rfl⟩)
    go_ret
    exact ⟨by rw [HW.out]; rfl, below_n (Below.refl _ _) n1⟩
  | true =>
    have HC := hid (check_is (mk d) 0 (by rw [bl_mk]; unfold chN; rw [hok]; rfl) (by rw [bl_mk]; omega))
    have HD := hid (fun W (hW : Below w.heap.size w W) => isDir_any v t d W (h.below hW) hr.up hoks hok hr.many)
    have HS := hid (fun W (hW : Below w.heap.size w W) => standing_any v t d W (h.below hW) hr.up hoks hok hr.many)
    cases hdir : dirP t d with
    | true =>
      have HW := hid (show whP t d = 0 from by unfold whP; rw [hok, hdir]; rfl)
      rw [hdir] at HD
      clear hok h hr hoks hdir
      subst e0
      generalize mk d = s at *
      go_enter Tryz.func37, Tryz.ntmps37
      go_wp2_with (first | (go_at_call 32; refine (HC.out _).mono ?_; rintro r w1 ⟨rfl, n1, rfl⟩; have HB1 := hid (below_n (Below.refl w.heap.size w) n1)) | (go_at_call 20; refine (HD.out _ HB1.out).mono ?_; rintro r w2 ⟨rfl, hb2⟩; have HB2 := hid (below_then HB1.out hb2); clear hb2))
      go_ret
      exact ⟨by rw [HW.out]; rfl, HB2.out⟩
    | false =>
      obtain ⟨K, HK⟩ : ∃ K : Int, Hid ((stP t d).2.1 = K) := ⟨_, rfl⟩
      have hz : thP t d = false → K = 0 := fun h => by
        rw [← HK.out]
        unfold thP at h
        unfold stP
        cases e : fdP t d with
        | none => rfl
        | some x => rw [e] at h; cases h
      have hz2 : thP t d = true → K ≠ 0 := fun h h0 => by
        unfold thP at h
        obtain ⟨e, he⟩ := Option.isSome_iff_exists.1 h
        have hm := hr.may e (fdP_some he).1
        have : (stP t d).2.1 = e.2.1 := by unfold stP; rw [he]; rfl
        rw [HK.out, h0] at this
        unfold mayP at hm
        rw [← this] at hm
        simp at hm
      have HW := hid (show whP t d = if K = 0 then 8 else 102 from by
        unfold whP
        rw [hok, hdir]
        cases hth : thP t d with
        | false => rw [hz hth]; rfl
        | true => rw [if_neg (hz2 hth)]; rfl)
      rw [hdir] at HD
      unfold entA at HS
      rw [HK.out] at HS
      clear hok h hr hoks hdir hz hz2 HK
      subst e0
      generalize mk (stP t d).1 = s1 at *
      generalize mk (stP t d).2.2 = s2 at *
      generalize mk d = s at *
      have hfk := fun W => field_kind s1 s2 K W
      by_cases h0 : K = 0
      · have HW2 := hid (HW.out.trans (if_pos h0))
        subst h0
        clear HW
        go_enter Tryz.func37, Tryz.ntmps37
        go_wp2_with (first | (go_at_call 32; refine (HC.out _).mono ?_; rintro r w1 ⟨rfl, n1, rfl⟩; have HB1 := hid (below_n (Below.refl w.heap.size w) n1)) | (go_at_call 20; refine (HD.out _ HB1.out).mono ?_; rintro r w2 ⟨rfl, hb2⟩; have HB2 := hid (below_then HB1.out hb2); clear hb2) | (go_at_call 47; refine (HS.out _ HB2.out).mono ?_; rintro r w3 ⟨rfl, hb3⟩; have HB3 := hid (below_then HB2.out hb3); clear hb3))
        go_ret
        exact ⟨by rw [HW2.out]; rfl, HB3.out⟩
      · have HW2 := hid (HW.out.trans (if_neg h0))
        have e4 : (K == 0) = false := by simpa using h0
        clear HW
        go_enter Tryz.func37, Tryz.ntmps37
        go_wp2_with (first | (go_at_call 32; refine (HC.out _).mono ?_; rintro r w1 ⟨rfl, n1, rfl⟩; have HB1 := hid (below_n (Below.refl w.heap.size w) n1)) | (go_at_call 20; refine (HD.out _ HB1.out).mono ?_; rintro r w2 ⟨rfl, hb2⟩; have HB2 := hid (below_then HB1.out hb2); clear hb2) | (go_at_call 47; refine (HS.out _ HB2.out).mono ?_; rintro r w3 ⟨rfl, hb3⟩; have HB3 := hid (below_then HB2.out hb3); clear hb3))
        go_ret
        exact ⟨by rw [HW2.out]; rfl, HB3.out⟩

end Go.Proofs.YteijkbanlpodpaaGreatDoor

/- A region within a round of a range over a function, by what is proved of it outside. -/
namespace Go.Proofs.YteijkbanlpodpaaGreatDoor
open Go.RowKit
variable {P : Program}

/-- no operation of the region is a defer statement -/
def noDefer (l : List Oper) : Bool := l.all fun o => match o.op with | .defer _ => false | _ => true
theorem noDefer_mem {l : List Oper} (h : noDefer l = true) {o : Oper} (hm : o ∈ l) (c) : o.op ≠ .defer c := by
  intro e
  have := (List.all_eq_true.mp h) o hm
  rw [e] at this
  exact absurd this Bool.false_ne_true
theorem rowsIn_of {n : Nat} {row : String} {args : Array Value} {w : World} {R : Value → World → Prop} (l : Nat) (h : Rows P row args w R) : RowsIn (Fence.wide.inRound l) n P row args w R :=
  fun c cs _ => let ⟨v, w', r, s⟩ := h c cs; ⟨v, w', r, stepsIn_wide.2 s⟩
theorem uponIn_of {o : Oper} {a : Act} {next next' : Act → World → Prop} {Q Q' : Exit → Act → World → Prop} {r : Result Next} (l n : Nat) (hk : ∀ a w, next a w → next' a w) (hp : ∀ ch a w, Q (.panic ch) a w → Q' (.panic ch) a w) (ho : LetsOut Q → LetsOut Q') (h : o.upon P a next Q r) :
    o.uponIn (Fence.wide.inRound l) n P a next' Q' r := by
  have hdp : ∀ (p : Prop), (Fence.wide.inRound l).depth.isSome = true → p := fun p e => by simp [Fence.wide, Fence.inRound] at e
  cases r with
  | ok x w =>
    cases x with
    | value v => exact hk _ _ h
    | skip => exact hk _ _ h
    | defer d => exact hk _ _ h
    | enter f args =>
      refine ⟨hdp _, CallsIn.inRound l (callsIn_wide.2 (Calls.mono h ?_))⟩
      intro e w' he
      cases e with
      | returned v => exact hk _ _ he
      | panicked ch => exact hp _ _ _ he
      | outgrown => exact ho he
    | row row args => exact ⟨hdp _, rowsIn_of l (Rows.mono h (fun v w' he => hk _ _ he))⟩
    | _ => exact h.elim
  | halt x w =>
    cases x with
    | panic v => exact hp _ _ _ h
    | _ => exact h.elim
theorem wpIn_of {o : Oper} {a : Act} {w : World} {next next' : Act → World → Prop} {Q : Exit → Act → World → Prop} (l n : Nat) (hd : ∀ c, o.op ≠ .defer c) (hk : ∀ a w, next a w → next' a w) (h : o.wp P a w next Q) :
    o.wpIn (Fence.wide.inRound l) n P a w next' Q := by
  refine ⟨fun _ _ => trivial, ?_⟩
  rw [Fence.inRound_round, Oper.semAt_some l _ _ hd]
  exact uponIn_of l n hk (fun _ _ _ h => h) id h
theorem list_in {ops : Array Oper} {Q : Exit → Act → World → Prop} (l n : Nat) (hno : ¬ LetsOut Q) : ∀ (L : List Oper) (a : Act) (w : World), (∀ o ∈ L, ∀ c, o.op ≠ .defer c) → wpList P ops Q L a w → wpListIn (Fence.wide.inRound l) n P ops Q L a w
  | [], _, _, _, h => h
  | o :: L, a, w, hd, h => by
    unfold wpList at h
    unfold wpListIn
    have ih : ∀ a w, wpList P ops Q L a w → wpListIn (Fence.wide.inRound l) n P ops Q L a w := fun a w h => list_in l n hno L a w (fun o ho => hd o (List.mem_cons_of_mem _ ho)) h
    split at h
    · rename_i hw
      rw [if_pos hw]
      rcases h with h | h
      · exact wpIn_of l n (hd o (by simp)) ih h
      · exact absurd h.2 hno
    · rename_i hw
      rw [if_neg hw]
      exact ⟨fun _ _ => trivial, ih _ _ h⟩
theorem any_in {ops : Array Oper} {Q : Exit → Act → World → Prop} (l n : Nat) (hno : ¬ LetsOut Q) (hd : ∀ o ∈ ops, ∀ c, o.op ≠ .defer c) : ∀ (f : Nat) (s : Array Bool) (a : Act) (w : World), wpAny P .any ops Q f s a w → wpAnyIn (Fence.wide.inRound l) n P .any ops Q f s a w
  | 0, _, _, _, h => h
  | f + 1, s, a, w, h => by
    refine ⟨h.1, fun i hi => ?_⟩
    have hq := h.2 i hi
    unfold wpOp at hq
    unfold wpOpIn
    cases ho : ops[i]? with
    | none => simp only [ho] at hq ⊢; exact any_in l n hno hd f _ _ _ hq
    | some o =>
      simp only [ho] at hq ⊢
      split at hq
      · rename_i hw
        rw [if_pos hw]
        rcases hq with hq | hq
        · exact wpIn_of l n (hd o (Array.mem_of_getElem? ho)) (fun a w h => any_in l n hno hd f _ a w h) hq
        · exact absurd hq.2 hno
      · rename_i hw
        rw [if_neg hw]
        exact ⟨fun _ _ => trivial, any_in l n hno hd f _ _ _ hq⟩
theorem region_in_list {id l n : Nat} {Q : Exit → Act → World → Prop} {a : Act} {w : World} {L : List Oper} (hd : noDefer L = true) (hno : ¬ LetsOut Q) (h : wpList P L.toArray Q L a w) : (Code.region id L.toArray false).wpIn (Fence.wide.inRound l) n P Q a w :=
  wpIn_region_lit (list_in l n hno L a w (fun _ ho => noDefer_mem hd ho) h)
theorem region_in_any {id l n : Nat} {Q : Exit → Act → World → Prop} {a : Act} {w : World} {L : List Oper} (hm : P.follows .mixedOrders = true) (hd : noDefer L = true) (hno : ¬ LetsOut Q)
    (h : wpAny P .any L.toArray Q L.toArray.size (Array.replicate L.toArray.size false) a { w with drawn := w.drawn + 1 }) : (Code.region id L.toArray true).wpIn (Fence.wide.inRound l) n P Q a w :=
  wpIn_region_any hm (any_in l n hno (fun _ ho => noDefer_mem hd (by simpa using ho)) _ _ _ _ h)

/-- one operation within a round, by a law of it outside -/
theorem list_step_in {ops : Array Oper} {rest : List Oper} {o : Oper} {a : Act} {w : World} {Q : Exit → Act → World → Prop} (l n : Nat) (hg : o.guard = none) (hnd : ∀ c, o.op ≠ .defer c) (hno : ¬ LetsOut Q)
    (h : wpList P ops (Exit.then (wpListIn (Fence.wide.inRound l) n P ops Q rest) Q) [o] a w) : wpListIn (Fence.wide.inRound l) n P ops Q (o :: rest) a w := by
  unfold wpList at h
  rw [if_pos (by simp only [Region.wanted, hg])] at h
  rcases h with h | h
  · refine wpListIn_plain hg fun K hK => ⟨fun _ _ => trivial, ?_⟩
    rw [Fence.inRound_round, Oper.semAt_some l _ _ hnd]
    exact uponIn_of l n (fun a w h => hK a w h) (fun _ _ _ h => h) (fun h => h) h
  · exact absurd h.2 hno

/-- as wp_region_bel_tail, within a round -/
theorem wpIn_region_bel_tail {id r m : Nat} {Q : Exit → Act → World → Prop} {a : Act} {w : World} {l : List Oper} (n : Nat) (hm : P.follows .mixedOrders = true) (hB : Region.lexTailB .any l.toArray n = true) (hd : noDefer l = true) (hno : ¬ LetsOut Q)
    (h : wpQuiet P l.toArray (fun w' => ∃ p : Bel w, w' = p.out) (fun a' => ∀ w', (∃ p : Bel w, w' = p.out) → wpList P l.toArray Q (l.drop n) a' w') (l.take n) a) : (Code.region id l.toArray true).wpIn (Fence.wide.inRound r) m P Q a w := by
  simp only [Region.lexTailB, Bool.and_eq_true, decide_eq_true_eq] at hB
  obtain ⟨⟨⟨⟨hns, hn⟩, hs⟩, hc⟩, hlex⟩ := hB
  have hn' : n < l.length := by simpa using hn
  have e1 : (l.take n).length = n := by rw [List.length_take]; omega
  have e2 : (l.drop n).length = l.toArray.size - n := by simp
  have inv : HeadInv .any l.toArray n (Array.replicate l.toArray.size false) :=
    ⟨by simp, fun j oj _ hl => (by rw [getD_replicate_false] at hl; cases hl), fun t _ ht => getD_in (by simpa using ht) (getD_replicate_false _ _)⟩
  have H := headQ_lex (md := .any) (g := l.toArray.size - n) hns hs hc hn (l.take n) 0 _ a (fun j hj => by
    rw [e1] at hj
    simp [hj]) (by simpa using e1) inv (by rw [e1]; exact hlex) h
  refine region_in_any hm hd hno ?_
  have := headQ_any (Q := Q) (g := l.toArray.size - n) (fun s a' w' hw' hL => by
    have := wpAny_of_seq (md := .any) (Q' := Q) (l.drop n) n s a' w' (fun j => by simp [List.getElem?_drop]) (by rw [e2]; exact hL.1) (hL.2 w' hw')
    rwa [e2] at this) _ _ _ _ (show ∃ p : Bel w, { w with drawn := w.drawn + 1 } = p.out from ⟨⟨{ w with drawn := w.drawn + 1 }, ⟨rfl, rfl, rfl, Nat.le_refl _, fun _ _ => rfl⟩⟩, rfl⟩) H
  rw [e1, show n + (l.toArray.size - n) = l.toArray.size by omega] at this
  exact this

end Go.Proofs.YteijkbanlpodpaaGreatDoor

/- slices.Repeat of one text. -/
namespace Go.Proofs.YteijkbanlpodpaaGreatDoor
open Go.RowKit

theorem mv_row {P : Program} {w : World} {ops : Array Oper} {rest : List Oper} {o : Oper} {a : Act} {Q : Exit → Act → World → Prop} (hgd : o.guard = none) (x : Operand) (ho : o.op = .move x) (v : Value) (hx : a.eval x = v)
    (h : wpList P ops Q rest (a.put o.dst v) w) : wpList P ops Q (o :: rest) a w := by
  subst hx
  refine wpList_plain hgd fun K hK => ?_
  unfold Oper.wp execOp
  simp only [ho, Sem.run_pure]
  exact hK _ _ h

/-- what a copy wants -/
def CpOk (W : World) (d s : Option Addr) (g m : Nat) (DS : List Value) : Prop := 0 < DS.length → d = some ⟨g, m, none⟩ ∧ ∃ ad, s = some ad ∧ ∀ j v, DS[j]? = some v → W.cell? (ad.add j) = some v

/-- m times p, and what is not yet laid -/
def rep (m n : Nat) (p : List UInt8) : List (List UInt8) := List.replicate m p ++ List.replicate (n - m) []
theorem rep_length {m n : Nat} {p : List UInt8} (h : m ≤ n) : (rep m n p).length = n := by simp [rep]; omega
theorem rep_zero (n : Nat) (p : List UInt8) : madeCells #[.string ByteArray.empty] n = (strV (rep 0 n p)).toArray := by
  apply Array.ext
  · simp [madeCells, strV, rep]
  · intro i h1 h2
    simp [madeCells, strV, rep, Nat.mod_one]
    rfl
theorem rep_full (n : Nat) (p : List UInt8) : rep n n p = List.replicate n p := by simp [rep]
theorem rep_splice {m n k : Nat} {p : List UInt8} (h : m + k ≤ n) : splice (strV (rep m n p)) m (strV (List.replicate k p)) = strV (rep (m + k) n p) := by
  have e1 : (strV (rep m n p)).take m = strV (List.replicate m p) := by
    simp [strV, rep]
  have e2 : (strV (rep m n p)).drop (m + k) = strV (List.replicate (n - (m + k)) []) := by
    simp only [strV, rep, ← List.map_drop]
    congr 1
    rw [List.drop_append, List.length_replicate, List.drop_eq_nil_of_le (by simp), List.nil_append, List.drop_replicate]
    congr 1
    omega
  have e3 : (strV (List.replicate k p)).length = k := by simp [strV]
  unfold splice
  rw [e3, e1, e2]
  simp only [strV, rep, ← List.map_append]
  congr 1
  rw [← List.append_assoc, List.replicate_append_replicate]
theorem rep_cell {w : World} {g m n : Nat} {p : List UInt8} (h : w.heap[g]? = some (.cells (strV (rep m n p)).toArray 9 (0, 0))) (j : Nat) (hj : j < m) (hm : m ≤ n) : w.cell? ⟨g, j, none⟩ = some (.string (mk p)) := by
  have hl : j < (strV (rep m n p)).length := by rw [strV_length, rep_length hm]; omega
  simp only [World.cell?, h]
  simp [strV, rep, List.getElem?_append, hj]

theorem sl_from (g n k : Nat) (hk : k < n) (W : World) : (Instr.slice 85 (.slice (some ⟨g, 0, none⟩) n n) (some (.int .i64 (k : Int))) none none).run Tryz.prog W = .ok (.slice (some ⟨g, k, none⟩) (n - k) (n - k)) W := by
  have hk2 : (k : Int) ≤ (n : Int) := by omega
  have hne : ¬ n = k := by omega
  have e : (⟨g, 0, none⟩ : Addr).add k = ⟨g, k, none⟩ := addr_add g k
  have : (Instr.slice 85 (.slice (some ⟨g, 0, none⟩) n n) (some (.int .i64 (k : Int))) none none).run Tryz.prog W = .ok (.slice (if n = k then some ⟨g, 0, none⟩ else some ((⟨g, 0, none⟩ : Addr).add k)) (n - k) (n - k)) W := by go_simp
  rw [this, if_neg hne, e]

set_option maxRecDepth 100000 in
set_option maxHeartbeats 1000000 in
theorem repeat_any (gx : Nat) (p : List UInt8) (n : Nat) (w : World) (hx : w.cell? ⟨gx, 0, none⟩ = some (.string (mk p))) (hn : n ≤ 1000) :
    Calls Tryz.prog 67 #[.slice (some ⟨gx, 0, none⟩) 1 1, .int .i64 n] w fun e w' => ∃ v, e = .returned v ∧ OwnS w' w.heap.size v (List.replicate n p) ∧ Below w.heap.size w w' := by
  have HX := hid hx
  have HM := hid (Tryz.bits_Mul 1 n (by decide) (by omega))
  rw [show 1 * n / 18446744073709551616 = 0 by omega, show 1 * n % 18446744073709551616 = n by omega] at HM
  have hmk := run_make_row' (P := Tryz.prog) 85 9 (.string ByteArray.empty) 16 Tryz.underlying85 (by kernel_rfl) rfl .i64 .i64 n (by omega) (by omega)
  have h0 : ¬ (n : Int) < 0 := by omega
  have h1 : ¬ (9223372036854775807 : Int) < (n : Int) := by omega
  have w1 : IntKind.u64.wrap (n : Int) = (n : Int) := by rw [IntKind.wrap_u64]; omega
  have w2 : IntKind.i64.wrap (n : Int) = (n : Int) := by rw [IntKind.wrap_i64]; omega
  clear hx
  go_enter Tryz.func67, Tryz.ntmps67
  have HU := hid (show (Tryz.prog.info? 9).map (·.size) = some 1 by kernel_rfl)
  go_upto_region 7 with (go_at_call 86; refine (HM.out _).mono ?_; rintro e w' ⟨rfl, hw⟩; subst w')
  rw [rep_zero n p]
  have HG0 := hid (hp_new w (.cells (strV (rep 0 n p)).toArray 9))
  have HB0 := hid (below_walk w (.cells (strV (rep 0 n p)).toArray 9))
  have HX1 := hid (show (w.alloc (.cells (strV (rep 0 n p)).toArray 9)).cell? ⟨gx, 0, none⟩ = some (.string (mk p)) by
    rw [World.cell?_alloc_old _ _ _ (Nat.ne_of_lt (World.block_lt_of_cell? _ _ HX.out))]; exact HX.out)
  generalize w.alloc (.cells (strV (rep 0 n p)).toArray 9) = w5 at HG0 HB0 HX1 ⊢
  obtain ⟨k1, HK1⟩ : ∃ k1 : Nat, Hid (k1 = Nat.min 1 n) := ⟨_, rfl⟩
  have hk1 : k1 ≤ n ∧ k1 ≤ 1 ∧ (0 < n → 0 < k1) := by
    have := HK1.out
    simp only [Nat.min_def] at this
    split at this <;> omega
  obtain ⟨CS, HCS⟩ : ∃ CS, Hid (CS = strV (List.replicate k1 p)) := ⟨_, rfl⟩
  have hcl : CS.length = k1 := by rw [HCS.out, strV_length, List.length_replicate]
  have HN1 := hid (show CS.length = Nat.min 1 n by rw [hcl, HK1.out])
  have HP1 := hid (show 0 < CS.length → (some ⟨w.heap.size, 0, none⟩ : Option Addr) = some ⟨w.heap.size, 0, none⟩ ∧ ∃ ad, (some ⟨gx, 0, none⟩ : Option Addr) = some ad ∧ ∀ j v, CS[j]? = some v → w5.cell? (ad.add j) = some v from fun hpos => by
    refine ⟨rfl, _, rfl, fun j v hj => ?_⟩
    obtain rfl : k1 = 1 := by omega
    rw [HCS.out] at hj
    match j, hj with
    | 0, hj =>
      have := Option.some.inj hj
      rw [← this]
      exact HX1.out
    | j + 1, hj => simp [strV] at hj)
  have HF1 := hid (show 0 + CS.length ≤ (strV (rep 0 n p)).length by rw [strV_length, rep_length (Nat.zero_le _), hcl]; omega)
  have HO1 := hid (show ∀ v ∈ CS, v.oneCell' = true by rw [HCS.out]; exact strV_one _)
  have HSP := hid (show splice (strV (rep 0 n p)) 0 CS = strV (rep k1 n p) by rw [HCS.out, rep_splice (by omega), Nat.zero_add])
  refine wp_region_list ?_
  show wpList _ _ _ (_ :: _) _ _
  refine mv_row (by rfl) (.tmp 7) (by rfl) (.slice (some ⟨w.heap.size, 0, none⟩) n n) (by rfl) ?_
  refine mv_row (by rfl) (.tmp 0) (by rfl) (.slice (some ⟨gx, 0, none⟩) 1 1) (by rfl) ?_
  refine wpList_copy_splice (by rfl) (.tmp 31) (.tmp 32) 85 85 (by rfl) 9 Tryz.underlying85 HU.out _ _ _ _ _ _ (by rfl) (by rfl) w.heap.size 0 (strV (rep 0 n p)) 9 HG0.out CS HN1.out HP1.out HF1.out HO1.out w.heap.size w HB0.out (Nat.le_refl _) ?_
  intro w6 HG6 hb6
  have HB6 := hid hb6
  rw [HSP.out] at HG6
  clear hb6 HG0 HB0 HX1 HP1 HN1 HF1 HO1 HSP HM hmk
  clear w1 w2
  go_wp2
  go_loopw [8] (fun i wr => ∃ m : Nat, m ≤ n ∧ (0 < n → 0 < m) ∧ i = .int .i64 m ∧ Hid (wr.heap[w.heap.size]? = some (.cells (strV (rep m n p)).toArray 9 (0, 0))) ∧ Below w.heap.size w wr) (fun i _ => n - (intOf i).toNat)
  case atStart => exact ⟨k1, hk1.1, hk1.2.2, by simp, HG6, HB6.out⟩
  case round =>
    obtain ⟨m, hm, hmp, rfl, HGR, hbr⟩ := hrel
    have HBR := hid hbr
    clear hbr HG6 HB6 hcl HCS
    by_cases hlt : m < n
    · have q1 : (m : Int) < (n : Int) := by omega
      have s1 := sl_from w.heap.size n m hlt
      have s2 := sl_to ⟨w.heap.size, 0, none⟩ n n m (by omega)
      obtain ⟨k2, HK2⟩ : ∃ k2 : Nat, Hid (k2 = Nat.min m (n - m)) := ⟨_, rfl⟩
      have hk2 : k2 ≤ m ∧ m + k2 ≤ n ∧ 0 < k2 := by
        have h2 := hmp (by omega)
        rw [HK2.out]
        simp only [Nat.min_def]
        split <;> omega
      obtain ⟨DS, HDS⟩ : ∃ DS, Hid (DS = strV (List.replicate k2 p)) := ⟨_, rfl⟩
      have hdl : DS.length = k2 := by rw [HDS.out, strV_length, List.length_replicate]
      have HN1 := hid (show DS.length = Nat.min m (n - m) by rw [hdl, HK2.out])
      have HP1 : Hid (∀ W : World, W.heap[w.heap.size]? = some (.cells (strV (rep m n p)).toArray 9 (0, 0)) → CpOk W (some ⟨w.heap.size, m, none⟩) (some ⟨w.heap.size, 0, none⟩) w.heap.size m DS) := (fun W hW hpos => by
        refine ⟨rfl, _, rfl, fun j v hj => ?_⟩
        have hjl : j < k2 := by
          rcases Nat.lt_or_ge j k2 with h | h
          · exact h
          · rw [List.getElem?_eq_none (by omega)] at hj; cases hj
        rw [HDS.out] at hj
        simp [strV, hjl] at hj
        rw [addr_add, ← hj]
        exact rep_cell hW j (by omega) hm)
      have HF1 := hid (show m + DS.length ≤ (strV (rep m n p)).length by rw [strV_length, rep_length hm, hdl]; omega)
      have HO1 := hid (show ∀ v ∈ DS, v.oneCell' = true by rw [HDS.out]; exact strV_one _)
      have HSP := hid (show splice (strV (rep m n p)) m DS = strV (rep (m + k2) n p) by rw [HDS.out, rep_splice (by omega)])
      obtain ⟨J, HJ⟩ : ∃ J : Nat, Hid (J = m + k2) := ⟨_, rfl⟩
      have hwj : IntKind.i64.wrap ((m : Int) + (k2 : Int)) = (J : Int) := by rw [IntKind.wrap_i64, HJ.out]; omega
      go_wp2_with fail
      go_region_law ((refine step_copy_splice (by rfl) (.tmp 41) (.tmp 44) 85 85 (by rfl) 9 Tryz.underlying85 HU.out (some ⟨w.heap.size, m, none⟩) (some ⟨w.heap.size, 0, none⟩) (n - m) (n - m) m n (by kernel_rfl) (by kernel_rfl) w.heap.size m (strV (rep m n p)) 9 (by exact HGR.out) DS HN1.out (HP1.out _ (by exact HGR.out)) HF1.out HO1.out w.heap.size w (by exact ⟨HBR.out.os, HBR.out.tape, HBR.out.output, HBR.out.size, HBR.out.block⟩) (Nat.le_refl _) ?_; intro w7 HC7 hb7; have HB7 := hid hb7; clear hb7; rw [show goInt DS.length = Value.int .i64 (k2 : Int) from by rw [hdl]; rfl]))
      rw [HSP.out] at HC7
      go_wp2
      go_roundw
      case rel =>
        first
          | exact ⟨.int .i64 (J : Int), (.int .i64 (m : Int)), (.slice (some ⟨w.heap.size, 0, none⟩) n n), (.int .i64 (n : Int)), (.bool true), (.int .i64 (m : Int)), (.slice (some ⟨w.heap.size, 0, none⟩) n n), (.int .i64 (m : Int)), (.slice (some ⟨w.heap.size, m, none⟩) (n - m) (n - m)), (.slice (some ⟨w.heap.size, 0, none⟩) n n), (.int .i64 (m : Int)), (.slice (some ⟨w.heap.size, 0, none⟩) m n), (.int .i64 (k2 : Int)), .int .i64 (J : Int), ⟨J, by rw [HJ.out]; omega, fun _ => by rw [HJ.out]; omega, by first | rfl | rw [hwj], by rw [HJ.out]; exact HC7, HB7.out⟩, by kernel_rfl⟩
          | exact ⟨.int .i64 (IntKind.i64.wrap ((m : Int) + (k2 : Int))), (.int .i64 (m : Int)), (.slice (some ⟨w.heap.size, 0, none⟩) n n), (.int .i64 (n : Int)), (.bool true), (.int .i64 (m : Int)), (.slice (some ⟨w.heap.size, 0, none⟩) n n), (.int .i64 (m : Int)), (.slice (some ⟨w.heap.size, m, none⟩) (n - m) (n - m)), (.slice (some ⟨w.heap.size, 0, none⟩) n n), (.int .i64 (m : Int)), (.slice (some ⟨w.heap.size, 0, none⟩) m n), (.int .i64 (k2 : Int)), .int .i64 (IntKind.i64.wrap ((m : Int) + (k2 : Int))), ⟨J, by rw [HJ.out]; omega, fun _ => by rw [HJ.out]; omega, by first | rfl | rw [hwj], by rw [HJ.out]; exact HC7, HB7.out⟩, by kernel_rfl⟩
      case measure =>
        have hJ := HJ.out
        first
          | (show n - (intOf (.int .i64 (J : Int))).toNat < n - (intOf (.int .i64 (m : Int))).toNat; simp [intOf]; omega)
          | (show n - (intOf (.int .i64 (IntKind.i64.wrap ((m : Int) + (k2 : Int))))).toNat < n - (intOf (.int .i64 (m : Int))).toNat; rw [hwj]; simp [intOf]; omega)
    · have q1 : ¬ (m : Int) < (n : Int) := by omega
      obtain rfl : m = n := by omega
      go_wp2
      go_ret
      refine ⟨_, rfl, OwnS.made (ts := List.replicate m p) (by have := HGR.out; rw [rep_full] at this; exact this) (by simp; omega) (Nat.le_refl _) m (by simp), HBR.out⟩

end Go.Proofs.YteijkbanlpodpaaGreatDoor

/- Rel: the shortest written path from a path to another one. -/
namespace Go.Proofs.YteijkbanlpodpaaGreatDoor
open Go.RowKit

def relL (x y : List (List UInt8)) : List (List UInt8) := List.replicate (x.length - comL x y) [46, 46] ++ y.drop (comL x y)
def relP (a b : List UInt8) : List UInt8 := if okP a = true ∧ okP b = true then (if a = b then [46] else txt (relL (nms a) (nms b))) else []
theorem txt_bound : ∀ (l : List (List UInt8)), (∀ p ∈ l, p.length ≤ 64) → (txt l).length ≤ 65 * l.length
  | [], _ => by simp [txt]
  | [x], h => by
    have := h x (by simp)
    rw [txt_one]; simp only [List.length_singleton]; omega
  | x :: y :: r, h => by
    have h1 := h x (by simp)
    have h2 := txt_bound (y :: r) (fun p hp => h p (List.mem_cons_of_mem _ hp))
    rw [txt_two]; simp only [List.length_append, List.length_cons] at *; omega
theorem relL_len {x y : List (List UInt8)} (hx : x.length ≤ 32) (hy : y.length ≤ 32) : (relL x y).length ≤ 64 := by
  simp [relL]; omega
theorem relL_short {x y : List (List UInt8)} (hx : pathL x) (hy : pathL y) : (txt (relL x y)).length ≤ 4160 := by
  have h1 := relL_len hx.2 hy.2
  have := txt_bound (relL x y) (fun p hp => by
    unfold relL at hp
    rcases List.mem_append.1 hp with h | h
    · rw [(List.mem_replicate.1 h).2]; decide
    · exact nmP_len (hy.1 p (List.mem_of_mem_drop h)))
  omega

theorem one_cell (W : World) (v : Value) : (W.alloc (.cells #[v] 9)).cell? ⟨W.heap.size, 0, none⟩ = some v := by simp

set_option maxRecDepth 100000 in
set_option maxHeartbeats 2000000 in
theorem rel_any (a b : ByteArray) (w : World) (ha : (bl a).length ≤ 9223372036854775807) (hb : (bl b).length ≤ 9223372036854775807) :
    Calls Tryz.prog 39 #[.string a, .string b] w fun e w' => e = .returned (.tuple #[.string (mk (relP (bl a) (bl b))), .int .i64 (pN (bl a) (bl b))]) ∧ Below w.heap.size w w' := by
  have HB := hid (below_walk w (.cells #[.string a, .string b] 9))
  by_cases hok : okP (bl a) = true ∧ okP (bl b) = true
  · have HP := hid (show pN (bl a) (bl b) = 0 by unfold pN; rw [if_pos hok])
    have HC := hid (checkTwo a b w ha hb 0 HP.out)
    by_cases he : bl a = bl b
    · obtain rfl := bl_inj he
      have HR := hid (show relP (bl a) (bl a) = [46] by unfold relP; rw [if_pos hok, if_pos rfl])
      clear he hok ha hb
      go_enter Tryz.func39, Tryz.ntmps39
      go_wp2_with (go_at_call 64; refine HC.out.mono ?_; rintro e w' ⟨rfl, n, rfl⟩)
      go_ret2
      exact ⟨ret_si HR.out.symm HP.out.symm, ⟨HB.out.os, HB.out.tape, HB.out.output, HB.out.size, HB.out.block⟩⟩
    · have hne : (a.toList == b.toList) = false := by simp; exact he
      have hne' : ¬ a.toList = b.toList := he
      have HR := hid (show relP (bl a) (bl b) = txt (relL (nms (bl a)) (nms (bl b))) by unfold relP; rw [if_pos hok, if_neg he])
      have hpa := (okP_iff _).1 hok.1
      have hpb := (okP_iff _).1 hok.2
      have sa := okP_short hok.1
      have sb := okP_short hok.2
      have HNA := hid (namesOf_any a · (by rw [bl_size]; omega))
      have HNB := hid (namesOf_any b · (by rw [bl_size]; omega))
      have HSB := hid (relL_short hpa hpb)
      have hxl := hpa.2
      have hyl := hpb.2
      obtain ⟨hc1, hc2, _⟩ := comL_le (nms (bl a)) (nms (bl b))
      unfold relL at HSB HR
      generalize nms (bl a) = x at *
      generalize nms (bl b) = y at *
      obtain ⟨I, HI⟩ : ∃ I : Nat, Hid (x.length - comL x y = I) := ⟨_, rfl⟩
      rw [HI.out] at HSB HR
      clear he hok ha hb sa sb hpa hpb
      have HW0 := hid (show w.heap.size ≤ (w.alloc (.cells #[.string a, .string b] 9)).heap.size by simp)
      go_enter Tryz.func39, Tryz.ntmps39
      go_wp2_with fail
      refine HC.out.mono ?_
      rintro e w1 ⟨rfl, n, hw⟩
      have HB1 : Hid (Below w.heap.size w w1) := by rw [hw]; exact ⟨HB.out.os, HB.out.tape, HB.out.output, HB.out.size, HB.out.block⟩
      clear hw HC HB HW0
      go_wp2_with fail
      refine (HNA.out w1).mono ?_
      rintro e w2 ⟨va, rfl, hoa, hba⟩
      obtain ⟨aa, ca, rfl⟩ := hoa.strs.shape
      have HOA := hid hoa
      have HB2 := hid (below_tr HB1.out (below_le hba HB1.out.size))
      clear hoa hba HNA HB1
      go_wp2_with fail
      refine (HNB.out w2).mono ?_
      rintro e w3 ⟨vb, rfl, hob, hbb⟩
      have HOB := hid hob.strs
      have HOA3 := hid (HOA.out.below hbb).strs
      have HB3 := hid (below_tr HB2.out (below_le hbb HB2.out.size))
      obtain ⟨ab, cb', rfl⟩ := hob.strs.shape
      have HSH := hid (shared_any _ _ x y w3 HOA3.out HOB.out (by omega) (by omega))
      obtain ⟨vc, hvc, hsl⟩ := cut_from HOB.out (comL x y) hc2
      have HVC := hid hvc
      obtain ⟨ac, cc', rfl⟩ := hvc.shape
      clear hob hbb HNB HOA HB2 hvc
      generalize comL x y = K at *
      have hDl : (y.drop K).length ≤ 32 := by simp; omega
      generalize y.drop K = D at *
      obtain ⟨RR, HRR⟩ : ∃ RR : List (List UInt8), Hid (List.replicate I [46, 46] = RR) := ⟨_, rfl⟩
      have hRl : RR.length ≤ 32 := by rw [← HRR.out, List.length_replicate, ← HI.out]; omega
      rw [HRR.out] at HR HSB
      have hwr : IntKind.i64.wrap ((x.length : Int) - (K : Int)) = (I : Int) := by rw [IntKind.wrap_i64, ← HI.out]; omega
      go_wp2_with (first | (go_at_call 66; refine HSH.out.mono ?_; rintro e w' ⟨rfl, n2, rfl⟩) | fail)
      refine (repeat_any w3.heap.size [46, 46] I _ (one_cell (w3.drewN n2) _) (by rw [← HI.out]; omega)).mono ?_
      rintro e w4 ⟨vr, rfl, hor, hbr⟩
      rw [HRR.out] at hor
      have HOR := hid hor
      have HB4 := hid (below_tr HB3.out (below_le (below_d (below_tr (below_walk (w3.drewN n2) _) (below_le hbr (by simp)))) HB3.out.size))
      have HVC4 := hid (show Strs w4 (.slice ac D.length cc') D from HVC.out.below (below_d (below_tr (below_walk (w3.drewN n2) _) (below_le hbr (by simp)))))
      have hsz4 := hbr.size
      obtain ⟨ar, cr, rfl⟩ := hor.strs.shape
      clear hor hbr HSH HVC
      go_wp2_with (at_builtin; refine app_text rfl _ _ rfl _ _ _ rfl HOR.out _ _ rfl HVC4.out ?c1 hsz4 ?_)
      case c1 => omega
      intro v5 w5 ho5 hg5 hp5
      have hTl : (RR ++ D).length ≤ 64 := by rw [List.length_append]; omega
      generalize RR ++ D = T at ho5 HR HSB hTl
      have HB5 := hid (below_tr HB4.out (below_le (own_below HOR.out hsz4 hg5) (Nat.le_trans HB3.out.size (by simp))))
      have HJ := hid (joins_any v5 _ w5 ho5.strs (by omega) (by have := HSB.out; omega))
      obtain ⟨a5, c5, rfl⟩ := ho5.strs.shape
      clear ho5 hg5 hp5
      go_wp2_with (go_at_call 68; refine HJ.out.mono ?_; rintro e w6 ⟨rfl, hb6⟩)
      go_ret2
      exact ⟨ret_si HR.out.symm HP.out.symm, below_tr HB5.out (below_le hb6 HB5.out.size)⟩
  · have HP := hid (show pN (bl a) (bl b) = 45 by unfold pN; rw [if_neg hok])
    have HC := hid (checkTwo a b w ha hb 45 HP.out)
    have HR := hid (show relP (bl a) (bl b) = [] by unfold relP; rw [if_neg hok])
    clear hok ha hb
    go_enter Tryz.func39, Tryz.ntmps39
    go_wp2_with (go_at_call 64; refine HC.out.mono ?_; rintro e w' ⟨rfl, n, rfl⟩)
    go_ret2
    exact ⟨ret_si HR.out.symm HP.out.symm, ⟨HB.out.os, HB.out.tape, HB.out.output, HB.out.size, HB.out.block⟩⟩

end Go.Proofs.YteijkbanlpodpaaGreatDoor

/- The program's Sub. -/
namespace Go.Proofs.YteijkbanlpodpaaGreatDoor
open Go.RowKit Go.Shelf Go.BigFrame

attribute [local go_sem] Oper.semAt_some

/-- what is told of an entry below a directory is its path behind the directory's -/
theorem rel_cut {d p : List UInt8} (hd : okP d = true) (hp : okP p = true) (h0 : p ≠ []) (h : lyP d p = true) : relP d p = cutP d p := by
  obtain ⟨h1, h2, h3⟩ := cut_ok hp h0 h
  have hne : d ≠ p := by
    intro e
    subst e
    have h4 := congrArg List.length h3
    rw [List.length_append] at h4
    exact h2 (nms_nil.1 (List.length_eq_zero_iff.1 (by omega)))
  have hc : comL (nms d) (nms p) = (nms d).length := by
    refine comL_is (Nat.le_refl _) (by rw [h3, List.length_append]; omega) ?_ (Or.inl rfl)
    rw [h3, List.take_length, List.take_left]
  unfold relP
  rw [if_pos ⟨hd, hp⟩, if_neg hne]
  unfold relL
  rw [hc, Nat.sub_self, List.replicate_zero, List.nil_append, h3, List.drop_left, txt_nms]
/-- what Sub lays down of an entry -/
def relE (d : List UInt8) (y : MEnt) : Ent := (relP d y.1.1, y.1.2)
theorem relE_und {d : List UInt8} (hd : okP d = true) (T : List MEnt) : (undL d T).map (relE d) = subL (vals T) d := by
  unfold subL
  rw [← vals_und]
  unfold vals
  rw [List.map_map]
  refine List.map_congr_left (fun y hy => ?_)
  have hl := (List.mem_filter.1 (show y ∈ T.filter (fun y => lyP d y.1.1) from hy)).2
  unfold relE
  rw [rel_cut hd (mayP_ok y.2) (mayP_ne y.2) hl]
  rfl
theorem rel_short {d p : List UInt8} : (relP d p).length ≤ 4160 := by
  unfold relP
  split
  · rename_i h
    split
    · simp
    · exact relL_short ((okP_iff _).1 h.1) ((okP_iff _).1 h.2)
  · simp
theorem relE_shr (d : List UInt8) (y : MEnt) : Shr (relE d y) := by
  have h1 := may_shr' y.2
  exact ⟨Nat.le_trans rel_short (by omega), h1.2⟩

/-- the answer under way, the directory -/
structure Sbx (w W : World) (base bD bS : Nat) (d : List UInt8) (l : List Ent) : Prop where
  s : ∃ v, Boxed W bS 22 v ∧ OwnE W base v l
  d : Boxed W bD 9 (.string (mk d))
  b : Below w.heap.size w W
  z : base ≤ W.heap.size
theorem OwnE.alloc' {w : World} {base : Nat} {v : Value} {es : List Ent} (h : OwnE w base v es) (o : Obj) : OwnE (w.alloc o) base v es := h.below (below_walk w o)
theorem OwnE.cells' {w : World} {base : Nat} {v : Value} {es : List Ent} (h : OwnE w base v es) {k : Nat} (hk : v.ownBlock = some k) : ∃ cur, w.heap[k]? = some (.cells cur 25 (0, 0)) := by
  rcases h.2 with ⟨rfl, _⟩ | ⟨g, cap, cur, rfl, _, hh, _⟩
  · cases hk
  · cases hk
    exact ⟨cur, hh⟩
theorem Sbx.step {w W W' : World} {base bD bS : Nat} {d : List UInt8} {l : List Ent} (h : Sbx w W base bD bS d l) (hb : Below W.heap.size W W') : Sbx w W' base bD bS d l := by
  obtain ⟨v, h1, h2⟩ := h.s
  exact ⟨⟨v, (hb.block _ h1.lt).trans h1, h2.below hb⟩, (hb.block _ h.d.lt).trans h.d, below_then h.b hb, Nat.le_trans h.z hb.size⟩
theorem sbx_own {w : World} {B base bD bS : Nat} {d : List UInt8} (hB : w.heap.size ≤ B) (f : List MEnt → List Ent) : OwnFrom B (fun pre W => Sbx w W base bD bS d (f pre)) := by
  intro s X Y row hs hg hr
  obtain ⟨v, h1, h2⟩ := hs.s
  obtain ⟨v', h1', h2', _⟩ := holdsRow_own base bS 22 25 3 (fun s => (f s).length) (fun s => entsV (f s)) (fun _ _ => True) s X Y row ⟨v, h1, h2, trivial⟩ hg (fun r e => (hr r e).2)
  refine ⟨⟨v', h1', h2'⟩, ?_, ownFrom_below (β := Unit) (Nat.le_refl _) hB () X Y row hs.b hg hr, Nat.le_trans hs.z hg.size⟩
  refine hs.d.kept hg (fun e => ?_)
  obtain ⟨_, o, ho, hc⟩ := hr bD e.symm
  rw [show X.heap[bD]? = _ from hs.d] at ho
  cases ho
  cases hc
/-- where a round begins: the entry in a block of its own, which is not the answer's -/
def SbA (base bS : Nat) (fr : Nat → MEnt → Array Value) (y : MEnt) (a : Act) (W : World) : Prop :=
  ∃ Be, base ≤ Be ∧ Eb W Be y.1 ∧ (∀ v, Boxed W bS 22 v → v.ownBlock ≠ some Be) ∧ a = { tmps := fr Be y, defers := [] }
theorem sbA_own {B base bS : Nat} {fr : Nat → MEnt → Array Value} (hS : bS < B) (hS2 : bS < base) (y : MEnt) (a : Act) : OwnFrom B (fun (_ : Unit) W => SbA base bS fr y a W) := by
  intro s X Y row hs hg hr
  obtain ⟨Be, h1, h2, h3, h4⟩ := hs
  have hlt := hp_lt (show X.heap[Be]? = _ from h2)
  refine ⟨Be, h1, h2.kept hg (fun e => ?_), fun v hv => h3 v ?_, h4⟩
  · obtain ⟨_, o, ho, hc⟩ := hr Be e.symm
    rw [show X.heap[Be]? = _ from h2] at ho
    cases ho
    cases hc
  · refine (hg.block bS (by omega) (fun e => ?_)).symm.trans hv
    have := (hr bS e.symm).1
    omega
theorem Sbx.put {w W : World} {base bD bS : Nat} {d : List UInt8} {l : List Ent} (h : Sbx w W base bD bS d l) {Be : Nat} (hB : base ≤ Be) (hw : w.heap.size ≤ base) (hD : bD < base) (hS : bS < base) (hne : ∀ v, Boxed W bS 22 v → v.ownBlock ≠ some Be) (i : Nat) (u : Value) :
    Sbx w (W.setCell ⟨Be, i, none⟩ u) base bD bS d l := by
  obtain ⟨v, h1, h2⟩ := h.s
  have hg : W.grownBy (W.setCell ⟨Be, i, none⟩ u) (some Be) := ⟨rfl, rfl, rfl, (KeepsWalks.setCell W _ u).size, fun k _ hk => Below.heap_setCell _ _ _ k (fun e => hk (by rw [e]))⟩
  refine ⟨⟨v, h1.kept hg (fun e => by cases e; omega), h2.kept hg (Or.inr (hne v h1))⟩, h.d.kept hg (fun e => by cases e; omega), h.b.setCell (p := ⟨Be, i, none⟩) (by show w.heap.size ≤ Be; omega) u, Nat.le_trans h.z hg.size⟩
theorem KeepsFrom.below {B : Nat} {W W' : World} (h : Below W.heap.size W W') : KeepsFrom B W W' := ⟨h.size, fun k _ _ hk _ => (h.block k (hp_lt hk)).trans hk⟩
theorem kpS_set {n0 x : Nat} (W : World) {Be : Nat} (hB : n0 ≤ Be) (i : Nat) (u : Value) : KpS n0 x W (W.setCell ⟨Be, i, none⟩ u) :=
  ⟨(KeepsWalks.setCell W _ u).size, fun k hk _ => Below.heap_setCell _ _ _ k (by show k ≠ Be; omega)⟩
theorem sb_new {w W : World} {base bD bS : Nat} {d : List UInt8} {l : List Ent} {o : Obj} (h : Sbx w W base bD bS d l) : ∀ v, Boxed (W.alloc o) bS 22 v → v.ownBlock ≠ some W.heap.size := by
  intro v hv e
  obtain ⟨v', h1, h2⟩ := h.s
  have h3 := (h1.alloc o).symm.trans hv
  injection h3 with h3
  injection h3 with h3 _ _
  injection h3 with h3
  injection h3 with h3 _
  subst h3
  have := (h2.lt _ e).2
  omega
/-- behind an append to the answer and its store -/
theorem Sbx.app {w W wA : World} {base bD bS : Nat} {d : List UInt8} {l l' : List Ent} {vs vA : Value} {tmp : Obj} (h : Sbx w W base bD bS d l) (hv : Boxed W bS 22 vs) (ho : OwnE W base vs l) (hwS : w.heap.size ≤ bS) (hS : bS < base) (hD : bD < bS)
    (hoA : OwnE wA base vA l') (hgA : (W.alloc tmp).grownBy wA vs.ownBlock) :
    Boxed wA bS 22 vs ∧ KeepsFrom base W (wA.setCell ⟨bS, 0, none⟩ vA) ∧ KpS base bS W (wA.setCell ⟨bS, 0, none⟩ vA) ∧ Sbx w (wA.setCell ⟨bS, 0, none⟩ vA) base bD bS d l' := by
  have hlow := (ho.alloc' tmp).lt
  have hvS : some bS ≠ vs.ownBlock := hv.not_row (by decide) ho
  have hv1 : Boxed wA bS 22 vs := (hv.alloc tmp).kept hgA hvS
  have hg2 := grownBy_setCell' wA bS vA
  have hblk : ∀ b, b < base → wA.heap[b]? = W.heap[b]? := fun b hb => by
    have h1 : b < W.heap.size := Nat.lt_of_lt_of_le hb h.z
    rw [hgA.block b (by simp; omega) (fun e => by have := hlow b e.symm; omega)]
    exact Below.heap_alloc W tmp b h1
  have hnA : some bS ≠ vA.ownBlock := hv1.not_row (by decide) hoA
  refine ⟨hv1, ⟨by have h5 := hgA.size; have h6 := hg2.size; rw [World.size_alloc] at h5; omega, fun k o hk hko hoc => ?_⟩, ⟨by have h5 := hgA.size; have h6 := hg2.size; rw [World.size_alloc] at h5; omega, fun b hb hne => ?_⟩, ⟨⟨vA, hv1.set vA, hoA.kept hg2 (Or.inr hnA.symm)⟩, ?_, ?_, ?_⟩⟩
  · have h1 := hp_lt hko
    rw [hg2.block k (by have h5 := hgA.size; rw [World.size_alloc] at h5; omega) (fun e => by cases e; omega)]
    rw [hgA.block k (by simp; omega) (fun e => ?_)]
    · exact (Below.heap_alloc W tmp k h1).trans hko
    · obtain ⟨cur, hc⟩ := ho.cells' e.symm
      rw [hc] at hko
      cases hko
      cases hoc
  · rw [hg2.block b (by have h5 := hgA.size; have h6 := h.z; rw [World.size_alloc] at h5; omega) (fun e => by cases e; exact hne rfl)]
    exact hblk b hb
  · refine Boxed.kept ?_ hg2 (fun e => by cases e; omega)
    exact (hblk bD (by omega)).trans h.d
  · refine Below.setCell (p := ⟨bS, 0, none⟩) ?_ hwS vA
    refine (h.b.alloc h.b.size tmp).grown hgA (by have := h.b.size; simp; omega) (fun k e => by have := hlow k e; omega)
  · have h5 := hgA.size
    have h6 := hg2.size
    have h7 := h.z
    rw [World.size_alloc] at h5
    omega

set_option maxRecDepth 100000 in
set_option maxHeartbeats 2000000 in
theorem sub_any (v : Value) (t : List Ent) (d : List UInt8) (w : World) (h : Ents w v t) (hs : Short t) (hn : t.length ≤ 4611686018427387904) (hd : d.length ≤ 4611686018427387904) :
    Calls Tryz.prog 10 #[v, .string (mk d)] w fun r w' => AnsE w' w.heap.size r (sbP t d) ∧ Below w.heap.size w w' := by
  obtain ⟨E0, HE0⟩ : ∃ E : Int, Hid ((chkP t).2 = E) := ⟨_, rfl⟩
  have hb0 := below_walk w (.cells #[.string (mk d)] 9)
  have HB0 := hid hb0
  have HBD := hid (Boxed.new w 9 (.string (mk d)))
  have HR := hid (right_one v t _ (h.below hb0) hs hn E0 HE0.out)
  have HET := hid h
  have HZ0 := hid (show (w.alloc (.cells #[.string (mk d)] 9)).heap.size = w.heap.size + 1 by simp)
  rw [HZ0.out] at HR
  clear h hs hb0
  by_cases h0 : E0 = 0
  · subst h0
    have HRT := hid (rgt_iff.1 HE0.out)
    obtain ⟨W0, HW0⟩ : ∃ W, Hid (whP t d = W) := ⟨_, rfl⟩
    have HDI := hid (fun W (hW : Below w.heap.size w W) => directory_any v t d W (HET.out.below hW) HRT.out hd)
    rw [HW0.out] at HDI
    by_cases h1 : W0 = 0
    · subst h1
      obtain ⟨hok, hdir⟩ := wh_zero.1 HW0.out
      have HAP := hid (show sbP t d = .ok (subL t d) from by unfold sbP; rw [if_neg (by simpa using HE0.out), if_neg (by simpa using HW0.out)])
      have HOK := hid hok
      obtain ⟨T, hT⟩ := vals_of HRT.out.may
      have HT := hid hT
      obtain ⟨ao, c, e0⟩ := HET.out.shape
      subst e0
      clear hok hdir hT
      refine (callsIn_wide (n := 9)).1 ?_
      refine callsIn_of_wp_marks Tryz.func10 rfl trivial ?_ rfl
      simp only [Tryz.ntmps10, List.size_toArray, List.length_cons, List.length_nil, Nat.reduceAdd, Nat.reduceSub, Array.replicate_succ, Array.replicate_zero, List.push_toArray, List.append_toArray, List.nil_append, List.cons_append]
      gi_wp2_with fail
      refine ⟨trivial, (callsIn_wide.2 HR.out).mono ?_⟩
      rintro r w1 ⟨rfl, hb1⟩
      have HB1 := hid (below_then HB0.out (show Below (w.alloc (.cells #[.string (mk d)] 9)).heap.size _ w1 from by rw [HZ0.out]; exact hb1))
      have HD1 := hid (show Boxed w1 w.heap.size 9 (.string (mk d)) from (hb1.block _ (by omega)).trans HBD.out)
      clear hb1 HR HBD
      have cd := HD1.out.cell
      gi_wp2_with fail
      refine ⟨trivial, (callsIn_wide.2 (HDI.out w1 HB1.out)).mono ?_⟩
      rintro r w2 ⟨rfl, hb2⟩
      have HB2 := hid (below_then HB1.out hb2)
      have HD2 := hid (show Boxed w2 w.heap.size 9 (.string (mk d)) from (hb2.block _ HD1.out.lt).trans HD1.out)
      clear hb2 HDI HB1 HD1 cd
      have HB3 := hid (HB2.out.alloc HB2.out.size (.cells #[.slice none 0 0] 22))
      have HD3 := hid (HD2.out.alloc (.cells #[.slice none 0 0] 22))
      have HS3 := hid (Boxed.new w2 22 (.slice none 0 0))
      have HUN := hid (under_any (.slice ao t.length c) t d (w2.alloc (.cells #[.slice none 0 0] 22)) (HET.out.below HB3.out) hd w2.heap.size HS3.out.lt (fun g o n c h0 e => by have := HET.out.low h0 e; have := HB2.out.size; omega))
      have HZ2 := hid HD2.out.lt
      have cd := HD3.out.cell
      clear HD2 HB2
      gi_wp2_with fail
      refine ⟨trivial, (callsIn_wide.2 HUN.out).mono ?_⟩
      rintro r w4 ⟨Bt, Bl, f, rfl, hU, hBt, hBl, hb4⟩
      have HB4 := hid (below_then HB3.out hb4)
      have HD4 := hid (show Boxed w4 w.heap.size 9 (.string (mk d)) from (hb4.block _ HD3.out.lt).trans HD3.out)
      have HS4 := hid (show Boxed w4 w2.heap.size 22 (.slice none 0 0) from (hb4.block _ HS3.out.lt).trans HS3.out)
      have HU := hid hU
      clear hU hb4 hBt hBl HUN HB3 HD3 HS3 cd
      gi_wp2_with fail
      have HSL := hid (show w2.heap.size < w4.heap.size from HS4.out.lt)
      have hTl : T.length ≤ 1024 := by have := HRT.out.many; rw [HT.out, vals_len] at this; exact this
      have HU2 := hid (show Und w4 w4.heap.size w2.heap.size (.slice ao t.length c) (vals T) f d Bt Bl from by rw [← HT.out]; exact HU.out)
      refine wpIn_rangeFunc_ownH rfl (by omega) (gf := 63) (lb := #[.pointer (some ⟨Bt, 0, none⟩), .pointer (some ⟨Bl, 0, none⟩)]) rfl trivial (enters_of Tryz.func63 (by kernel_rfl) rfl)
        (und_stops _ (by omega) Bt Bl w4.heap.size w2.heap.size T hTl (.slice ao t.length c) f d w4 HU2.out (Nat.le_refl _))
        (fun h k => kpS_t h k) (kpS_b (Nat.le_refl _)) (Below.refl _ _) (fun _ => rfl)
        (fun pre W => Sbx w W w4.heap.size w.heap.size w2.heap.size d (pre.map (relE d)))
        (fun _ _ _ => False)
        (sbx_own HB4.out.size _) (fun _ _ _ _ _ hs _ _ => hs)
        ⟨⟨_, HS4.out, OwnE.nil _ _⟩, HD4.out, HB4.out, Nat.le_refl _⟩
        (SbA w4.heap.size w2.heap.size (fun Be y => #[.slice ao t.length c, .string (mk d), undef, .pointer (some ⟨w.heap.size, 0, none⟩), .slice none 0 0, .int .i64 0, .int .i64 0, .int .i64 0, .pointer (some ⟨w2.heap.size, 0, none⟩), undef, .pointer (some ⟨Be, 0, none⟩), .slice ao t.length c, .slice (some ⟨w.heap.size + 1, 0, none⟩) 1 1, .int .i64 0, .int .i64 0, .bool false, undef, .slice ao t.length c, .string (mk d), .int .i64 0, .int .i64 0, .bool false, undef, .slice ao t.length c, .string (mk d), .func (.func 63) #[] #[.pointer (some ⟨Bt, 0, none⟩), .pointer (some ⟨Bl, 0, none⟩)], .string (mk (spN y.1.1)), entA y.1, undef, undef, undef, undef, undef, undef, undef, undef, undef, undef, undef, undef, undef, undef]))
        (fun y a' => sbA_own HSL.out HSL.out y a') ?assign ?body ?done ?stop
      case assign =>
        intro l pre y W K hi hK
        unfold undE entA
        gi_wp2
        exact hK _ _ ((KeepsOthers.alloc _ _).from _) (kpS_below (below_walk W _) hi.z) (hi.step (below_walk W _)) ⟨W.heap.size, hi.z, Eb.new W y.1, sb_new hi, rfl⟩
      case body =>
        rintro l pre y a' W hl _ hi ⟨Be, hBe, heb, hnb, rfl⟩ hlt
        obtain ⟨vs, hv, ho⟩ := hi.s
        obtain ⟨av, cv, hvs⟩ := ho.ents.shape
        subst hvs
        have HRL := hid (rel_any (mk d) (mk y.1.1) W (by rw [bl_mk]; omega) (by rw [bl_mk]; have := okP_short (mayP_ok y.2); omega))
        rw [bl_mk, bl_mk] at HRL
        have cd := hi.d.cell
        have ce := heb.at.1
        have HI := hid hi
        have HEB := hid heb
        have HNB := hid (hnb _ hv)
        have HV := hid hv
        have HO := hid ho
        have HBE := hid hBe
        have HDS := hid (show w.heap.size < w2.heap.size from HZ2.out)
        have HPL := hid (show (pre.map (relE d)).length + [relE d y].length ≤ 3298534883328 by rw [List.length_map]; simp; omega)
        have HMP := hid (show (pre ++ [y]).map (relE d) = pre.map (relE d) ++ [relE d y] by rw [List.map_append]; rfl)
        generalize pre.map (relE d) = L at *
        clear hi heb hnb hv ho hBe
        have HFIN : Hid (∀ w6, Below W.heap.size W w6 → ∃ W7, W7 = (w6.setCell ⟨Be, 0, none⟩ (.string (mk (relP d y.1.1)))) ∧ Eb W7 Be (relE d y) ∧ Sbx w W7 w4.heap.size w.heap.size w2.heap.size d L ∧ Boxed W7 w2.heap.size 22 (.slice av L.length cv) ∧ OwnE W7 w4.heap.size (.slice av L.length cv) L ∧ KeepsFrom w4.heap.size W W7 ∧ KpS w4.heap.size w2.heap.size W W7) := hid (fun w6 hb6 => by
          have he6 := HEB.out.below hb6
          have hg := grownBy_setCell' w6 Be (.string (mk (relP d y.1.1)))
          have hv6 : Boxed w6 w2.heap.size 22 (.slice av L.length cv) := (hb6.block _ HV.out.lt).trans HV.out
          refine ⟨_, rfl, by unfold Eb; rw [blk_set he6]; rfl, (HI.out.step hb6).put HBE.out HB4.out.size (by have := HDS.out; have := HSL.out; omega) HSL.out (fun v hv => ?_) 0 _, hv6.other (by have := HSL.out; have := HBE.out; omega) _, (HO.out.below hb6).kept hg (Or.inr HNB.out), (KeepsFrom.below hb6).trans ((KeepsOthers.setCell w6 _ _).from _), kpS_t (kpS_below hb6 HI.out.z) (kpS_set w6 HBE.out 0 _)⟩
          have h3 := hv6.symm.trans hv
          injection h3 with h3
          injection h3 with h3 _ _
          injection h3 with h3
          injection h3 with h3 _
          rw [← h3]
          exact HNB.out)
        gi_wp2_with (first | (refine ⟨trivial, ?_⟩; gi_at_call 39; refine (CallsIn.inRound l (callsIn_wide.2 HRL.out)).mono ?_; rintro r w6 ⟨rfl, hb6⟩; have HE6 := hid (HEB.out.below hb6); have f0 := HE6.out.fz 0; have g0 := HE6.out.at.1; obtain ⟨W7, hW7, he7, hi7, hv7, ho7, hk7, hp7⟩ := HFIN.out w6 hb6; have HW7 := hid hW7; have HI7 := hid hi7; have HV7 := hid hv7; have HO7 := hid ho7; have HK7 := hid hk7; have HP7 := hid hp7; have HZ7 := hid (show W7.heap.size = w6.heap.size by rw [hW7]; exact World.size_setCell _ _ _); obtain ⟨h70, h71, h72⟩ := he7.at; have c7 := hv7.cell; rw [hW7] at h70 h71 h72 c7; clear hb6 cd ce HRL HFIN hW7 he7 hi7 hv7 ho7 hk7 hp7) | (gi_at_builtin; go_loud (rw [← HW7.out]; have HOX := hid (HO7.out.alloc' (.cells #[.string (mk (relE d y).1), .int .i64 (relE d y).2.1, .string (mk (relE d y).2.2)] 25)); have HEN := hid (ents_one W7 (relE d y)); rw [HZ7.out] at HEN; have HBX := hid (show w4.heap.size ≤ (W7.alloc (.cells #[.string (mk (relE d y).1), .int .i64 (relE d y).2.1, .string (mk (relE d y).2.2)] 25)).heap.size by have := HI7.out.z; rw [World.size_alloc]; omega); refine list_step_in _ _ rfl (by intro c e; cases e) (by rintro ⟨_, _, h⟩; exact h) ?_; refine app_ent rfl _ _ rfl w4.heap.size _ _ rfl HOX.out [relE d y] _ rfl HEN.out HPL.out HBX.out ?_; intro vA wA hoA hgA _; obtain ⟨hvA, hK1, hK2, hI⟩ := HI7.out.app HV7.out HO7.out (Nat.le_of_lt HDS.out) HSL.out HDS.out hoA hgA; obtain ⟨aA, cA, eA⟩ := hoA.ents.shape; have HKA := hid (HK7.out.trans hK1); have HPA := hid (kpS_t HP7.out hK2); have HIA := hid hI; have cA1 := hvA.cell; have fA1 := hvA.frozen; generalize (L ++ [relE d y]).length = nL at eA; subst eA; clear hoA hgA hvA hK1 hK2 hI; refine wpList_nil ?_; show wpListIn _ _ _ _ _ _ _ _)))
        exact ⟨HKA.out, HPA.out, by show Sbx _ _ _ _ _ _ ((pre ++ [y]).map (relE d)); rw [HMP.out]; exact HIA.out⟩
      case done =>
        rintro D ys W hD rfl hi hK
        have hi : Sbx w W w4.heap.size w.heap.size w2.heap.size d ((undL d T).map (relE d)) := hi
        rw [relE_und HOK.out, ← HT.out] at hi
        obtain ⟨vs, hv, ho⟩ := hi.s
        obtain ⟨av, cv, hvs⟩ := ho.ents.shape
        subst hvs
        have HSR := hid (sub_rgt d HRT.out)
        have HOW := hid (own_any _ (subL t d) W ho.ents (by have := HSR.out.many; omega) (fun e he => may_shr' (HSR.out.may e he)))
        have HBW := hid hi.b
        have HKD := hid hK
        have HDL := hid hD
        have cv1 := hv.cell
        clear hi hv ho hK hD
        gi_wp2_with (refine ⟨trivial, ?_⟩; gi_at_call 34; refine (callsIn_wide.2 HOW.out).mono ?_; rintro r w8 ⟨v8, rfl, ho8, hb8⟩; have HB8 := hid (below_then HBW.out hb8); have HO8 := hid (ho8.le HBW.out.size); have HK8 := hid ((hb8.block D (hp_lt HKD.out)).trans HKD.out); obtain ⟨a8, c8, e8⟩ := ho8.ents.shape; subst e8; clear ho8 hb8 cv1)
        refine ⟨by simp, .inl ⟨_, _, rfl, run_takeDeferred HK8.out, ?_⟩⟩
        refine ⟨_, results_tmp2 rfl _ _ _, ?_⟩
        rw [HAP.out]
        exact ⟨⟨_, rfl, ownsRow_putObj HO8.out _ HK8.out rfl⟩, HB8.out.grown (grownBy_putObj' _ D (.deferred none)) HB8.out.size (fun k e => by cases e; exact Nat.le_trans HB4.out.size HDL.out)⟩
      case stop =>
        rintro D c' pre W _ _ h _
        exact h.elim
    · have HAP := hid (show sbP t d = .error W0 from by unfold sbP; rw [if_neg (by simpa using HE0.out), HW0.out, if_pos h1])
      have e1 : (W0 == 0) = false := by simpa using h1
      obtain ⟨ao, c, e0⟩ := HET.out.shape
      subst e0
      clear h1
      go_enter Tryz.func10, Tryz.ntmps10
      go_wp2_with fail
      refine HR.out.mono ?_
      rintro r w1 ⟨rfl, hb1⟩
      have HB1 := hid (below_then HB0.out (show Below (w.alloc (.cells #[.string (mk d)] 9)).heap.size _ w1 from by rw [HZ0.out]; exact hb1))
      have cd := (show Boxed w1 w.heap.size 9 (.string (mk d)) from (hb1.block _ (by omega)).trans HBD.out).cell
      clear hb1 HR HBD
      go_wp2_with (go_at_call 37; refine (HDI.out _ HB1.out).mono ?_; rintro r w2 ⟨rfl, hb2⟩; have HB2 := hid (below_then HB1.out hb2); clear hb2)
      go_ret2
      rw [HAP.out]
      exact ⟨rfl, HB2.out⟩
  · have HAP := hid (show sbP t d = .error E0 from by unfold sbP; rw [HE0.out, if_pos h0])
    have e1 : (E0 == 0) = false := by simpa using h0
    obtain ⟨ao, c, e0⟩ := HET.out.shape
    subst e0
    clear h0
    go_enter Tryz.func10, Tryz.ntmps10
    go_wp2_with fail
    refine HR.out.mono ?_
    rintro r w1 ⟨rfl, hb1⟩
    have HB1 := hid (below_then HB0.out (show Below (w.alloc (.cells #[.string (mk d)] 9)).heap.size _ w1 from by rw [HZ0.out]; exact hb1))
    clear hb1 HR
    go_wp2
    go_ret2
    rw [HAP.out]
    exact ⟨rfl, HB1.out⟩

end Go.Proofs.YteijkbanlpodpaaGreatDoor

/- The program's moveInto, replaceBelow and Graft. -/
namespace Go.Proofs.YteijkbanlpodpaaGreatDoor
open Go.RowKit Go.BigFrame

theorem steps_nms : ∀ {r l : List (List UInt8)}, (∀ p ∈ r, nmP p = true) → stepsP l r = .ok (l ++ r)
  | [], l, _ => by simp [stepsP]
  | p :: r, l, h => by
    obtain ⟨h1, h2, h3⟩ := nmP_ne (h p (by simp))
    have e : stepP l p = .ok (l ++ [p]) := by unfold stepP; rw [if_neg (by simp [h1, h2]), if_neg h3, if_pos (h p (by simp))]
    rw [stepsP, e]
    show stepsP (l ++ [p]) r = _
    rw [steps_nms (fun q hq => h q (List.mem_cons_of_mem _ hq)), List.append_assoc]
    rfl
/-- a path laid below a directory -/
theorem join_mv {d p : List UInt8} (hd : okP d = true) (hp : okP p = true) (h0 : p ≠ []) : joinP d [p] = if okP (mvT d p) = true then .ok (mvT d p) else .error 44 := by
  have hs := okP_short hp
  have hn := ((okP_iff p).1 hp).1
  have hnp : nms p = pcs p := by unfold nms; rw [if_neg h0]
  rw [hnp] at hn
  have hh : p.head? ≠ some 47 := by
    intro e
    cases p with
    | nil => cases e
    | cons c r =>
      injection e with e
      subst e
      have := hn [] (by rw [pcs_slash]; simp)
      simp [nmP] at this
  have hw : walkP (nms d) p = .ok (nms d ++ nms p) := by
    unfold walkP
    rw [if_neg (by omega), if_neg hh, steps_nms hn, hnp]
  unfold joinP walksP
  rw [if_pos hd, hw]
  show (if 32 < (nms d ++ nms p).length then Except.error 44 else Except.ok (txt (nms d ++ nms p))) = _
  rw [mv_ok hd hp h0, ← nms_mv h0, txt_nms, nms_mv h0, List.length_append]
  by_cases hl : 32 < (nms d).length + (nms p).length
  · rw [if_pos hl, if_neg (by simp; omega)]
  · rw [if_neg hl, if_pos (by simp; omega)]

theorem entsV_setP (es : List Ent) (k : Nat) (p : List UInt8) (hk : k < es.length) : (entsV es).set (k * 3) (.string (mk p)) = entsV (es.set k (p, (es.getD k zE).2)) := by
  induction es generalizing k with
  | nil => simp at hk
  | cons x es ih =>
    cases k with
    | zero => simp [entsV_cons, entV]
    | succ k =>
      have hl : (entV x).length = 3 := rfl
      rw [List.set_cons_succ, entsV_cons, entsV_cons, show (x :: es).getD (k + 1) zE = es.getD k zE from by simp, ← ih k (by simpa using hk), show (k + 1) * 3 = k * 3 + 3 by omega, List.set_append_right _ _ (by omega), hl, Nat.add_sub_cancel]
/-- a path of one's own entries is written over -/
theorem OwnE.setP {w : World} {base g n cap : Nat} {es : List Ent} (h : OwnE w base (.slice (some ⟨g, 0, none⟩) n cap) es) {i : Nat} (hi : i < es.length) (p : List UInt8) :
    OwnE (w.setCell ⟨g, i * 3, none⟩ (.string (mk p))) base (.slice (some ⟨g, 0, none⟩) n cap) (es.set i (p, (es.getD i zE).2)) := by
  rcases h.2 with ⟨h0, _⟩ | ⟨g', cap', cur, hv, hb, hh, h1, h2, h3, h4⟩
  · cases h0
  · injection hv with hv1 hv2 hv3
    have hg : g = g' := by injection hv1 with hv1; injection hv1
    subst hg hv2 hv3
    have hl := h.1
    refine ⟨?_, Or.inr ⟨g, cap, cur.setIfInBounds (i * 3) (.string (mk p)), ?_, hb, ?_, ?_, h2, by simpa using h3, ?_⟩⟩
    · rw [← entsV_setP es i p hi, List.length_set, List.length_set, hl]
    · rw [List.length_set]
    · rw [blk_set hh _]
    · rw [List.length_set]; exact h1
    · rw [List.length_set, ← entsV_setP es i p hi]
      simp only [Array.toList_setIfInBounds]
      rw [List.take_set, h4]

theorem eqn_nil (c : Nat) (W : World) : (binOp .eql 22 (.slice none 0 c) (.slice none 0 0)).run Tryz.prog W = .ok (.bool true) W := by kernel_rfl
theorem eqn_ad (a : Addr) (n c : Nat) (W : World) : (binOp .eql 22 (.slice (some a) n c) (.slice none 0 0)).run Tryz.prog W = .ok (.bool false) W := by kernel_rfl

set_option maxRecDepth 100000 in
set_option maxHeartbeats 1000000 in
theorem clone_ents (v : Value) (s : List Ent) (w : World) (h : Ents w v s) (hn : s.length ≤ 1099511627776) :
    Calls Tryz.prog 69 #[v] w fun r w' => ∃ v', r = .returned v' ∧ OwnE w' w.heap.size v' s ∧ Below w.heap.size w w' := by
  obtain ⟨ao, c, e0⟩ := h.shape
  have H := hid h
  subst e0
  clear h
  cases ao with
  | none =>
    have hs : s = [] := by
      rcases H.out with ⟨_, _, _, h0, _⟩ | ⟨g, o, c, hv, _⟩
      · exact h0
      · cases hv
    subst hs
    have he := eqn_nil c
    go_enter Tryz.func69, Tryz.ntmps69
    go_wp2
    go_ret
    exact ⟨_, rfl, OwnE.nil _ _, Below.refl _ _⟩
  | some ad =>
    have HB := hid (below_walk w (.cells #[] 25))
    have HO := hid (show OwnE (w.alloc (.cells #[] 25)) w.heap.size (.slice (some ⟨w.heap.size, 0, none⟩) 0 0) [] from OwnE.made (hp_new w _) (by simp) (Nat.le_refl _) 0 rfl)
    have HE := hid (H.out.alloc (.cells #[] 25))
    have he := eqn_ad ad s.length c
    have HL := hid (show ([] : List Ent).length + s.length ≤ 3298534883328 by simp; omega)
    go_enter Tryz.func69, Tryz.ntmps69
    go_wp2_with (at_builtin; refine app_ent rfl _ _ rfl w.heap.size _ _ rfl HO.out s _ rfl HE.out HL.out HB.out.size ?_; intro vA wA hoA hgA _; have HOB := hid hoA; have HBB := hid (HB.out.grown hgA HB.out.size (fun j hj => (HO.out.lt j hj).1)); clear hoA hgA)
    go_ret
    exact ⟨_, rfl, HOB.out, HBB.out⟩

/-- the first k moved -/
def mvK (d : List UInt8) (s : List Ent) (k : Nat) : List Ent := (s.take k).map (mvE d) ++ s.drop k
theorem mvK_len (d : List UInt8) (s : List Ent) (k : Nat) : (mvK d s k).length = s.length := by
  unfold mvK
  rw [List.length_append, List.length_map, ← List.length_append, List.take_append_drop]
theorem mvK_get (d : List UInt8) {s : List Ent} {k : Nat} (hk : k < s.length) : (mvK d s k).getD k zE = s.getD k zE := by
  unfold mvK
  have h1 : ((s.take k).map (mvE d)).length = k := by rw [List.length_map, List.length_take]; omega
  rw [List.getD_eq_getElem?_getD, List.getElem?_append_right (by omega), h1, Nat.sub_self, List.getElem?_drop, Nat.add_zero, List.getD_eq_getElem?_getD]
theorem mvK_step (d : List UInt8) {s : List Ent} {k : Nat} (hk : k < s.length) : (mvK d s k).set k (mvT d (s.getD k zE).1, ((mvK d s k).getD k zE).2) = mvK d s (k + 1) := by
  rw [mvK_get d hk]
  unfold mvK
  have h1 : ((s.take k).map (mvE d)).length = k := by rw [List.length_map, List.length_take]; omega
  have h2 : s.drop k = s.getD k zE :: s.drop (k + 1) := by
    rw [List.drop_eq_getElem_cons hk]
    simp [List.getD_eq_getElem?_getD, hk]
  rw [List.set_append_right _ _ (by omega), h1, Nat.sub_self, h2, List.set_cons_zero, take_snoc s k hk, List.map_append, List.append_assoc]
  rfl
theorem mvK_all (d : List UInt8) (s : List Ent) : mvK d s s.length = s.map (mvE d) := by
  unfold mvK
  rw [List.take_length, List.drop_length, List.append_nil]
theorem mvOk_all {d : List UInt8} {s : List Ent} (h : ∀ j, j < s.length → okP (mvT d (s.getD j zE).1) = true) : mvOk d s = true := by
  unfold mvOk
  rw [List.all_eq_true]
  intro e he
  obtain ⟨j, hj, rfl⟩ := List.mem_iff_getElem.1 he
  have := h j hj
  rw [List.getD_eq_getElem?_getD, List.getElem?_eq_getElem hj] at this
  exact this
theorem mvOk_bad {d : List UInt8} {s : List Ent} {k : Nat} (hk : k < s.length) (h : okP (mvT d (s.getD k zE).1) = false) : mvOk d s = false := by
  cases e : mvOk d s with
  | false => rfl
  | true =>
    have := List.all_eq_true.1 e _ (getD_mem hk)
    rw [h] at this
    cases this

/-- what moveInto answers -/
def MvA (w' : World) (base : Nat) (r : Ending) (d : List UInt8) (s : List Ent) : Prop :=
  if mvOk d s = true then ∃ v, r = .returned (.tuple #[v, .int .i64 0]) ∧ OwnE w' base v (s.map (mvE d)) else r = .returned (.tuple #[.slice none 0 0, .int .i64 44])

set_option maxRecDepth 100000 in
set_option maxHeartbeats 2000000 in
theorem moveInto_any (v : Value) (s : List Ent) (d : List UInt8) (w : World) (h : Ents w v s) (hs : Rgt s) (hd : okP d = true) :
    Calls Tryz.prog 41 #[.string (mk d), v] w fun r w' => MvA w' w.heap.size r d s ∧ Below w.heap.size w w' := by
  have HC := hid (clone_ents v s w h (by have := hs.many; omega))
  have HS := hid hs
  have HD := hid hd
  have HDS := hid (okP_short hd)
  obtain ⟨ao, c, e0⟩ := h.shape
  subst e0
  clear h hs hd
  go_enter Tryz.func41, Tryz.ntmps41
  go_wp2_with fail
  refine HC.out.mono ?_
  rintro r w1 ⟨v1, rfl, ho1, hb1⟩
  have HB1 := hid hb1
  have HO1 := hid ho1
  obtain ⟨a1, c1, e1⟩ := ho1.ents.shape
  subst e1
  clear ho1 hb1 HC
  go_wp2
  go_loopw [13] (fun i wr => ∃ k : Nat, i = .int .i64 k ∧ k ≤ s.length ∧ OwnE wr w.heap.size (.slice a1 s.length c1) (mvK d s k) ∧ Below w.heap.size w wr ∧ Hid (∀ j, j < k → okP (mvT d (s.getD j zE).1) = true)) (fun i _ => s.length - (intOf i).toNat)
  case atStart => exact ⟨0, rfl, Nat.zero_le _, by unfold mvK; rw [List.take_zero, List.map_nil, List.nil_append, List.drop_zero]; exact HO1.out, HB1.out, hid (fun j hj => by omega)⟩
  case round =>
    obtain ⟨k, rfl, hk, ho, hb, HOK⟩ := hrel
    have HO := hid ho
    have HB := hid hb
    clear hb
    by_cases hlt : k < s.length
    · have hmany := HS.out.many
      have q1 : (k : Int) < (s.length : Int) := by omega
      have q2 : ¬ (k : Int) < 0 := by omega
      have hw1 : IntKind.i64.wrap ((k : Int) + 1) = ((k + 1 : Nat) : Int) := by rw [IntKind.wrap_i64]; omega
      have hlm : k < (mvK d s k).length := by rw [mvK_len]; exact hlt
      rcases ho.forms with ⟨_, h0⟩ | ⟨g, cap, hv, hg1, hg2, hg3, _, hgf, hgc⟩
      · have h1 : (mvK d s k).length = 0 := by rw [h0]; rfl
        rw [mvK_len] at h1
        omega
      · injection hv with hv1 hv2 hv3
        clear hv2 hv3
        subst hv1
        have hat := hgc k hlm
        rw [mvK_get d hlt] at hat
        obtain ⟨c0, _, _⟩ := hat
        have hme := HS.out.may _ (getD_mem hlt)
        have HPK := hid (mayP_ok hme)
        have HPN := hid (mayP_ne hme)
        have HST := hid (mvK_step d hlt)
        have HLM := hid hlm
        have HG1 := hid hg1
        obtain ⟨p, HP⟩ : ∃ p, Hid ((s.getD k zE).1 = p) := ⟨_, rfl⟩
        rw [HP.out] at c0 HPK HPN HST
        have HJ := hid (fun W => join_any (mk d) (.slice (some ⟨wr.heap.size, 0, none⟩) 1 1) [p] W (by rw [bl_mk]; have := HDS.out; omega))
        rw [bl_mk, join_mv HD.out HPK.out HPN.out] at HJ
        have hs1 := strs_one wr (mk p)
        rw [bl_mk] at hs1
        have HS1 := hid hs1
        have HBS := hid (below_walk wr (.cells #[.string (mk p)] 9))
        clear ho hlm hg1 hg3 hgc hme hs1
        cases hok : okP (mvT d p) with
        | true =>
          rw [hok] at HJ
          have HJ2 : Hid (∀ W, Strs W (.slice (some ⟨wr.heap.size, 0, none⟩) 1 1) [p] → Calls Tryz.prog 70 #[.string (mk d), .slice (some ⟨wr.heap.size, 0, none⟩) 1 1] W fun e w' => e = .returned (.tuple #[.string (mk (mvT d p)), .int .i64 0]) ∧ Below W.heap.size W w') := hid (fun W hW => HJ.out W hW (by simp))
          have HOK2 := hid (show ∀ j, j < k + 1 → okP (mvT d (s.getD j zE).1) = true from fun j hj => by
            rcases Nat.lt_succ_iff_lt_or_eq.1 hj with h1 | h1
            · exact HOK.out j h1
            · rw [h1, HP.out]; exact hok)
          clear HJ hok HOK
          go_wp2_with fail
          refine (HJ2.out _ HS1.out).mono ?_
          rintro r w5 ⟨rfl, hb5⟩
          have HB5 := hid (below_then HBS.out hb5)
          have HO5 := hid (HO.out.below HB5.out)
          have HBW := hid (HB.out.trans (HB5.out.mono HB.out.size))
          have c5 : w5.cell? ⟨g, k * 3, none⟩ = some (.string (mk p)) := (HB5.out.cell (p := ⟨g, k * 3, none⟩) hg2).trans c0
          have f5 : w5.frozen? ⟨g, k * 3, none⟩ = false := (World.frozen?_of_block (HB5.out.block g hg2)).trans (hgf (k * 3))
          have HO6 := hid (HO5.out.setP HLM.out (mvT d p))
          rw [HST.out] at HO6
          have HB6 := hid (HBW.out.setCell (p := ⟨g, k * 3, none⟩) HG1.out (.string (mk (mvT d p))))
          clear hb5 HJ2 c0
          go_wp2
          exact ⟨⟨k + 1, by simp, by omega, HO6.out, HB6.out, HOK2⟩, by simp [intOf]; omega⟩
        | false =>
          rw [hok] at HJ
          have HJ2 : Hid (∀ W, Strs W (.slice (some ⟨wr.heap.size, 0, none⟩) 1 1) [p] → Calls Tryz.prog 70 #[.string (mk d), .slice (some ⟨wr.heap.size, 0, none⟩) 1 1] W fun e w' => e = .returned (.tuple #[.string (mk []), .int .i64 44]) ∧ Below W.heap.size W w') := hid (fun W hW => HJ.out W hW (by simp))
          have HBD := hid (mvOk_bad hlt (by rw [HP.out]; exact hok))
          clear HJ hok HOK
          go_wp2_with fail
          refine (HJ2.out _ HS1.out).mono ?_
          rintro r w5 ⟨rfl, hb5⟩
          have HB5 := hid (below_then HBS.out hb5)
          have HBW := hid (HB.out.trans (HB5.out.mono HB.out.size))
          have c5 : w5.cell? ⟨g, k * 3, none⟩ = some (.string (mk p)) := (HB5.out.cell (p := ⟨g, k * 3, none⟩) hg2).trans c0
          have f5 : w5.frozen? ⟨g, k * 3, none⟩ = false := (World.frozen?_of_block (HB5.out.block g hg2)).trans (hgf (k * 3))
          have HB6 := hid (HBW.out.setCell (p := ⟨g, k * 3, none⟩) HG1.out (.string (mk [])))
          clear hb5 HJ2 c0
          go_wp2
          go_ret2
          unfold MvA
          rw [if_neg (by rw [HBD.out]; simp)]
          exact ⟨rfl, HB6.out⟩
    · have q1 : ¬ (k : Int) < (s.length : Int) := by omega
      obtain rfl : k = s.length := by omega
      rw [mvK_all] at HO
      have HAL := hid (mvOk_all HOK.out)
      clear ho
      go_wp2
      go_ret2
      unfold MvA
      rw [if_pos HAL.out]
      exact ⟨⟨_, rfl, HO.out⟩, HB.out⟩

/-- what replaceBelow lays down for an entry -/
def rpF (d : List UInt8) (M : List Ent) (e : Ent) : List Ent := (if lyP d e.1 = true then [] else [e]) ++ (if e.1 = d then M else [])
theorem rpF_len (d : List UInt8) (M : List Ent) (t : List Ent) : (t.flatMap (rpF d M)).length ≤ t.length * (1 + M.length) := by
  induction t with
  | nil => simp
  | cons e t ih =>
    have h1 : (rpF d M e).length ≤ 1 + M.length := by
      unfold rpF
      rw [List.length_append]
      split <;> split <;> simp <;> omega
    rw [List.flatMap_cons, List.length_append, List.length_cons, Nat.add_mul]
    omega
theorem rpF_sz (d : List UInt8) (M : List Ent) (t : List Ent) : szP (t.flatMap (rpF d M)) ≤ szP t + t.length * szP M := by
  induction t with
  | nil => simp [szP]
  | cons e t ih =>
    have h1 : szP (rpF d M e) ≤ e.2.2.length + szP M := by
      unfold rpF
      rw [szP_app]
      have h2 : szP [e] = e.2.2.length := by simp [szP]
      have h3 : szP ([] : List Ent) = 0 := rfl
      split <;> split <;> omega
    have h4 : szP (e :: t) = e.2.2.length + szP t := by simp [szP]
    rw [List.flatMap_cons, szP_app, List.length_cons, Nat.add_mul]
    omega
theorem rpF_snoc (d : List UInt8) (M : List Ent) (t : List Ent) {k : Nat} (hk : k < t.length) : (t.take (k + 1)).flatMap (rpF d M) = (t.take k).flatMap (rpF d M) ++ rpF d M (t.getD k zE) := by
  rw [take_snoc t k hk, List.flatMap_append]
  simp

set_option maxRecDepth 100000 in
set_option maxHeartbeats 2000000 in
theorem replaceBelow_any (vt vm : Value) (t M : List Ent) (d : List UInt8) (w : World) (ht : Ents w vt t) (hm : Ents w vm M) (hn : t.length ≤ 1024) (hl : M.length ≤ 1024) (hd : d.length ≤ 4611686018427387904) :
    Calls Tryz.prog 42 #[vt, .string (mk d), vm] w fun r w' => ∃ v', r = .returned v' ∧ Ents w' v' (rpB d t M) ∧ Below w.heap.size w w' := by
  obtain ⟨ao, c, e0⟩ := ht.shape
  obtain ⟨am, cm, em⟩ := hm.shape
  have HET := hid ht
  have HEM := hid hm
  subst e0 em
  clear ht hm
  by_cases h0 : d = []
  · have HR := hid (show rpB d t M = M from by unfold rpB; rw [if_pos h0])
    have e1 : (mk d).toList = [] := by rw [h0]; exact bl_mk []
    have e2 : ((mk d).toList == []) = true := by rw [e1]; rfl
    clear h0
    generalize mk d = s at *
    go_enter Tryz.func42, Tryz.ntmps42
    go_wp2
    go_ret
    exact ⟨_, rfl, by rw [HR.out]; exact HEM.out, Below.refl _ _⟩
  · have HR := hid (show rpB d t M = t.flatMap (rpF d M) from by unfold rpB; rw [if_neg h0]; rfl)
    have HBF := hid (below_fn d w hd)
    have H0 := hid h0
    have e1 : ¬ (mk d).toList = [] := fun h => h0 ((bl_mk d).symm.trans h)
    have e2 : ((mk d).toList == []) = false := by simpa using e1
    have e3 : (mk d).toList.isEmpty = false := by simpa using e1
    have HDL := hid (bl_mk d)
    clear h0
    obtain ⟨S, HSD⟩ : ∃ S, Hid (mk d = S) := ⟨_, rfl⟩
    rw [HSD.out] at HBF e1 e2 e3 ⊢
    go_enter Tryz.func42, Tryz.ntmps42
    go_wp2_with (go_at_call 33; refine HBF.out.mono ?_; rintro r w4 ⟨f, rfl, hf, hb4⟩; have HB4 := hid hb4; obtain ⟨B, hfe, hBl, hBc⟩ := hf.two H0.out; subst hfe; have HBL := hid hBl; have HBC := hid hBc; clear hf hb4 hBl hBc HBF)
    have HE4 := hid (HET.out.below HB4.out)
    have HM4 := hid (HEM.out.below HB4.out)
    go_loopw [8, 18] (fun x i wr => ∃ k : Nat, i = .int .i64 k ∧ k ≤ t.length ∧ OwnE wr w4.heap.size x ((t.take k).flatMap (rpF d M)) ∧ Below w4.heap.size w4 wr) (fun _ i _ => t.length - (intOf i).toNat)
    case atStart => exact ⟨0, rfl, Nat.zero_le _, OwnE.nil _ _, Below.refl _ _⟩
    case round =>
      obtain ⟨k, rfl, hk, ho, hb⟩ := hrel
      have HO := hid ho
      have HB := hid hb
      obtain ⟨al, xl, e2⟩ := ho.ents.shape
      have hlen := rpF_len d M (t.take k)
      rw [List.length_take, Nat.min_eq_left hk] at hlen
      have hlen2 : ((t.take k).flatMap (rpF d M)).length ≤ 1100000 := by
        refine Nat.le_trans hlen (Nat.le_trans (Nat.mul_le_mul (show k ≤ 1024 by omega) (show 1 + M.length ≤ 1025 by omega)) (by decide))
      have HLL := hid hlen2
      generalize ((t.take k).flatMap (rpF d M)).length = nl at e2
      subst e2
      clear ho hb hlen hlen2
      by_cases hlt : k < t.length
      · have q1 : (k : Int) < (t.length : Int) := by omega
        have hw1 : IntKind.i64.wrap ((k : Int) + 1) = ((k + 1 : Nat) : Int) := by rw [IntKind.wrap_i64]; omega
        obtain ⟨g, o, rfl, hgl, hat⟩ := (HE4.out.below HB.out).at k hlt
        obtain ⟨e, HED⟩ : ∃ e, Hid (t.getD k zE = e) := ⟨_, rfl⟩
        rw [HED.out] at hat
        have HTK := hid (rpF_snoc d M t hlt)
        rw [HED.out] at HTK
        have HCW := hid ((HB.out.cell (p := ⟨B, 0, none⟩) HBL.out).trans HBC.out)
        have HBE := hid (HB.out.alloc HB.out.size (.cells #[.string (mk e.1), .int .i64 e.2.1, .string (mk e.2.2)] 25))
        have HOE := hid (HO.out.below (below_walk wr (.cells #[.string (mk e.1), .int .i64 e.2.1, .string (mk e.2.2)] 25)))
        have HCE := hid (((below_walk wr (.cells #[.string (mk e.1), .int .i64 e.2.1, .string (mk e.2.2)] 25)).cell (p := ⟨B, 0, none⟩) (Nat.lt_of_lt_of_le HBL.out HB.out.size)).trans HCW.out)
        obtain ⟨d0, d1, d2⟩ := hat
        have HLT := hid (fun W (hW : W.cell? ⟨B, 0, none⟩ = some (.string (mk (d ++ [47])))) => lies_two B d e.1 W hW)
        have HLY := hid (show lyP d e.1 = (d ++ [47]).isPrefixOf e.1 from by unfold lyP; rw [decide_eq_false H0.out]; rfl)
        have HEN := hid (ents_one (wr.alloc (.cells #[.string (mk e.1), .int .i64 e.2.1, .string (mk e.2.2)] 25)) e)
        rw [show (wr.alloc (.cells #[.string (mk e.1), .int .i64 e.2.1, .string (mk e.2.2)] 25)).heap.size = wr.heap.size + 1 by simp] at HEN
        have HOA := hid (HOE.out.below (below_walk (wr.alloc (.cells #[.string (mk e.1), .int .i64 e.2.1, .string (mk e.2.2)] 25)) (.cells #[.string (mk e.1), .int .i64 e.2.1, .string (mk e.2.2)] 25)))
        have HBA := hid (HBE.out.alloc HBE.out.size (.cells #[.string (mk e.1), .int .i64 e.2.1, .string (mk e.2.2)] 25))
        have HLA := hid (show ((t.take k).flatMap (rpF d M)).length + [e].length ≤ 3298534883328 by have := HLL.out; simp only [List.length_cons, List.length_nil]; omega)
        have HMA := hid (show ((t.take k).flatMap (rpF d M) ++ [e]).length + M.length ≤ 3298534883328 by have := HLL.out; rw [List.length_append]; simp only [List.length_cons, List.length_nil]; omega)
        have HEBA := hid ((Eb.new wr e).below (below_walk (wr.alloc (.cells #[.string (mk e.1), .int .i64 e.2.1, .string (mk e.2.2)] 25)) (.cells #[.string (mk e.1), .int .i64 e.2.1, .string (mk e.2.2)] 25)))
        by_cases hx : e.1 = d
        · have HF := hid (show (t.take (k + 1)).flatMap (rpF d M) = ((t.take k).flatMap (rpF d M) ++ [e]) ++ M from by
            rw [HTK.out]
            unfold rpF
            rw [hx, ly_self H0.out, if_neg (by simp), if_pos rfl, List.append_assoc])
          have HX := hid (show (d ++ [47]).isPrefixOf e.1 = false from by rw [← HLY.out, hx]; exact ly_self H0.out)
          rw [HX.out] at HLT
          have hxs : mk e.1 = S := by rw [hx]; exact HSD.out
          have e5 : (mk e.1).toList = S.toList := by rw [hxs]
          clear hx hxs
          go_wp2_with (first | (go_at_call 59; refine (HLT.out _ HCE.out).mono ?_; rintro r w5 ⟨rfl, rfl⟩) | (at_builtin; refine app_ent rfl _ _ rfl w4.heap.size _ _ rfl HOA.out [e] _ rfl HEN.out HLA.out HBA.out.size ?_; intro vA wA hoA hgA _; have HOB := hid hoA; have HBB := hid (HBA.out.grown hgA HBA.out.size (fun j hj => (HOA.out.lt j hj).1)); have HEA := hid (HEBA.out.kept hgA (fun e => by have := (HO.out.lt _ e.symm).2; omega)); have ca0 := HEA.out.at.1; obtain ⟨aA, nA, cA, eA⟩ : ∃ a n c, vA = .slice a n c := by {obtain ⟨a, c, e⟩ := hoA.ents.shape; exact ⟨a, _, c, e⟩}; subst eA; clear hoA hgA HOA) | (at_builtin; refine app_ent rfl _ _ rfl w4.heap.size _ _ rfl HOB.out M _ rfl (HM4.out.below HBB.out) HMA.out HBB.out.size ?_; intro vC wC hoC hgC _; have HOC := hid hoC; have HBC2 := hid (HBB.out.grown hgC HBB.out.size (fun j hj => (HOB.out.lt j hj).1)); obtain ⟨aC, nC, cC, eC⟩ : ∃ a n c, vC = .slice a n c := by {obtain ⟨a, c, e⟩ := hoC.ents.shape; exact ⟨a, _, c, e⟩}; subst eC; clear hoC hgC))
          exact ⟨⟨k + 1, by simp, by omega, by rw [HF.out]; exact HOC.out, HBC2.out⟩, by simp [intOf]; omega⟩
        · have e5 : ¬ (mk e.1).toList = S.toList := fun h => hx (by have h2 : bl (mk e.1) = bl S := h; rw [bl_mk, ← HSD.out, bl_mk] at h2; exact h2)
          have e6 : ((mk e.1).toList == S.toList) = false := by simpa using e5
          have e7 : ¬ mk e.1 = S := fun h => e5 (by rw [h])
          have HF := hid (show (t.take (k + 1)).flatMap (rpF d M) = (t.take k).flatMap (rpF d M) ++ (if (d ++ [47]).isPrefixOf e.1 = true then [] else [e]) from by
            rw [HTK.out]
            unfold rpF
            rw [HLY.out, if_neg hx, List.append_nil])
          have ca := (Eb.new wr e).at.1
          clear hx
          generalize (d ++ [47]).isPrefixOf e.1 = X at *
          cases X with
          | true =>
            rw [if_pos rfl, List.append_nil] at HF
            go_wp2_with (go_at_call 59; refine (HLT.out _ HCE.out).mono ?_; rintro r w5 ⟨rfl, rfl⟩)
            exact ⟨⟨k + 1, by simp, by omega, by rw [HF.out]; exact HOE.out, HBE.out⟩, by simp [intOf]; omega⟩
          | false =>
            rw [if_neg (by simp)] at HF
            go_wp2_with (first | (go_at_call 59; refine (HLT.out _ HCE.out).mono ?_; rintro r w5 ⟨rfl, rfl⟩) | (at_builtin; refine app_ent rfl _ _ rfl w4.heap.size _ _ rfl HOA.out [e] _ rfl HEN.out HLA.out HBA.out.size ?_; intro vA wA hoA hgA _; have HOB := hid hoA; have HBB := hid (HBA.out.grown hgA HBA.out.size (fun j hj => (HOA.out.lt j hj).1)); have HEA := hid (HEBA.out.kept hgA (fun e => by have := (HO.out.lt _ e.symm).2; omega)); have ca0 := HEA.out.at.1; obtain ⟨aA, nA, cA, eA⟩ : ∃ a n c, vA = .slice a n c := by {obtain ⟨a, c, e⟩ := hoA.ents.shape; exact ⟨a, _, c, e⟩}; subst eA; clear hoA hgA HOA))
            exact ⟨⟨k + 1, by simp, by omega, by rw [HF.out]; exact HOB.out, HBB.out⟩, by simp [intOf]; omega⟩
      · have q1 : ¬ (k : Int) < (t.length : Int) := by omega
        obtain rfl : k = t.length := by omega
        rw [List.take_length] at HO
        go_wp2
        go_ret
        exact ⟨_, rfl, by rw [HR.out]; exact HO.out.ents, HB4.out.trans (HB.out.mono HB4.out.size)⟩

end Go.Proofs.YteijkbanlpodpaaGreatDoor

/- The program's Remove. -/
namespace Go.Proofs.YteijkbanlpodpaaGreatDoor
open Go.RowKit Go.BigFrame

/-- what Remove leaves -/
def keepP (p : List UInt8) (e : Ent) : Bool := decide (e.1 ≠ p) && !lyP p e.1
def rmP (t : List Ent) (p : List UInt8) : Except Int (List Ent) :=
  if (chkP t).2 ≠ 0 then .error (chkP t).2 else if okP p = false then .error 45 else if thP t p = false then .error 8 else .ok (t.filter (keepP p))
theorem keep_no {p : List UInt8} {e : Ent} (h : e.1 = p) : keepP p e = false := by unfold keepP; rw [decide_eq_false (by simpa using h)]; rfl
theorem keep_is {p : List UInt8} {e : Ent} (h : e.1 ≠ p) : keepP p e = !lyP p e.1 := by unfold keepP; rw [decide_eq_true h]; rfl
theorem th_ne {t : List Ent} {p : List UInt8} (hm : ∀ e ∈ t, mayP e = true) (h : thP t p = true) : p ≠ [] := by
  unfold thP at h
  obtain ⟨e, he⟩ := Option.isSome_iff_exists.1 h
  obtain ⟨h1, h2⟩ := fdP_some he
  rw [← h2]
  exact mayP_ne (hm e h1)

set_option maxRecDepth 100000 in
set_option maxHeartbeats 4000000 in
theorem remove_any (v : Value) (t : List Ent) (p : List UInt8) (w : World) (h : Ents w v t) (hs : Short t) (hn : t.length ≤ 4611686018427387904) (hpl : p.length ≤ 4611686018427387904) :
    Calls Tryz.prog 8 #[v, .string (mk p)] w fun r w' => AnsE w' w.heap.size r (rmP t p) ∧ Below w.heap.size w w' := by
  obtain ⟨E0, HE0⟩ : ∃ E : Int, Hid ((chkP t).2 = E) := ⟨_, rfl⟩
  have HR := hid (right_one v t w h hs hn E0 HE0.out)
  have HET := hid h
  obtain ⟨ao, c, rfl⟩ := h.shape
  clear h hs
  by_cases h0 : E0 = 0
  · subst h0
    have HRT := hid (rgt_iff.1 HE0.out)
    cases hok : okP p with
    | false =>
      have HAP := hid (show rmP t p = .error 45 from by unfold rmP; rw [if_neg (by simpa using HE0.out), if_pos hok])
      have HC := hid (check_is (mk p) 45 (by rw [bl_mk]; unfold chN; rw [hok]; rfl) (by rw [bl_mk]; omega))
      clear hok
      go_enter Tryz.func8, Tryz.ntmps8
      go_wp2_with fail
      refine HR.out.mono ?_
      rintro r w1 ⟨rfl, hb1⟩
      have HB1 := hid hb1
      clear hb1 HR
      go_wp2_with (go_at_call 32; refine (HC.out _).mono ?_; rintro r w2 ⟨rfl, n2, rfl⟩)
      go_ret2
      rw [HAP.out]
      exact ⟨rfl, below_n HB1.out n2⟩
    | true =>
      have HC := hid (check_is (mk p) 0 (by rw [bl_mk]; unfold chN; rw [hok]; rfl) (by rw [bl_mk]; omega))
      have HPL := hid (fun W (hW : Below w.heap.size w W) => place_any _ t p W (HET.out.below hW) HRT.out.up (fun e he => mayP_ok (HRT.out.may e he)) hok HRT.out.many)
      have HBF := hid (fun W : World => below_fn p W hpl)
      have HOK := hid hok
      generalize plP t p = I at *
      cases hth : thP t p with
      | false =>
        have HAP := hid (show rmP t p = .error 8 from by unfold rmP; rw [if_neg (by simpa using HE0.out), if_neg (by rw [HOK.out]; simp), if_pos hth])
        rw [hth] at HPL
        clear hok hth
        go_enter Tryz.func8, Tryz.ntmps8
        go_wp2_with fail
        refine HR.out.mono ?_
        rintro r w1 ⟨rfl, hb1⟩
        have HB1 := hid hb1
        clear hb1 HR
        go_wp2_with (first | (go_at_call 32; refine (HC.out _).mono ?_; rintro r w2 ⟨rfl, n2, rfl⟩; have HB2 := hid (below_n HB1.out n2); generalize w1.drewN n2 = w2 at *) | (go_at_call 22; refine (HPL.out _ HB2.out).mono ?_; rintro r w3 ⟨rfl, hb3⟩; have HB3 := hid (below_then HB2.out hb3); clear hb3))
        go_ret2
        rw [HAP.out]
        exact ⟨rfl, HB3.out⟩
      | true =>
        have HAP := hid (show rmP t p = .ok (t.filter (keepP p)) from by unfold rmP; rw [if_neg (by simpa using HE0.out), if_neg (by rw [HOK.out]; simp), if_neg (by rw [hth]; simp)])
        have HPN := hid (th_ne HRT.out.may hth)
        rw [hth] at HPL
        clear hok hth
        go_enter Tryz.func8, Tryz.ntmps8
        go_wp2_with fail
        refine HR.out.mono ?_
        rintro r w1 ⟨rfl, hb1⟩
        have HB1 := hid hb1
        clear hb1 HR
        go_wp2_with (first | (go_at_call 32; refine (HC.out _).mono ?_; rintro r w2 ⟨rfl, n2, rfl⟩; have HB2 := hid (below_n HB1.out n2); generalize w1.drewN n2 = w2 at *) | (go_at_call 22; refine (HPL.out _ HB2.out).mono ?_; rintro r w3 ⟨rfl, hb3⟩; have HB3 := hid (below_then HB2.out hb3); clear hb3) | (go_at_call 33; refine (HBF.out _).mono ?_; rintro r w4 ⟨f, rfl, hf, hb4⟩; have HB4 := hid (below_then HB3.out hb4); have HLF := hid hf; obtain ⟨B, hfe, hBl, hBc⟩ := hf.two HPN.out; subst hfe; have HBL := hid hBl; have HBC := hid hBc; clear hf hb4 hBl hBc HBF))
        have HE4 := hid (HET.out.below HB4.out)
        clear HB1 HB2 HB3 HET HLF
        go_loopw [11, 37] (fun x i wr => ∃ k : Nat, i = .int .i64 k ∧ k ≤ t.length ∧ OwnE wr w4.heap.size x ((t.take k).filter (keepP p)) ∧ Below w4.heap.size w4 wr) (fun _ i _ => t.length - (intOf i).toNat)
        case atStart => exact ⟨0, rfl, Nat.zero_le _, OwnE.nil _ _, Below.refl _ _⟩
        case round =>
          obtain ⟨k, rfl, hk, ho, hb⟩ := hrel
          have HO := hid ho
          have HB := hid hb
          obtain ⟨al, xl, e2⟩ := ho.ents.shape
          generalize ((t.take k).filter (keepP p)).length = nl at e2
          subst e2
          clear ho hb
          by_cases hlt : k < t.length
          · have q1 : (k : Int) < (t.length : Int) := by omega
            have hw1 : IntKind.i64.wrap ((k : Int) + 1) = ((k + 1 : Nat) : Int) := by rw [IntKind.wrap_i64]; omega
            obtain ⟨g, o, rfl, hgl, hat⟩ := (HE4.out.below HB.out).at k hlt
            obtain ⟨e, HED⟩ : ∃ e, Hid (t.getD k zE = e) := ⟨_, rfl⟩
            rw [HED.out] at hat
            have HTK := hid (take_snoc t k hlt)
            rw [HED.out] at HTK
            have HCW := hid ((HB.out.cell (p := ⟨B, 0, none⟩) HBL.out).trans HBC.out)
            have HEB := hid (Eb.new wr e)
            have HBE := hid (HB.out.alloc HB.out.size (.cells #[.string (mk e.1), .int .i64 e.2.1, .string (mk e.2.2)] 25))
            have HOE := hid (HO.out.below (below_walk wr (.cells #[.string (mk e.1), .int .i64 e.2.1, .string (mk e.2.2)] 25)))
            have HCE := hid (((below_walk wr (.cells #[.string (mk e.1), .int .i64 e.2.1, .string (mk e.2.2)] 25)).cell (p := ⟨B, 0, none⟩) (Nat.lt_of_lt_of_le HBL.out HB.out.size)).trans HCW.out)
            obtain ⟨d0, d1, d2⟩ := hat
            have HLT := hid (fun W (hW : W.cell? ⟨B, 0, none⟩ = some (.string (mk (p ++ [47])))) => lies_two B p e.1 W hW)
            by_cases hx : e.1 = p
            · have e1 : (mk e.1).toList = (mk p).toList := by rw [hx]
              have HF := hid (show (t.take (k + 1)).filter (keepP p) = (t.take k).filter (keepP p) from by rw [HTK.out, List.filter_append]; simp [keep_no hx])
              clear hx
              go_wp2
              exact ⟨⟨k + 1, by simp, by omega, by rw [HF.out]; exact HOE.out, HBE.out⟩, by simp [intOf]; omega⟩
            · have e1 : ¬ (mk e.1).toList = (mk p).toList := fun h => hx ((bl_mk e.1).symm.trans (h.trans (bl_mk p)))
              have e2 : ((mk e.1).toList == (mk p).toList) = false := by simpa using e1
              have HKP := hid (show keepP p e = !((p ++ [47]).isPrefixOf e.1) from by rw [keep_is hx]; unfold lyP; rw [decide_eq_false HPN.out]; rfl)
              clear hx
              generalize (p ++ [47]).isPrefixOf e.1 = X at *
              cases X with
              | true =>
                have HF := hid (show (t.take (k + 1)).filter (keepP p) = (t.take k).filter (keepP p) from by rw [HTK.out, List.filter_append]; simp [HKP.out])
                go_wp2_with (go_at_call 59; refine (HLT.out _ HCE.out).mono ?_; rintro r w5 ⟨rfl, rfl⟩)
                exact ⟨⟨k + 1, by simp, by omega, by rw [HF.out]; exact HOE.out, HBE.out⟩, by simp [intOf]; omega⟩
              | false =>
                have HF := hid (show (t.take (k + 1)).filter (keepP p) = (t.take k).filter (keepP p) ++ [e] from by rw [HTK.out, List.filter_append]; simp [HKP.out])
                have HLA := hid (show ((t.take k).filter (keepP p)).length + [e].length ≤ 3298534883328 by have h1 := List.length_filter_le (keepP p) (t.take k); rw [List.length_take] at h1; have := HRT.out.many; simp only [List.length_cons, List.length_nil]; omega)
                have HEN := hid (ents_one (wr.alloc (.cells #[.string (mk e.1), .int .i64 e.2.1, .string (mk e.2.2)] 25)) e)
                have HOA := hid (HOE.out.below (below_walk (wr.alloc (.cells #[.string (mk e.1), .int .i64 e.2.1, .string (mk e.2.2)] 25)) (.cells #[.string (mk e.1), .int .i64 e.2.1, .string (mk e.2.2)] 25)))
                have HBA := hid (HBE.out.alloc HBE.out.size (.cells #[.string (mk e.1), .int .i64 e.2.1, .string (mk e.2.2)] 25))
                rw [show (wr.alloc (.cells #[.string (mk e.1), .int .i64 e.2.1, .string (mk e.2.2)] 25)).heap.size = wr.heap.size + 1 by simp] at HEN
                go_wp2_with (first | (go_at_call 59; refine (HLT.out _ HCE.out).mono ?_; rintro r w5 ⟨rfl, rfl⟩) | (at_builtin; refine app_ent rfl _ _ rfl w4.heap.size _ _ rfl HOA.out [e] _ rfl HEN.out HLA.out HBA.out.size ?_; intro vA wA hoA hgA _; have HOB := hid hoA; have HBB := hid (HBA.out.grown hgA HBA.out.size (fun j hj => (HOA.out.lt j hj).1)); obtain ⟨aA, nA, cA, eA⟩ : ∃ a n c, vA = .slice a n c := by {obtain ⟨a, c, e⟩ := hoA.ents.shape; exact ⟨a, _, c, e⟩}; subst eA; clear hoA hgA))
                exact ⟨⟨k + 1, by simp, by omega, by rw [HF.out]; exact HOB.out, HBB.out⟩, by simp [intOf]; omega⟩
          · have q1 : ¬ (k : Int) < (t.length : Int) := by omega
            obtain rfl : k = t.length := by omega
            rw [List.take_length] at HO
            have HOW := hid (own_any _ (t.filter (keepP p)) wr HO.out.ents (by have h1 := List.length_filter_le (keepP p) t; have := HRT.out.many; omega) (fun e he => may_shr' (HRT.out.may e (List.mem_filter.1 he).1)))
            go_wp2_with fail
            refine HOW.out.mono ?_
            rintro r w7 ⟨v7, rfl, ho7, hb7⟩
            have HB7 := hid (below_then (below_then HB4.out HB.out) hb7)
            have HO7 := hid (ho7.le (below_then HB4.out HB.out).size)
            obtain ⟨a7, n7, c7, e7⟩ : ∃ a n c, v7 = .slice a n c := by obtain ⟨a, c, e⟩ := ho7.ents.shape; exact ⟨a, _, c, e⟩
            subst e7
            clear ho7 hb7
            go_wp2
            go_ret2
            rw [HAP.out]
            exact ⟨⟨_, rfl, HO7.out⟩, HB7.out⟩
  · have HAP := hid (show rmP t p = .error E0 from by unfold rmP; rw [HE0.out, if_pos h0])
    have e1 : (E0 == 0) = false := by simpa using h0
    clear h0
    go_enter Tryz.func8, Tryz.ntmps8
    go_wp2_with fail
    refine HR.out.mono ?_
    rintro r w1 ⟨rfl, hb1⟩
    have HB1 := hid hb1
    clear hb1 HR
    go_wp2
    go_ret2
    rw [HAP.out]
    exact ⟨rfl, HB1.out⟩

end Go.Proofs.YteijkbanlpodpaaGreatDoor

/- An answer of a whole struct that lies in a variable, and a value beside it. -/
namespace Go.Proofs.YteijkbanlpodpaaGreatDoor
open Go.RowKit

theorem results_cell2 {fn : Func} {p q : Tmp} {ty : TypeId} (h : fn.results = #[.cell p ty, .tmp q]) (tmps : Array Value) (P : Program) (w : World) :
    (results fn tmps).run P w = ((asAddr (tmps.getD p undef)).run P w).andThen fun a w₁ => ((loadVar ty a).run P w₁).andThen fun v w₂ => .ok (.tuple #[v, tmps.getD q undef]) w₂ := by
  simp only [results, h]
  simp [Sem.run_bind, Result.andThen]
/-- the answer is a whole row that lies in a variable, and a number -/
theorem ret_row2 {P : Program} {fn : Func} {R : Ending → World → Prop} {a : Act} {w : World} (p q : Tmp) (ty : TypeId) (h : fn.results = #[.cell p ty, .tmp q]) (g : Nat) (hp : a.tmps.getD p undef = .pointer (some ⟨g, 0, none⟩))
    (cs : List Value) (t : TypeId) (hb : w.heap[g]? = some (.cells cs.toArray t (0, 0))) (d : TypeDesc) (hu : P.underlying ty = some d) (hd : d.isRow = true) (hi : (P.info? ty).map (·.size) = some cs.length)
    (v : Value) (hq : a.tmps.getD q undef = v) (hdf : a.defers = []) (hR : R (.returned (.tuple #[.agg cs.toArray, v])) w) : bodyPost P fn R .ret a w := by
  refine bodyPost_ret (v := .tuple #[.agg cs.toArray, v]) ?_ hdf hR
  rw [results_cell2 h, hp, hq]
  have := run_loadVar_mid (P := P) w g 0 ty cs d (fun j v hv => by rw [Nat.zero_add, cell_of_row w g j cs.toArray t (0, 0) hb]; simpa using hv) hu hd hi
  simp [asAddr, this]

end Go.Proofs.YteijkbanlpodpaaGreatDoor

/- A region in which no step can panic. -/
namespace Go.Proofs.YteijkbanlpodpaaGreatDoor
open Go.RowKit
variable {P : Program}

/-- what must be shown where no step can panic -/
def noPanic (Q : Exit → Act → World → Prop) : Exit → Act → World → Prop := fun e a w => match e with
  | .panic _ => False
  | e => Q e a w
theorem wp_noPanic {c : Code} {Q : Exit → Act → World → Prop} {a : Act} {w : World} (h : c.wp P (noPanic Q) a w) : c.wp P Q a w :=
  Code.wp_mono (fun e a w h => by
    cases e
    all_goals first | exact h | exact h.elim) h

end Go.Proofs.YteijkbanlpodpaaGreatDoor

/- The program's Find. -/
namespace Go.Proofs.YteijkbanlpodpaaGreatDoor
open Go.RowKit Go.BigFrame

/-- what stands at a path, of whatever entries -/
def fnP (t : List Ent) (p : List UInt8) : Ent := if (chkP t).2 = 0 ∧ okP p = true then stP t p else zE
theorem st_shr {t : List Ent} {p : List UInt8} (h : ∀ e ∈ t, mayP e = true) : Shr (stP t p) := by
  unfold stP
  cases hf : fdP t p with
  | none => exact ⟨by simp [zE], by simp [zE]⟩
  | some e => exact may_shr' (h e (fdP_some hf).1)
theorem ebz (w : World) : Eb (w.alloc (.cells #[.string ⟨#[]⟩, .int .i64 0, .string ⟨#[]⟩] 25)) w.heap.size zE := hp_new _ _

theorem eb_other {w : World} {g d i : Nat} {e : Ent} (h : Eb w g e) (hd : g ≠ d) (v : Value) : Eb (w.setCell ⟨d, i, none⟩ v) g e := (Below.heap_setCell w _ v g (by simpa using hd)).trans h

end Go.Proofs.YteijkbanlpodpaaGreatDoor
