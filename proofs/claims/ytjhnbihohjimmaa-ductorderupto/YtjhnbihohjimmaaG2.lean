/- Contracts and pure facts that the proof needs, joined. -/
import Derived.Shelf.SlLaysJ
import Derived.Shelf.Bytes.SlJoin
import Derived.Ground.SlbNamesProg
import Derived.Test.YtjhnbihohjimmaaProg
import Derived.Test.YtjhnbihohjimmaaG1
import Derived.ProofKit
import Derived.OpenShut
import Derived.Deep.Slices
import Derived.SizedLaws
import Derived.JoinedCond
import Derived.LaidLaws

/- The contract of bytes.Join of the library, laid over this dump. -/
namespace Go.Proofs
open Go.Shelf
def Try.lays14_ren : Go.Shelf.Ren := ⟨fun | 14 => 20 | 15 => 39 | n => n, fun | 26 => 35 | 22 => 27 | 3 => 3 | 4 => 4 | 0 => 0 | 9 => 9 | 20 => 20 | 5 => 5 | n => n, fun | n => n⟩
theorem Try.lays14 : Go.Proofs.SlLaysJ.n14 Try.prog Try.lays14_ren := {
  mixed := by kernel_rfl
  f14 := Try.func20.trans (congrArg some (by kernel_rfl))
  f15 := Try.func39.trans (congrArg some (by kernel_rfl))
  t0 := Try.underlying0
  a0 := Try.isAgg0
  z0 := Try.sizeOf0
  v0 := Try.zeroValue0
  t3 := Try.underlying3
  a3 := Try.isAgg3
  z3 := Try.sizeOf3
  v3 := Try.zeroValue3
  t4 := Try.underlying4
  a4 := Try.isAgg4
  z4 := Try.sizeOf4
  v4 := Try.zeroValue4
  t9 := Try.underlying9
  a9 := Try.isAgg9
  z9 := Try.sizeOf9
  v9 := Try.zeroValue9
  t20 := Try.underlying20
  a20 := Try.isAgg20
  z20 := Try.sizeOf20
  v20 := Try.zeroValue20
  t22 := Try.underlying27
  a22 := Try.isAgg27
  z22 := Try.sizeOf27
  v22 := Try.zeroValue27
  t26 := Try.underlying35
  a26 := Try.isAgg35
  z26 := Try.sizeOf35
  v26 := Try.zeroValue35
  t5 := Try.underlying5
  z5 := Try.sizeOf5
  i5 := by kernel_rfl }
open Go.RowKit Go.Lib in
theorem Try.bytes_Join_many (b o n c : Nat) (vs : List Value) (ls : List (List UInt8)) (sv : Value) (sep : List UInt8) (w : World) (hn : ls.length = n) (h2 : 2 ≤ n) (hP : Lib.PartsAt w ⟨b, o, none⟩ vs ls) (hcap : n ≤ c) (hS : Lib.HoldsBytes w sv sep) (hn47 : n ≤ 140737488355328) (hlen : Lib.lens ls + sep.length * (n - 1) ≤ 140737488355328) :
    Calls Try.prog 20 #[.slice (some ⟨b, o, none⟩) n c, sv] w fun e w' => ∃ v', e = .returned v' ∧ Lib.FreshBytes w.heap.size w' v' (Lib.join ls sep) ∧ Below w.heap.size w w' := Any.bytes_Join_many Try.lays14 b o n c vs ls sv sep w hn h2 hP hcap hS hn47 hlen
end Go.Proofs

/- bytes.Join of parts with nothing between them. -/
namespace Go.Proofs.Ytjhnbihohjimmaa
open Go.RowKit

theorem join_fl (ls : List (List UInt8)) : Lib.join ls [] = fl ls := by
  match ls with
  | [] => rfl
  | x :: r =>
    rw [Lib.join_cons]
    simp [Lib.joinTail, fl]
theorem lens_fl (ls : List (List UInt8)) : Lib.lens ls = (fl ls).length := by simp [Lib.lens, fl, List.length_flatten]
theorem fresh_src {B : Nat} {w : World} {v : Value} {l : List UInt8} (h : Lib.FreshBytes B w v l) (hl : l.length ≤ 140737488355327) : Src w v l := by
  obtain ⟨g, cap, zs, rfl, _, h2, h3, h4, h5, h6, h7, _⟩ := h
  refine ⟨hl, Or.inr ⟨⟨g, 0, none⟩, cap, rfl, h2, h3, fun h0 => ?_, fun j hj => ?_⟩⟩
  · exact World.block_lt_of_cell? w ⟨g, 0, none⟩ (h7 0 (by omega))
  · rw [addr_add, h7 j (by omega)]
    have hz : j < zs.length := by omega
    have e : l[j]? = some (UInt8.ofNat (zs.getD j 0).toNat) := by
      rw [← h6]
      simp [Lib.bytesOf, hj, List.getD_eq_getElem?_getD, hz]
    have hr := h5 (zs.getD j 0) (by simp [List.getD_eq_getElem?_getD, hz])
    have e2 : l.getD j 0 = UInt8.ofNat (zs.getD j 0).toNat := by rw [List.getD_eq_getElem?_getD, e]; rfl
    rw [e2]
    congr 2
    have : (UInt8.ofNat (zs.getD j 0).toNat).toNat = (zs.getD j 0).toNat % 256 := by simp
    rw [this]
    omega
theorem src_holds {w : World} {v : Value} {l : List UInt8} (h : Src w v l) : Lib.HoldsBytes w v l := by
  obtain ⟨_, ⟨rfl, rfl⟩ | ⟨ad, cap, rfl, h1, h2, hlt, hc⟩⟩ := h
  · exact ⟨none, 0, rfl, fun _ => rfl, fun a e => by cases e⟩
  · refine ⟨some ad, cap, rfl, fun e => (by cases e), fun a e i x hx => ?_⟩
    injection e with e
    subst e
    have hi : i < l.length := (List.getElem?_eq_some_iff.1 hx).1
    rw [hc i hi, List.getD_eq_getElem?_getD, hx]
    rfl
theorem lists_parts {w : World} {g o : Nat} {pss : List (List UInt8)} (h : ∀ j, j < pss.length → ∃ u, w.cell? ⟨g, o + j, none⟩ = some u ∧ Src w u (pss.getD j [])) : ∃ vs, Lib.PartsAt w ⟨g, o, none⟩ vs pss := by
  have key : ∀ n, n ≤ pss.length → ∃ vs : List Value, vs.length = n ∧ ∀ (i : Nat) v, vs[i]? = some v → w.cell? ⟨g, o + i, none⟩ = some v ∧ Src w v (pss.getD i []) := by
    intro n
    induction n with
    | zero => exact fun _ => ⟨[], rfl, fun i v hv => by simp at hv⟩
    | succ n ih =>
      intro hn
      obtain ⟨vs, h1, h2⟩ := ih (by omega)
      obtain ⟨u, k1, k2⟩ := h n (by omega)
      refine ⟨vs ++ [u], by simp [h1], fun i v hv => ?_⟩
      by_cases hi : i < n
      · rw [List.getElem?_append_left (by omega)] at hv
        exact h2 i v hv
      · rw [List.getElem?_append_right (by omega)] at hv
        have hin : i = n := by
          have := (List.getElem?_eq_some_iff.1 hv).1
          simp at this
          omega
        subst hin
        rw [h1, Nat.sub_self] at hv
        simp at hv
        subst hv
        exact ⟨k1, k2⟩
  obtain ⟨vs, h1, h2⟩ := key pss.length (Nat.le_refl _)
  refine ⟨vs, h1, fun i v hv => by rw [at_off]; exact (h2 i v hv).1, fun i v l hv hl => ?_⟩
  have := (h2 i v hv).2
  rw [List.getD_eq_getElem?_getD, hl] at this
  exact src_holds this

set_option maxRecDepth 100000 in
set_option maxHeartbeats 1000000 in
theorem join_any (w : World) (vp : Value) (pss : List (List UInt8)) (hp : Lists w vp pss) (hc : ∀ ao n c, vp = .slice ao n c → n ≤ c) (hn : pss.length ≤ 140737488355327) (hl : (fl pss).length ≤ 140737488355327) :
    Calls Try.prog 20 #[vp, .slice none 0 0] w fun e w' => ∃ v', e = .returned v' ∧ Src w' v' (fl pss) ∧ Below w.heap.size w w' := by
  obtain ⟨ao, c, rfl⟩ := hp.shape
  match pss, hp, hc, hn, hl with
  | [], _, _, _, _ =>
    go_enter Try.func20, Try.ntmps20
    go_wp2
    go_ret
    refine ⟨_, rfl, ⟨by simp [fl], Or.inr ⟨_, 0, rfl, Nat.le_refl _, by unfold maxLen; omega, fun h => by simp [fl] at h, fun j hj => by simp [fl] at hj⟩⟩, below_walk _ _⟩
  | [x], hp, _, _, hl =>
    obtain ⟨g, o, rfl, u, c1, hs⟩ := hp.at 0 (by simp)
    have HS := hid (show Src w u x from hs)
    rw [Nat.add_zero] at c1
    rw [fl_one]
    clear hp hs hl
    go_enter Try.func20, Try.ntmps20
    go_wp2_with (at_builtin; refine app_src rfl _ _ rfl w.heap.size _ [] rfl (OwnB.nil _ _) _ x rfl HS.out (by have := HS.out.1; rw [List.length_nil]; omega) (Nat.le_refl _) ?_)
    intro v1 w1 ho1 hg1
    have HO1 := hid (show OwnB w1 w.heap.size v1 x from ho1)
    have HB1 := hid (gb_below hg1)
    clear ho1 hg1
    go_wp2
    go_ret
    exact ⟨_, rfl, HO1.out.src HS.out.1, HB1.out⟩
  | x :: y :: r, hp, hc, hn, hl =>
    rcases hp with ⟨_, _, _, h0⟩ | ⟨g, o, c', hv, _, hcell⟩
    · cases h0
    injection hv with e1 _ e2
    subst e1 e2
    obtain ⟨vs, hP⟩ := lists_parts hcell
    have h := Try.bytes_Join_many g o (x :: y :: r).length c vs (x :: y :: r) (.slice none 0 0) [] w rfl (by simp) hP (hc _ _ _ rfl) (src_holds ⟨by simp, Or.inl ⟨rfl, rfl⟩⟩) (by omega) (by rw [lens_fl]; simp only [List.length_nil, Nat.zero_mul, Nat.add_zero]; omega)
    refine h.mono ?_
    rintro e w' ⟨v', rfl, hf, hb⟩
    rw [join_fl] at hf
    exact ⟨v', rfl, fresh_src hf hl, hb⟩

end Go.Proofs.Ytjhnbihohjimmaa

/- DuctOrder. -/
namespace Go.Proofs.Ytjhnbihohjimmaa
open Go.RowKit

theorem unguard {P : Program} {ops : Array Oper} {Q : Exit → Act → World → Prop} {a : Act} {w : World} {rest : List Oper} {d : Option Tmp} {op : Op} {ty : TypeId} {pos : String} {af : Array Edge} {g : Option (Nat × Bool)}
    (hw : Region.wanted ⟨d, op, ty, pos, af, g⟩ (yielded ops a.tmps) = true) (h : wpList P ops Q (⟨d, op, ty, pos, af, none⟩ :: rest) a w) : wpList P ops Q (⟨d, op, ty, pos, af, g⟩ :: rest) a w := by
  have hn : Region.wanted ⟨d, op, ty, pos, af, none⟩ (yielded ops a.tmps) = true := by simp [Region.wanted]
  simp only [wpList] at h ⊢
  rw [if_pos hn] at h
  rw [if_pos hw]
  exact h

/-- v is a slice of n calls, of no great bulk -/
def ActsU (w : World) (v : Value) (n : Nat) : Prop :=
  (∃ ao c, v = .slice ao 0 c ∧ n = 0) ∨ ∃ g o c, v = .slice (some ⟨g, o, none⟩) n c ∧ g < w.heap.size ∧ n ≤ 1048576 ∧
    ∀ j, j < n → ∃ (k a b : Int) (ap : Option Addr) (np cp : Nat) (pss : List (List UInt8)), w.rangeAt g (o + j * 4) [.int .i64 k, .slice ap np cp, .int .i64 a, .int .i64 b] ∧ Lists w (.slice ap np cp) pss ∧ np ≤ cp ∧ pss.length ≤ 1048576 ∧ (fl pss).length ≤ 1048576
theorem ActsU.shape {w : World} {v : Value} {n : Nat} (h : ActsU w v n) : ∃ ao c, v = .slice ao n c := by
  rcases h with ⟨ao, c, rfl, rfl⟩ | ⟨g, o, c, rfl, _⟩
  · exact ⟨_, _, rfl⟩
  · exact ⟨_, _, rfl⟩
theorem ActsU.len {w : World} {v : Value} {n : Nat} (h : ActsU w v n) : n ≤ 1048576 := by
  rcases h with ⟨ao, c, _, rfl⟩ | ⟨g, o, c, _, _, h, _⟩
  · omega
  · exact h
theorem ActsU.at {w : World} {ao : Option Addr} {n c : Nat} (h : ActsU w (.slice ao n c) n) (j : Nat) (hj : j < n) :
    ∃ g o, ao = some ⟨g, o, none⟩ ∧ ∃ (k a b : Int) (ap : Option Addr) (np cp : Nat) (pss : List (List UInt8)), (∀ W, Below w.heap.size w W → W.rangeAt g (o + j * 4) [.int .i64 k, .slice ap np cp, .int .i64 a, .int .i64 b]) ∧ (∀ W, Below w.heap.size w W → Lists W (.slice ap np cp) pss) ∧ np ≤ cp ∧ pss.length ≤ 1048576 ∧ (fl pss).length ≤ 1048576 := by
  rcases h with ⟨ao, c, _, rfl⟩ | ⟨g, o, c, hv, hlt, hn, hc⟩
  · omega
  · injection hv with h1 _ _
    obtain ⟨k, a, b, ap, np, cp, pss, h2, h3, h4, h5, h6⟩ := hc j hj
    exact ⟨g, o, h1, k, a, b, ap, np, cp, pss, fun W hb i u hu => by rw [hb.cell (p := ⟨g, o + j * 4 + i, none⟩) hlt]; exact h2 i u hu, fun W hb => h3.below hb, h4, h5, h6⟩

/-- what went in, what came out, and the duct between -/
structure Ord (w wr : World) (b : Nat) (vd vi vo : Value) (room : Nat) (xs ys bs : List UInt8) (sh : Bool) : Prop where
  d : Db wr w.heap.size b vd room bs sh (xs.length : Int) (ys.length : Int) 0 0
  i : Hel wr w.heap.size vi xs
  o : Hel wr w.heap.size vo ys
  eq : xs = ys ++ bs
  ib : vi.ownBlock ≠ some b
  ob : vo.ownBlock ≠ some b
  iv : ∀ k, vi.ownBlock = some k → vd.ownBlock ≠ some k
  ov : ∀ k, vo.ownBlock = some k → vd.ownBlock ≠ some k
  io : ∀ k, vi.ownBlock = some k → vo.ownBlock ≠ some k
  bel : Below w.heap.size w wr

section
variable {w wr w' : World} {b : Nat} {vd vd' vi vo v' : Value} {room : Nat} {xs ys bs bs' cs : List UInt8} {sh sh' : Bool}
theorem Ord.below (h : Ord w wr b vd vi vo room xs ys bs sh) (hb : Below wr.heap.size wr w') : Ord w w' b vd vi vo room xs ys bs sh :=
  ⟨h.d.below hb, h.i.below hb, h.o.below hb, h.eq, h.ib, h.ob, h.iv, h.ov, h.io, h.bel.trans (hb.mono h.bel.size)⟩
theorem kept_of {a v : Value} {row : Option Nat} (hr : row = v.ownBlock) (h : ∀ k, a.ownBlock = some k → v.ownBlock ≠ some k) : a.ownBlock = none ∨ a.ownBlock ≠ row := by
  cases e : a.ownBlock with
  | none => exact Or.inl rfl
  | some q => exact Or.inr (fun e2 => h q e (by rw [← hr, ← e2]))
/-- behind a call of the duct, and an append to what went in -/
theorem Ord.wrote (h : Ord w wr b vd vi vo room xs ys bs sh) (g : Gd wr w' b vd vd') {w2 w3 : World} (hb : Below w'.heap.size w' w2) (hd : Db w' w.heap.size b vd' room (bs ++ cs) sh' ((xs ++ cs).length : Int) (ys.length : Int) 0 0)
    (hi : Hel w3 w.heap.size v' (xs ++ cs)) (hg : w2.grownBy w3 vi.ownBlock) (hl : v'.ownBlock = vi.ownBlock ∨ v'.ownBlock = some w2.heap.size) : Ord w w3 b vd' v' vo room (xs ++ cs) ys (bs ++ cs) sh' := by
  have hv : ∀ k, vi.ownBlock = some k → vd'.ownBlock ≠ some k := fun k e e2 => by
    rcases g.lies k e2 with e3 | e3
    · exact h.iv k e e3
    · have := (h.i.lt k e).2; omega
  have hov : ∀ k, vo.ownBlock = some k → vd'.ownBlock ≠ some k := fun k e e2 => by
    rcases g.lies k e2 with e3 | e3
    · exact h.ov k e e3
    · have := (h.o.lt k e).2; omega
  have hd2 := hd.below hb
  have ho2 := (h.o.gd g h.ob (fun k e => h.ov k e)).below hb
  have hn : ∀ k, v'.ownBlock = some k → vi.ownBlock = some k ∨ w2.heap.size ≤ k := lies_of hl
  have hb2 : b < w2.heap.size := hd2.lt
  refine ⟨⟨hd2.lo, (hg.block b hd2.lt (fun e => h.ib e.symm)).trans hd2.blk, hd2.own.kept hg (kept_of rfl (fun k e e2 => hv k e2 e)), hd2.ne, hd2.one, hd2.big, hd2.le, hd2.rng⟩, hi, ho2.kept hg (kept_of rfl (fun k e e2 => h.io k e2 e)), by rw [h.eq, List.append_assoc], fun e => ?_, h.ob, fun k e e2 => ?_, hov, fun k e e2 => ?_, ?_⟩
  · rcases hn b e with e | e
    · exact h.ib e
    · omega
  · rcases hn k e with e | e
    · exact hv k e e2
    · have := (hd2.own.lt k e2).2; omega
  · rcases hn k e with e | e
    · exact h.io k e e2
    · have := (ho2.lt k e2).2; omega
  · have h1 := (h.bel.trans (h.d.low g))
    exact (h1.trans (hb.mono h1.size)).grown hg (Nat.le_trans h1.size hb.size) (fun k e => (h.i.lt k e).1)
/-- behind a reading, and an append to what came out -/
theorem Ord.red (h : Ord w wr b vd vi vo room xs ys (cs ++ bs) sh) (g : Gd wr w' b vd vd') (hd : Db w' w.heap.size b vd' room bs sh (xs.length : Int) ((ys ++ cs).length : Int) 0 0) {w3 : World}
    (hi : Hel w3 w.heap.size v' (ys ++ cs)) (hg : w'.grownBy w3 vo.ownBlock) (hl : v'.ownBlock = vo.ownBlock ∨ v'.ownBlock = some w'.heap.size) : Ord w w3 b vd' vi v' room xs (ys ++ cs) bs sh := by
  have hv : ∀ k, vi.ownBlock = some k → vd'.ownBlock ≠ some k := fun k e e2 => by
    rcases g.lies k e2 with e3 | e3
    · exact h.iv k e e3
    · have := (h.i.lt k e).2; omega
  have hov : ∀ k, vo.ownBlock = some k → vd'.ownBlock ≠ some k := fun k e e2 => by
    rcases g.lies k e2 with e3 | e3
    · exact h.ov k e e3
    · have := (h.o.lt k e).2; omega
  have hi2 := h.i.gd g h.ib (fun k e => h.iv k e)
  have hn : ∀ k, v'.ownBlock = some k → vo.ownBlock = some k ∨ w'.heap.size ≤ k := lies_of hl
  have hb2 : b < w'.heap.size := hd.lt
  refine ⟨⟨hd.lo, (hg.block b hd.lt (fun e => h.ob e.symm)).trans hd.blk, hd.own.kept hg (kept_of rfl (fun k e e2 => hov k e2 e)), hd.ne, hd.one, hd.big, hd.le, hd.rng⟩, hi2.kept hg (kept_of rfl (fun k e e2 => h.io k e e2)), hi, by rw [h.eq, List.append_assoc], h.ib, fun e => ?_, hv, fun k e e2 => ?_, fun k e e2 => ?_, ?_⟩
  · rcases hn b e with e | e
    · exact h.ob e
    · omega
  · rcases hn k e with e | e
    · exact hov k e e2
    · have := (hd.own.lt k e2).2; omega
  · rcases hn k e2 with e2 | e2
    · exact h.io k e e2
    · have := (hi2.lt k e).2; omega
  · have h1 := (h.bel.trans (h.d.low g))
    exact h1.grown hg h1.size (fun k e => (h.o.lt k e).1)
/-- behind a call that leaves the bytes -/
theorem Ord.same (h : Ord w wr b vd vi vo room xs ys bs sh) (g : Gd wr w' b vd vd) (hd : Db w' w.heap.size b vd room bs sh' (xs.length : Int) (ys.length : Int) 0 0) : Ord w w' b vd vi vo room xs ys bs sh' :=
  ⟨hd, h.i.gd g h.ib h.iv, h.o.gd g h.ob h.ov, h.eq, h.ib, h.ob, h.iv, h.ov, h.io, h.bel.trans (h.d.low g)⟩
end
theorem bound_step {x j c : Nat} (h : x ≤ j * 1048576) (hc : c ≤ 1048576) : x + c ≤ (j + 1) * 1048576 := by
  rw [Nat.add_mul]
  omega
theorem addI_nat (a b : Nat) (h : a + b ≤ 1099511627776) : addI (a : Int) (b : Int) = ((a + b : Nat) : Int) := by unfold addI wrap64; omega

set_option maxRecDepth 100000 in
set_option maxHeartbeats 4000000 in
theorem lawOrder_any (w : World) (r : Int) (v : Value) (n : Nat) (hv : ActsU w v n) :
    Calls Try.prog 4 #[.int .i64 r, v] w fun e w' => e = .returned (.bool true) ∧ Below w.heap.size w w' := by
  have hn := hv.len
  obtain ⟨ao, cv, rfl⟩ := hv.shape
  have HV := hid hv
  clear hv
  by_cases hr : r < 1 ∨ 4194304 < r
  · have HR := hid hr
    rcases hr with hr | hr
    all_goals
      try have hr2 : ¬ r < 1 := by omega
      go_enter Try.func4, Try.ntmps4
      go_wp2_with fail
      refine (new_bad w r HR.out).mono ?_
      rintro e w1 ⟨rfl, hw1⟩
      subst hw1
      go_wp2_with fail
      refine (alive_any _).mono ?_
      rintro e w2 ⟨rfl, hb2⟩
      go_wp2
      go_ret
      exact ⟨rfl, hb2⟩
  obtain ⟨room, rfl⟩ : ∃ R : Nat, r = (R : Int) := ⟨r.toNat, by omega⟩
  have h1 : 1 ≤ room := by omega
  have h2 : room ≤ 4194304 := by omega
  clear hr
  go_enter Try.func4, Try.ntmps4
  go_wp2_with fail
  refine (new_ok w room h1 h2).mono ?_
  rintro e w1 ⟨rfl, hd1, hb1⟩
  have HO1 := hid (show Ord w w1 w.heap.size (.slice none 0 0) (.slice none 0 0) (.slice none 0 0) room [] [] [] false from
    ⟨hd1, Hel.nil _ _, Hel.nil _ _, rfl, (by intro e; cases e), (by intro e; cases e), (by intro k e; cases e), (by intro k e; cases e), (by intro k e; cases e), hb1⟩)
  clear hd1 hb1
  go_wp2
  go_loopw [7, 8, 36] (fun vi vo vj wr => ∃ (j : Nat) (vd : Value) (xs ys bs : List UInt8) (sh : Bool), j ≤ n ∧ vj = .int .i64 j ∧ Hid (Ord w wr w.heap.size vd vi vo room xs ys bs sh) ∧ Hid (xs.length ≤ j * 1048576)) (fun _ _ vj _ => n - (intOf vj).toNat)
  case atStart => exact ⟨0, _, [], [], [], false, by omega, rfl, HO1, by simp [Hid]⟩
  case round =>
    obtain ⟨j, vd, xs, ys, bs, sh, hj, rfl, HO, HXL⟩ := hrel
    have HXB := hid (show xs.length ≤ 1099511627776 ∧ ys.length ≤ xs.length by
      refine ⟨Nat.le_trans HXL.out (Nat.le_trans (Nat.mul_le_mul_right 1048576 (Nat.le_trans hj hn)) (by omega)), ?_⟩
      rw [HO.out.eq, List.length_append]; omega)
    obtain ⟨ai, ni, ki, HSI⟩ : ∃ ai ni ki, Hid (_ = Value.slice ai ni ki) := by obtain ⟨a, n, c, h⟩ := HO.out.i.form; exact ⟨a, n, c, hid h⟩
    obtain ⟨ap0, np0, kp0, HSO⟩ : ∃ ai ni ki, Hid (_ = Value.slice ai ni ki) := by obtain ⟨a, n, c, h⟩ := HO.out.o.form; exact ⟨a, n, c, hid h⟩
    have hsi := HSI.out
    have hso := HSO.out
    subst hsi hso
    have HNI := hid (show ni = xs.length by obtain ⟨a, c, h⟩ := HO.out.i.shape; injection h)
    have HNO := hid (show np0 = ys.length by obtain ⟨a, c, h⟩ := HO.out.o.shape; injection h)
    rw [HNI.out, HNO.out] at HO
    rw [HNI.out, HNO.out]
    clear HNI HNO HSI HSO
    by_cases hlt : j < n
    · obtain ⟨g, o, rfl, k, a, b, ap, np, cp, pss, hrg, hps, hcap, hpl, hfl⟩ := HV.out.at j hlt
      have HRG := hid (hrg _ HO.out.bel)
      have HPS := hid hps
      obtain ⟨z, s⟩ := zero_of_info (P := Try.prog) (t := 37) (v := .agg #[.int .i64 0, .slice none 0 0, .int .i64 0, .int .i64 0]) (n := 4) (by kernel_rfl)
      have HS := hid s
      have HV1 := hid (show ∀ x ∈ [Value.int .i64 k, .slice ap np cp, .int .i64 a, .int .i64 b], x.oneCell' = true by simp [Value.oneCell'])
      have HPL := hid hpl
      have HFL := hid hfl
      have HCP := hid hcap
      clear hrg hps s hpl hfl hcap
      go_upto_region 8 with (first
        | (refine wpList_load_mid rfl 37 (.tmp 38) rfl g (o + j * 4) rfl [.int .i64 k, .slice ap np cp, .int .i64 a, .int .i64 b] _ HRG.out Try.underlying37 rfl HS.out ?_)
        | (refine al_row rfl 37 rfl _ z ?_; refine st_new rfl 37 (.tmp 10) (.tmp 39) rfl [.int .i64 k, .slice ap np cp, .int .i64 a, .int .i64 b] rfl rfl _ _ HS.out rfl HV1.out ?_))
      try simp only [Act.put, List.setIfInBounds_toArray, List.set_cons_succ, List.set_cons_zero]
      have HO2 := hid (HO.out.below (below_walk wr (.cells [.int .i64 k, .slice ap np cp, .int .i64 a, .int .i64 b].toArray 37)))
      have HN2 := hid (hp_new wr (.cells [.int .i64 k, .slice ap np cp, .int .i64 a, .int .i64 b].toArray 37))
      have HXN := hid (show w.heap.size < wr.heap.size ∧ (∀ k, vd.ownBlock = some k → k < wr.heap.size) from ⟨HO.out.d.lt, fun k e => (HO.out.d.own.lt k e).2⟩)
      have d0 := row_cell HN2.out 0 (by simp)
      have d1 := row_cell HN2.out 1 (by simp)
      have d2 := row_cell HN2.out 2 (by simp)
      simp only [List.getElem_cons_zero, List.getElem_cons_succ] at d0 d1 d2
      generalize wr.alloc (.cells [.int .i64 k, .slice ap np cp, .int .i64 a, .int .i64 b].toArray 37) = w2 at HO2 HN2 d0 d1 d2 ⊢
      generalize wr.heap.size = bx at HN2 HXN d0 d1 d2 ⊢
      clear z HS HV1 HRG HO
      rcases kind8 k with hK | hK | hK | hK | hK | hK | hK | hK
      · as_aux_lemma =>
          obtain ⟨F, HF⟩ : ∃ F, Hid (F = fl pss) := ⟨_, rfl⟩
          have HFL2 := hid (show F.length ≤ 1048576 by rw [HF.out]; exact HFL.out)
          cases sh with
          | true =>
            go_wp2_with fail
            refine (write_shut HO2.out.d _).mono ?_
            rintro e w3 ⟨rfl, hw3⟩
            have h := hw3.symm
            subst h
            have HJ := hid (join_any w2 (.slice ap np cp) pss (HPS.out _ HO2.out.bel) (fun a n c e => by injection e with _ e1 e2; subst e1 e2; exact HCP.out) (by have := HPL.out; omega) (by have := HFL.out; omega))
            rw [← HF.out] at HJ
            go_wp2_with fail
            refine HJ.out.mono ?_
            rintro e w4 ⟨v4, rfl, hs4, hb4⟩
            have HO3 := hid (HO2.out.below hb4)
            obtain ⟨vx, hsx, hcx⟩ := cut_begin hs4 0 (by omega)
            obtain ⟨aF, cF, rfl⟩ := src_shape hs4
            rw [show ((0 : Nat) : Int) = 0 from rfl] at hcx
            have HSX := hid (show Src w4 vx [] from hsx)
            clear hs4 hb4 hsx HJ
            go_wp2_with (at_builtin; refine app_hel rfl _ _ rfl w.heap.size _ xs rfl HO3.out.i _ [] rfl HSX.out (by have := HXB.out.1; simp; omega) HO3.out.bel.size ?_)
            intro v5 w5 ho5 hg5 hl5
            have HO4 := hid (HO3.out.wrote (cs := []) (Gd.refl _ _ _) (Below.refl _ _) (by simpa using HO3.out.d) (by simpa using ho5) hg5 hl5)
            rw [List.append_nil, List.append_nil] at HO4
            obtain ⟨ai4, ki4, rfl⟩ := ho5.shape
            have HXL4 := hid (bound_step (c := 0) HXL.out (by omega))
            have HXB4 := hid (show xs.length ≤ 1099511627776 from HXB.out.1)
            clear ho5 hg5 hl5 HO3 HSX
            have hb1 : ¬ room < bs.length := by have := HO4.out.d.le; omega
            have HEQ := hid HO4.out.eq
            have HLL := hid (show xs.length = ys.length + bs.length by rw [HEQ.out, List.length_append])
            have hsub : IntKind.i64.wrap ((xs.length : Int) - (ys.length : Int)) = (bs.length : Int) := by have := HLL.out; have := HXB4.out; rw [IntKind.wrap_i64]; omega
            have HKP := hid (show kP (xs.length : Int) bs.length = bs.length by unfold kP; have := HLL.out; omega)
            have HL1 := hid (len_any HO4.out.d)
            go_wp2_with fail
            refine HL1.out.mono ?_
            rintro e w15 ⟨rfl, hw15⟩
            have h := hw15.symm
            subst h
            go_wp2_with fail
            refine HL1.out.mono ?_
            rintro e w15 ⟨rfl, hw15⟩
            have h := hw15.symm
            subst h
            go_wp2_with (at_builtin; refine unguard (by rfl) ?_; refine app_src rfl _ _ rfl w5.heap.size _ [] rfl (OwnB.nil _ _) _ ys rfl (HO4.out.o.src (by have := HLL.out; have := HXB4.out; omega)) (by have := HLL.out; have := HXB4.out; rw [List.length_nil]; omega) (Nat.le_refl _) ?_)
            intro v15 w15 ho15 hg15
            have HO5 := hid (show OwnB w15 w5.heap.size v15 ys from ho15)
            have HG5 := hid (gb_below hg15)
            clear ho15 hg15
            have HP6 := hid (peek_any (HO4.out.d.below HG5.out) (xs.length : Int))
            rw [HKP.out, List.take_length] at HP6
            go_wp2_with fail
            refine HP6.out.mono ?_
            rintro e w16 ⟨v16, rfl, ho16, hb16⟩
            have HS6 := hid (ho16.src (by have := HLL.out; have := HXB4.out; omega))
            have HQ6 := hid (HO5.out.below hb16)
            have HG6 := hid (HG5.out.trans (hb16.mono HG5.out.size))
            clear ho16 hb16 HP6
            go_wp2_with (at_builtin; refine unguard (by rfl) ?_; refine app_src rfl _ _ rfl w5.heap.size _ ys rfl HQ6.out _ bs rfl HS6.out (by have := HLL.out; have := HXB4.out; omega) HG6.out.size ?_)
            intro v17 w17 ho17 hg17
            have HS7 := hid (show Src w17 v17 xs from by rw [HEQ.out]; exact ho17.src (by rw [← HEQ.out]; have := HXB4.out; omega))
            have HG7 := hid (HG6.out.grown hg17 HG6.out.size (fun k e => (HQ6.out.lt k e).1))
            have HO7 := hid (HO4.out.below HG7.out)
            clear ho17 hg17
            go_wp2_with fail
            refine (bequal_true _ _ _ xs (HO7.out.i.src (by have := HXB4.out; omega)) HS7.out).mono ?_
            rintro e w18 ⟨rfl, hw18⟩
            have h := hw18.symm
            subst h
            go_wp2
            exact ⟨⟨j + 1, vd, xs, ys, bs, true, hlt, by simp, HO7, HXL4⟩, by simp [intOf]; omega⟩
          | false =>
            obtain ⟨cs, HCS⟩ : ∃ cs, Hid (cs = F.take (room - bs.length)) := ⟨_, rfl⟩
            have HCL := hid (show cs.length ≤ F.length ∧ F.take cs.length = cs by rw [HCS.out, List.length_take]; refine ⟨by omega, ?_⟩; rw [Nat.min_comm, take_minl])
            have HW := hid (write_any HO2.out.d (.slice ap np cp) pss (by have := HPL.out; omega) (fun W vd hg => HPS.out W (HO2.out.bel.trans (HO2.out.d.low hg))))
            rw [← HF.out, ← HCS.out, addI_nat _ _ (by have := HXB.out.1; have := HCL.out.1; have := HFL2.out; have := HXL.out; have := hlt; omega), ← List.length_append] at HW
            go_wp2_with fail
            refine HW.out.mono ?_
            rintro e w3 ⟨rfl, vd3, hd3, hg3⟩
            have HD3 := hid hd3
            have HG3 := hid hg3
            have HB3 := hid (HO2.out.bel.trans (HO2.out.d.low hg3))
            have d1' : w3.cell? ⟨bx, 1, none⟩ = some (.slice ap np cp) := (World.cell?_of_block (hg3.block bx (hp_lt HN2.out) (by have := HXN.out.1; omega) (fun e => by have := HXN.out.2 _ e; omega))).trans d1
            have HI3 := hid (HO2.out.i.gd hg3 HO2.out.ib HO2.out.iv)
            clear hd3 hg3 HW
            have HJ := hid (join_any w3 (.slice ap np cp) pss (HPS.out _ HB3.out) (fun a n c e => by injection e with _ e1 e2; subst e1 e2; exact HCP.out) (by have := HPL.out; omega) (by have := HFL.out; omega))
            rw [← HF.out] at HJ
            go_wp2_with fail
            refine HJ.out.mono ?_
            rintro e w4 ⟨v4, rfl, hs4, hb4⟩
            obtain ⟨vx, hsx, hcx⟩ := cut_begin hs4 cs.length HCL.out.1
            rw [HCL.out.2] at hsx
            obtain ⟨aF, cF, rfl⟩ := src_shape hs4
            have HSX := hid hsx
            have HB4 := hid hb4
            have hc1 : ¬ F.length < cs.length := by have := HCL.out.1; omega
            have HI4 := hid (HI3.out.below hb4)
            clear hs4 hb4 hsx HJ
            go_wp2_with (at_builtin; refine app_hel rfl _ _ rfl w.heap.size _ xs rfl HI4.out _ cs rfl HSX.out (by have := HXB.out.1; have := HCL.out.1; have := HFL2.out; omega) (Nat.le_trans HB3.out.size HB4.out.size) ?_)
            intro v5 w5 ho5 hg5 hl5
            have HO4 := hid (HO2.out.wrote HG3.out HB4.out HD3.out ho5 hg5 hl5)
            obtain ⟨ai4, ki4, rfl⟩ := ho5.shape
            have HXL4 := hid (show (xs ++ cs).length ≤ (j + 1) * 1048576 by rw [List.length_append]; exact bound_step HXL.out (Nat.le_trans HCL.out.1 HFL2.out))
            have HXB4 := hid (show (xs ++ cs).length ≤ 1099511627776 from Nat.le_trans HXL4.out (Nat.le_trans (Nat.mul_le_mul_right 1048576 (Nat.le_trans hlt hn)) (by omega)))
            clear ho5 hg5 hl5 HSX HI3 HI4 HG3 HD3
            generalize hxs : xs ++ cs = xs4 at HO4 HXL4 HXB4 ⊢
            generalize hbs : bs ++ cs = bs4 at HO4
            clear hxs hbs
            have hb1 : ¬ room < bs4.length := by have := HO4.out.d.le; omega
            have HEQ := hid HO4.out.eq
            have HLL := hid (show xs4.length = ys.length + bs4.length by rw [HEQ.out, List.length_append])
            have hsub : IntKind.i64.wrap ((xs4.length : Int) - (ys.length : Int)) = (bs4.length : Int) := by have := HLL.out; have := HXB4.out; rw [IntKind.wrap_i64]; omega
            have HKP := hid (show kP (xs4.length : Int) bs4.length = bs4.length by unfold kP; have := HLL.out; omega)
            have HL1 := hid (len_any HO4.out.d)
            go_wp2_with fail
            refine HL1.out.mono ?_
            rintro e w15 ⟨rfl, hw15⟩
            have h := hw15.symm
            subst h
            go_wp2_with fail
            refine HL1.out.mono ?_
            rintro e w15 ⟨rfl, hw15⟩
            have h := hw15.symm
            subst h
            go_wp2_with (at_builtin; refine unguard (by rfl) ?_; refine app_src rfl _ _ rfl w5.heap.size _ [] rfl (OwnB.nil _ _) _ ys rfl (HO4.out.o.src (by have := HLL.out; have := HXB4.out; omega)) (by have := HLL.out; have := HXB4.out; rw [List.length_nil]; omega) (Nat.le_refl _) ?_)
            intro v15 w15 ho15 hg15
            have HO5 := hid (show OwnB w15 w5.heap.size v15 ys from ho15)
            have HG5 := hid (gb_below hg15)
            clear ho15 hg15
            have HP6 := hid (peek_any (HO4.out.d.below HG5.out) (xs4.length : Int))
            rw [HKP.out, List.take_length] at HP6
            go_wp2_with fail
            refine HP6.out.mono ?_
            rintro e w16 ⟨v16, rfl, ho16, hb16⟩
            have HS6 := hid (ho16.src (by have := HLL.out; have := HXB4.out; omega))
            have HQ6 := hid (HO5.out.below hb16)
            have HG6 := hid (HG5.out.trans (hb16.mono HG5.out.size))
            clear ho16 hb16 HP6
            go_wp2_with (at_builtin; refine unguard (by rfl) ?_; refine app_src rfl _ _ rfl w5.heap.size _ ys rfl HQ6.out _ bs4 rfl HS6.out (by have := HLL.out; have := HXB4.out; omega) HG6.out.size ?_)
            intro v17 w17 ho17 hg17
            have HS7 := hid (show Src w17 v17 xs4 from by rw [HEQ.out]; exact ho17.src (by rw [← HEQ.out]; have := HXB4.out; omega))
            have HG7 := hid (HG6.out.grown hg17 HG6.out.size (fun k e => (HQ6.out.lt k e).1))
            have HO7 := hid (HO4.out.below HG7.out)
            clear ho17 hg17
            go_wp2_with fail
            refine (bequal_true _ _ _ xs4 (HO7.out.i.src (by have := HXB4.out; omega)) HS7.out).mono ?_
            rintro e w18 ⟨rfl, hw18⟩
            have h := hw18.symm
            subst h
            go_wp2
            exact ⟨⟨j + 1, vd3, xs4, ys, bs4, false, hlt, by simp, HO7, HXL4⟩, by simp [intOf]; omega⟩
      · as_aux_lemma =>
          obtain ⟨k1, HK1⟩ : ∃ k1, Hid (k1 = kP a bs.length) := ⟨_, rfl⟩
          have HR := hid (read_any HO2.out.d a)
          rw [← HK1.out] at HR
          have HBL := hid (show k1 ≤ bs.length by rw [HK1.out]; exact kP_le _ _)
          obtain ⟨cs, HCS⟩ : ∃ cs, Hid (cs = bs.take k1) := ⟨_, rfl⟩
          obtain ⟨ds, HDS⟩ : ∃ ds, Hid (ds = bs.drop k1) := ⟨_, rfl⟩
          have HCL := hid (show cs.length = k1 by rw [HCS.out, List.length_take]; have := HBL.out; omega)
          have HBS := hid (show bs = cs ++ ds by rw [HCS.out, HDS.out, List.take_append_drop])
          have HLL0 := hid (show xs.length = ys.length + bs.length by rw [HO2.out.eq, List.length_append])
          rw [← HCS.out, ← HDS.out, ← HCL.out, addI_nat _ _ (by have := HLL0.out; have := HBL.out; have := HXB.out.1; have := HCL.out; omega), ← List.length_append] at HR
          rw [HBS.out] at HO2
          go_wp2_with fail
          refine HR.out.mono ?_
          rintro e w3 ⟨v3, rfl, ho3, vd3, hd3, hg3, _⟩
          have HS3 := hid (ho3.src (by have := HLL0.out; have := HBL.out; have := HXB.out.1; have := HCL.out; omega))
          have HI3 := hid (show Hel w3 w.heap.size (.slice ap0 ys.length kp0) ys from HO2.out.o.gd hg3 HO2.out.ob HO2.out.ov)
          have HD3 := hid hd3
          have HG3 := hid hg3
          clear ho3 hd3 hg3 HR
          go_wp2_with (at_builtin; refine app_hel rfl _ _ rfl w.heap.size _ ys rfl HI3.out _ cs rfl HS3.out (by have := HLL0.out; have := HBL.out; have := HXB.out.1; have := HCL.out; omega) (Nat.le_trans HO2.out.bel.size HG3.out.size) ?_)
          intro v4 w4 ho4 hg4 hl4
          have HO4 := hid (HO2.out.red HG3.out HD3.out ho4 hg4 hl4)
          have HXL4 := hid (bound_step (c := 0) HXL.out (by omega))
          have HXB4 := hid (show xs.length ≤ 1099511627776 from HXB.out.1)
          obtain ⟨ao4, ko4, rfl⟩ := ho4.shape
          clear ho4 hg4 hl4 HI3 HS3 HD3 HG3
          generalize hys : ys ++ cs = ys4 at HO4 ⊢
          clear hys
          have hb1 : ¬ room < ds.length := by have := HO4.out.d.le; omega
          have HEQ := hid HO4.out.eq
          have HLL := hid (show xs.length = ys4.length + ds.length by rw [HEQ.out, List.length_append])
          have hsub : IntKind.i64.wrap ((xs.length : Int) - (ys4.length : Int)) = (ds.length : Int) := by have := HLL.out; have := HXB4.out; rw [IntKind.wrap_i64]; omega
          have HKP := hid (show kP (xs.length : Int) ds.length = ds.length by unfold kP; have := HLL.out; omega)
          have HL1 := hid (len_any HO4.out.d)
          go_wp2_with fail
          refine HL1.out.mono ?_
          rintro e w5 ⟨rfl, hw5⟩
          have h := hw5.symm
          subst h
          go_wp2_with fail
          refine HL1.out.mono ?_
          rintro e w5 ⟨rfl, hw5⟩
          have h := hw5.symm
          subst h
          go_wp2_with (at_builtin; refine unguard (by rfl) ?_; refine app_src rfl _ _ rfl w4.heap.size _ [] rfl (OwnB.nil _ _) _ ys4 rfl (HO4.out.o.src (by have := HLL.out; have := HXB4.out; omega)) (by have := HLL.out; have := HXB4.out; rw [List.length_nil]; omega) (Nat.le_refl _) ?_)
          intro v5 w5 ho5 hg5
          have HO5 := hid (show OwnB w5 w4.heap.size v5 ys4 from ho5)
          have HG5 := hid (gb_below hg5)
          clear ho5 hg5
          have HP6 := hid (peek_any (HO4.out.d.below HG5.out) (xs.length : Int))
          rw [HKP.out, List.take_length] at HP6
          go_wp2_with fail
          refine HP6.out.mono ?_
          rintro e w6 ⟨v6, rfl, ho6, hb6⟩
          have HS6 := hid (ho6.src (by have := HLL.out; have := HXB4.out; omega))
          have HQ6 := hid (HO5.out.below hb6)
          have HG6 := hid (HG5.out.trans (hb6.mono HG5.out.size))
          clear ho6 hb6 HP6
          go_wp2_with (at_builtin; refine unguard (by rfl) ?_; refine app_src rfl _ _ rfl w4.heap.size _ ys4 rfl HQ6.out _ ds rfl HS6.out (by have := HLL.out; have := HXB4.out; omega) HG6.out.size ?_)
          intro v7 w7 ho7 hg7
          have HS7 := hid (show Src w7 v7 xs from by rw [HEQ.out]; exact ho7.src (by rw [← HEQ.out]; have := HXB4.out; omega))
          have HG7 := hid (HG6.out.grown hg7 HG6.out.size (fun k e => (HQ6.out.lt k e).1))
          have HO7 := hid (HO4.out.below HG7.out)
          clear ho7 hg7
          go_wp2_with fail
          refine (bequal_true _ _ _ xs (HO7.out.i.src (by have := HXB4.out; omega)) HS7.out).mono ?_
          rintro e w8 ⟨rfl, hw8⟩
          have h := hw8.symm
          subst h
          go_wp2
          exact ⟨⟨j + 1, vd3, xs, ys4, ds, sh, hlt, by simp, HO7, HXL4⟩, by simp [intOf]; omega⟩
      · as_aux_lemma =>
          have HO4 := hid HO2.out
          have HXL4 := hid (bound_step (c := 0) HXL.out (by omega))
          have HXB4 := hid (show xs.length ≤ 1099511627776 from HXB.out.1)
          have hb1 : ¬ room < bs.length := by have := HO4.out.d.le; omega
          have HEQ := hid HO4.out.eq
          have HLL := hid (show xs.length = ys.length + bs.length by rw [HEQ.out, List.length_append])
          have hsub : IntKind.i64.wrap ((xs.length : Int) - (ys.length : Int)) = (bs.length : Int) := by have := HLL.out; have := HXB4.out; rw [IntKind.wrap_i64]; omega
          have HKP := hid (show kP (xs.length : Int) bs.length = bs.length by unfold kP; have := HLL.out; omega)
          have HL1 := hid (len_any HO4.out.d)
          go_wp2_with fail
          refine HL1.out.mono ?_
          rintro e w5 ⟨rfl, hw5⟩
          have h := hw5.symm
          subst h
          go_wp2_with fail
          refine HL1.out.mono ?_
          rintro e w5 ⟨rfl, hw5⟩
          have h := hw5.symm
          subst h
          go_wp2_with (at_builtin; refine unguard (by rfl) ?_; refine app_src rfl _ _ rfl w2.heap.size _ [] rfl (OwnB.nil _ _) _ ys rfl (HO4.out.o.src (by have := HLL.out; have := HXB4.out; omega)) (by have := HLL.out; have := HXB4.out; rw [List.length_nil]; omega) (Nat.le_refl _) ?_)
          intro v5 w5 ho5 hg5
          have HO5 := hid (show OwnB w5 w2.heap.size v5 ys from ho5)
          have HG5 := hid (gb_below hg5)
          clear ho5 hg5
          have HP6 := hid (peek_any (HO4.out.d.below HG5.out) (xs.length : Int))
          rw [HKP.out, List.take_length] at HP6
          go_wp2_with fail
          refine HP6.out.mono ?_
          rintro e w6 ⟨v6, rfl, ho6, hb6⟩
          have HS6 := hid (ho6.src (by have := HLL.out; have := HXB4.out; omega))
          have HQ6 := hid (HO5.out.below hb6)
          have HG6 := hid (HG5.out.trans (hb6.mono HG5.out.size))
          clear ho6 hb6 HP6
          go_wp2_with (at_builtin; refine unguard (by rfl) ?_; refine app_src rfl _ _ rfl w2.heap.size _ ys rfl HQ6.out _ bs rfl HS6.out (by have := HLL.out; have := HXB4.out; omega) HG6.out.size ?_)
          intro v7 w7 ho7 hg7
          have HS7 := hid (show Src w7 v7 xs from by rw [HEQ.out]; exact ho7.src (by rw [← HEQ.out]; have := HXB4.out; omega))
          have HG7 := hid (HG6.out.grown hg7 HG6.out.size (fun k e => (HQ6.out.lt k e).1))
          have HO7 := hid (HO4.out.below HG7.out)
          clear ho7 hg7
          go_wp2_with fail
          refine (bequal_true _ _ _ xs (HO7.out.i.src (by have := HXB4.out; omega)) HS7.out).mono ?_
          rintro e w8 ⟨rfl, hw8⟩
          have h := hw8.symm
          subst h
          go_wp2
          exact ⟨⟨j + 1, vd, xs, ys, bs, sh, hlt, by simp, HO7, HXL4⟩, by simp [intOf]; omega⟩
      · as_aux_lemma =>
          have HO4 := hid HO2.out
          have HXL4 := hid (bound_step (c := 0) HXL.out (by omega))
          have HXB4 := hid (show xs.length ≤ 1099511627776 from HXB.out.1)
          have hb1 : ¬ room < bs.length := by have := HO4.out.d.le; omega
          have HEQ := hid HO4.out.eq
          have HLL := hid (show xs.length = ys.length + bs.length by rw [HEQ.out, List.length_append])
          have hsub : IntKind.i64.wrap ((xs.length : Int) - (ys.length : Int)) = (bs.length : Int) := by have := HLL.out; have := HXB4.out; rw [IntKind.wrap_i64]; omega
          have HKP := hid (show kP (xs.length : Int) bs.length = bs.length by unfold kP; have := HLL.out; omega)
          have HL1 := hid (len_any HO4.out.d)
          go_wp2_with fail
          refine HL1.out.mono ?_
          rintro e w5 ⟨rfl, hw5⟩
          have h := hw5.symm
          subst h
          go_wp2_with fail
          refine HL1.out.mono ?_
          rintro e w5 ⟨rfl, hw5⟩
          have h := hw5.symm
          subst h
          go_wp2_with (at_builtin; refine unguard (by rfl) ?_; refine app_src rfl _ _ rfl w2.heap.size _ [] rfl (OwnB.nil _ _) _ ys rfl (HO4.out.o.src (by have := HLL.out; have := HXB4.out; omega)) (by have := HLL.out; have := HXB4.out; rw [List.length_nil]; omega) (Nat.le_refl _) ?_)
          intro v5 w5 ho5 hg5
          have HO5 := hid (show OwnB w5 w2.heap.size v5 ys from ho5)
          have HG5 := hid (gb_below hg5)
          clear ho5 hg5
          have HP6 := hid (peek_any (HO4.out.d.below HG5.out) (xs.length : Int))
          rw [HKP.out, List.take_length] at HP6
          go_wp2_with fail
          refine HP6.out.mono ?_
          rintro e w6 ⟨v6, rfl, ho6, hb6⟩
          have HS6 := hid (ho6.src (by have := HLL.out; have := HXB4.out; omega))
          have HQ6 := hid (HO5.out.below hb6)
          have HG6 := hid (HG5.out.trans (hb6.mono HG5.out.size))
          clear ho6 hb6 HP6
          go_wp2_with (at_builtin; refine unguard (by rfl) ?_; refine app_src rfl _ _ rfl w2.heap.size _ ys rfl HQ6.out _ bs rfl HS6.out (by have := HLL.out; have := HXB4.out; omega) HG6.out.size ?_)
          intro v7 w7 ho7 hg7
          have HS7 := hid (show Src w7 v7 xs from by rw [HEQ.out]; exact ho7.src (by rw [← HEQ.out]; have := HXB4.out; omega))
          have HG7 := hid (HG6.out.grown hg7 HG6.out.size (fun k e => (HQ6.out.lt k e).1))
          have HO7 := hid (HO4.out.below HG7.out)
          clear ho7 hg7
          go_wp2_with fail
          refine (bequal_true _ _ _ xs (HO7.out.i.src (by have := HXB4.out; omega)) HS7.out).mono ?_
          rintro e w8 ⟨rfl, hw8⟩
          have h := hw8.symm
          subst h
          go_wp2
          exact ⟨⟨j + 1, vd, xs, ys, bs, sh, hlt, by simp, HO7, HXL4⟩, by simp [intOf]; omega⟩
      · as_aux_lemma =>
          have HO4 := hid HO2.out
          have HXL4 := hid (bound_step (c := 0) HXL.out (by omega))
          have HXB4 := hid (show xs.length ≤ 1099511627776 from HXB.out.1)
          have hb1 : ¬ room < bs.length := by have := HO4.out.d.le; omega
          have HEQ := hid HO4.out.eq
          have HLL := hid (show xs.length = ys.length + bs.length by rw [HEQ.out, List.length_append])
          have hsub : IntKind.i64.wrap ((xs.length : Int) - (ys.length : Int)) = (bs.length : Int) := by have := HLL.out; have := HXB4.out; rw [IntKind.wrap_i64]; omega
          have HKP := hid (show kP (xs.length : Int) bs.length = bs.length by unfold kP; have := HLL.out; omega)
          have HL1 := hid (len_any HO4.out.d)
          go_wp2_with fail
          refine HL1.out.mono ?_
          rintro e w5 ⟨rfl, hw5⟩
          have h := hw5.symm
          subst h
          go_wp2_with fail
          refine HL1.out.mono ?_
          rintro e w5 ⟨rfl, hw5⟩
          have h := hw5.symm
          subst h
          go_wp2_with (at_builtin; refine unguard (by rfl) ?_; refine app_src rfl _ _ rfl w2.heap.size _ [] rfl (OwnB.nil _ _) _ ys rfl (HO4.out.o.src (by have := HLL.out; have := HXB4.out; omega)) (by have := HLL.out; have := HXB4.out; rw [List.length_nil]; omega) (Nat.le_refl _) ?_)
          intro v5 w5 ho5 hg5
          have HO5 := hid (show OwnB w5 w2.heap.size v5 ys from ho5)
          have HG5 := hid (gb_below hg5)
          clear ho5 hg5
          have HP6 := hid (peek_any (HO4.out.d.below HG5.out) (xs.length : Int))
          rw [HKP.out, List.take_length] at HP6
          go_wp2_with fail
          refine HP6.out.mono ?_
          rintro e w6 ⟨v6, rfl, ho6, hb6⟩
          have HS6 := hid (ho6.src (by have := HLL.out; have := HXB4.out; omega))
          have HQ6 := hid (HO5.out.below hb6)
          have HG6 := hid (HG5.out.trans (hb6.mono HG5.out.size))
          clear ho6 hb6 HP6
          go_wp2_with (at_builtin; refine unguard (by rfl) ?_; refine app_src rfl _ _ rfl w2.heap.size _ ys rfl HQ6.out _ bs rfl HS6.out (by have := HLL.out; have := HXB4.out; omega) HG6.out.size ?_)
          intro v7 w7 ho7 hg7
          have HS7 := hid (show Src w7 v7 xs from by rw [HEQ.out]; exact ho7.src (by rw [← HEQ.out]; have := HXB4.out; omega))
          have HG7 := hid (HG6.out.grown hg7 HG6.out.size (fun k e => (HQ6.out.lt k e).1))
          have HO7 := hid (HO4.out.below HG7.out)
          clear ho7 hg7
          go_wp2_with fail
          refine (bequal_true _ _ _ xs (HO7.out.i.src (by have := HXB4.out; omega)) HS7.out).mono ?_
          rintro e w8 ⟨rfl, hw8⟩
          have h := hw8.symm
          subst h
          go_wp2
          exact ⟨⟨j + 1, vd, xs, ys, bs, sh, hlt, by simp, HO7, HXL4⟩, by simp [intOf]; omega⟩
      · as_aux_lemma =>
          cases sh with
          | true =>
            go_wp2_with fail
            refine (shut_yes HO2.out.d).mono ?_
            rintro e w4 ⟨rfl, hw4⟩
            have h := hw4.symm
            subst h
            have HO4 := hid HO2.out
            have HXL4 := hid (bound_step (c := 0) HXL.out (by omega))
            have HXB4 := hid (show xs.length ≤ 1099511627776 from HXB.out.1)
            have hb1 : ¬ room < bs.length := by have := HO4.out.d.le; omega
            have HEQ := hid HO4.out.eq
            have HLL := hid (show xs.length = ys.length + bs.length by rw [HEQ.out, List.length_append])
            have hsub : IntKind.i64.wrap ((xs.length : Int) - (ys.length : Int)) = (bs.length : Int) := by have := HLL.out; have := HXB4.out; rw [IntKind.wrap_i64]; omega
            have HKP := hid (show kP (xs.length : Int) bs.length = bs.length by unfold kP; have := HLL.out; omega)
            have HL1 := hid (len_any HO4.out.d)
            go_wp2_with fail
            refine HL1.out.mono ?_
            rintro e w5 ⟨rfl, hw5⟩
            have h := hw5.symm
            subst h
            go_wp2_with fail
            refine HL1.out.mono ?_
            rintro e w5 ⟨rfl, hw5⟩
            have h := hw5.symm
            subst h
            go_wp2_with (at_builtin; refine unguard (by rfl) ?_; refine app_src rfl _ _ rfl w2.heap.size _ [] rfl (OwnB.nil _ _) _ ys rfl (HO4.out.o.src (by have := HLL.out; have := HXB4.out; omega)) (by have := HLL.out; have := HXB4.out; rw [List.length_nil]; omega) (Nat.le_refl _) ?_)
            intro v5 w5 ho5 hg5
            have HO5 := hid (show OwnB w5 w2.heap.size v5 ys from ho5)
            have HG5 := hid (gb_below hg5)
            clear ho5 hg5
            have HP6 := hid (peek_any (HO4.out.d.below HG5.out) (xs.length : Int))
            rw [HKP.out, List.take_length] at HP6
            go_wp2_with fail
            refine HP6.out.mono ?_
            rintro e w6 ⟨v6, rfl, ho6, hb6⟩
            have HS6 := hid (ho6.src (by have := HLL.out; have := HXB4.out; omega))
            have HQ6 := hid (HO5.out.below hb6)
            have HG6 := hid (HG5.out.trans (hb6.mono HG5.out.size))
            clear ho6 hb6 HP6
            go_wp2_with (at_builtin; refine unguard (by rfl) ?_; refine app_src rfl _ _ rfl w2.heap.size _ ys rfl HQ6.out _ bs rfl HS6.out (by have := HLL.out; have := HXB4.out; omega) HG6.out.size ?_)
            intro v7 w7 ho7 hg7
            have HS7 := hid (show Src w7 v7 xs from by rw [HEQ.out]; exact ho7.src (by rw [← HEQ.out]; have := HXB4.out; omega))
            have HG7 := hid (HG6.out.grown hg7 HG6.out.size (fun k e => (HQ6.out.lt k e).1))
            have HO7 := hid (HO4.out.below HG7.out)
            clear ho7 hg7
            go_wp2_with fail
            refine (bequal_true _ _ _ xs (HO7.out.i.src (by have := HXB4.out; omega)) HS7.out).mono ?_
            rintro e w8 ⟨rfl, hw8⟩
            have h := hw8.symm
            subst h
            go_wp2
            exact ⟨⟨j + 1, vd, xs, ys, bs, true, hlt, by simp, HO7, HXL4⟩, by simp [intOf]; omega⟩
          | false =>
            go_wp2_with fail
            refine (shut_no HO2.out.d).mono ?_
            rintro e w4 ⟨rfl, hd4, hg4⟩
            have HO4 := hid (HO2.out.same hg4 hd4)
            have HXL4 := hid (bound_step (c := 0) HXL.out (by omega))
            have HXB4 := hid (show xs.length ≤ 1099511627776 from HXB.out.1)
            clear hd4 hg4
            have hb1 : ¬ room < bs.length := by have := HO4.out.d.le; omega
            have HEQ := hid HO4.out.eq
            have HLL := hid (show xs.length = ys.length + bs.length by rw [HEQ.out, List.length_append])
            have hsub : IntKind.i64.wrap ((xs.length : Int) - (ys.length : Int)) = (bs.length : Int) := by have := HLL.out; have := HXB4.out; rw [IntKind.wrap_i64]; omega
            have HKP := hid (show kP (xs.length : Int) bs.length = bs.length by unfold kP; have := HLL.out; omega)
            have HL1 := hid (len_any HO4.out.d)
            go_wp2_with fail
            refine HL1.out.mono ?_
            rintro e w5 ⟨rfl, hw5⟩
            have h := hw5.symm
            subst h
            go_wp2_with fail
            refine HL1.out.mono ?_
            rintro e w5 ⟨rfl, hw5⟩
            have h := hw5.symm
            subst h
            go_wp2_with (at_builtin; refine unguard (by rfl) ?_; refine app_src rfl _ _ rfl w4.heap.size _ [] rfl (OwnB.nil _ _) _ ys rfl (HO4.out.o.src (by have := HLL.out; have := HXB4.out; omega)) (by have := HLL.out; have := HXB4.out; rw [List.length_nil]; omega) (Nat.le_refl _) ?_)
            intro v5 w5 ho5 hg5
            have HO5 := hid (show OwnB w5 w4.heap.size v5 ys from ho5)
            have HG5 := hid (gb_below hg5)
            clear ho5 hg5
            have HP6 := hid (peek_any (HO4.out.d.below HG5.out) (xs.length : Int))
            rw [HKP.out, List.take_length] at HP6
            go_wp2_with fail
            refine HP6.out.mono ?_
            rintro e w6 ⟨v6, rfl, ho6, hb6⟩
            have HS6 := hid (ho6.src (by have := HLL.out; have := HXB4.out; omega))
            have HQ6 := hid (HO5.out.below hb6)
            have HG6 := hid (HG5.out.trans (hb6.mono HG5.out.size))
            clear ho6 hb6 HP6
            go_wp2_with (at_builtin; refine unguard (by rfl) ?_; refine app_src rfl _ _ rfl w4.heap.size _ ys rfl HQ6.out _ bs rfl HS6.out (by have := HLL.out; have := HXB4.out; omega) HG6.out.size ?_)
            intro v7 w7 ho7 hg7
            have HS7 := hid (show Src w7 v7 xs from by rw [HEQ.out]; exact ho7.src (by rw [← HEQ.out]; have := HXB4.out; omega))
            have HG7 := hid (HG6.out.grown hg7 HG6.out.size (fun k e => (HQ6.out.lt k e).1))
            have HO7 := hid (HO4.out.below HG7.out)
            clear ho7 hg7
            go_wp2_with fail
            refine (bequal_true _ _ _ xs (HO7.out.i.src (by have := HXB4.out; omega)) HS7.out).mono ?_
            rintro e w8 ⟨rfl, hw8⟩
            have h := hw8.symm
            subst h
            go_wp2
            exact ⟨⟨j + 1, vd, xs, ys, bs, true, hlt, by simp, HO7, HXL4⟩, by simp [intOf]; omega⟩
      · as_aux_lemma =>
          have HO4 := hid HO2.out
          have HXL4 := hid (bound_step (c := 0) HXL.out (by omega))
          have HXB4 := hid (show xs.length ≤ 1099511627776 from HXB.out.1)
          have hb1 : ¬ room < bs.length := by have := HO4.out.d.le; omega
          have HEQ := hid HO4.out.eq
          have HLL := hid (show xs.length = ys.length + bs.length by rw [HEQ.out, List.length_append])
          have hsub : IntKind.i64.wrap ((xs.length : Int) - (ys.length : Int)) = (bs.length : Int) := by have := HLL.out; have := HXB4.out; rw [IntKind.wrap_i64]; omega
          have HKP := hid (show kP (xs.length : Int) bs.length = bs.length by unfold kP; have := HLL.out; omega)
          have HL1 := hid (len_any HO4.out.d)
          go_wp2_with fail
          refine HL1.out.mono ?_
          rintro e w5 ⟨rfl, hw5⟩
          have h := hw5.symm
          subst h
          go_wp2_with fail
          refine HL1.out.mono ?_
          rintro e w5 ⟨rfl, hw5⟩
          have h := hw5.symm
          subst h
          go_wp2_with (at_builtin; refine unguard (by rfl) ?_; refine app_src rfl _ _ rfl w2.heap.size _ [] rfl (OwnB.nil _ _) _ ys rfl (HO4.out.o.src (by have := HLL.out; have := HXB4.out; omega)) (by have := HLL.out; have := HXB4.out; rw [List.length_nil]; omega) (Nat.le_refl _) ?_)
          intro v5 w5 ho5 hg5
          have HO5 := hid (show OwnB w5 w2.heap.size v5 ys from ho5)
          have HG5 := hid (gb_below hg5)
          clear ho5 hg5
          have HP6 := hid (peek_any (HO4.out.d.below HG5.out) (xs.length : Int))
          rw [HKP.out, List.take_length] at HP6
          go_wp2_with fail
          refine HP6.out.mono ?_
          rintro e w6 ⟨v6, rfl, ho6, hb6⟩
          have HS6 := hid (ho6.src (by have := HLL.out; have := HXB4.out; omega))
          have HQ6 := hid (HO5.out.below hb6)
          have HG6 := hid (HG5.out.trans (hb6.mono HG5.out.size))
          clear ho6 hb6 HP6
          go_wp2_with (at_builtin; refine unguard (by rfl) ?_; refine app_src rfl _ _ rfl w2.heap.size _ ys rfl HQ6.out _ bs rfl HS6.out (by have := HLL.out; have := HXB4.out; omega) HG6.out.size ?_)
          intro v7 w7 ho7 hg7
          have HS7 := hid (show Src w7 v7 xs from by rw [HEQ.out]; exact ho7.src (by rw [← HEQ.out]; have := HXB4.out; omega))
          have HG7 := hid (HG6.out.grown hg7 HG6.out.size (fun k e => (HQ6.out.lt k e).1))
          have HO7 := hid (HO4.out.below HG7.out)
          clear ho7 hg7
          go_wp2_with fail
          refine (bequal_true _ _ _ xs (HO7.out.i.src (by have := HXB4.out; omega)) HS7.out).mono ?_
          rintro e w8 ⟨rfl, hw8⟩
          have h := hw8.symm
          subst h
          go_wp2
          exact ⟨⟨j + 1, vd, xs, ys, bs, sh, hlt, by simp, HO7, HXL4⟩, by simp [intOf]; omega⟩
      · as_aux_lemma =>
          have HO4 := hid HO2.out
          have HXL4 := hid (bound_step (c := 0) HXL.out (by omega))
          have HXB4 := hid (show xs.length ≤ 1099511627776 from HXB.out.1)
          have hb1 : ¬ room < bs.length := by have := HO4.out.d.le; omega
          have HEQ := hid HO4.out.eq
          have HLL := hid (show xs.length = ys.length + bs.length by rw [HEQ.out, List.length_append])
          have hsub : IntKind.i64.wrap ((xs.length : Int) - (ys.length : Int)) = (bs.length : Int) := by have := HLL.out; have := HXB4.out; rw [IntKind.wrap_i64]; omega
          have HKP := hid (show kP (xs.length : Int) bs.length = bs.length by unfold kP; have := HLL.out; omega)
          have HL1 := hid (len_any HO4.out.d)
          go_wp2_with fail
          refine HL1.out.mono ?_
          rintro e w5 ⟨rfl, hw5⟩
          have h := hw5.symm
          subst h
          go_wp2_with fail
          refine HL1.out.mono ?_
          rintro e w5 ⟨rfl, hw5⟩
          have h := hw5.symm
          subst h
          go_wp2_with (at_builtin; refine unguard (by rfl) ?_; refine app_src rfl _ _ rfl w2.heap.size _ [] rfl (OwnB.nil _ _) _ ys rfl (HO4.out.o.src (by have := HLL.out; have := HXB4.out; omega)) (by have := HLL.out; have := HXB4.out; rw [List.length_nil]; omega) (Nat.le_refl _) ?_)
          intro v5 w5 ho5 hg5
          have HO5 := hid (show OwnB w5 w2.heap.size v5 ys from ho5)
          have HG5 := hid (gb_below hg5)
          clear ho5 hg5
          have HP6 := hid (peek_any (HO4.out.d.below HG5.out) (xs.length : Int))
          rw [HKP.out, List.take_length] at HP6
          go_wp2_with fail
          refine HP6.out.mono ?_
          rintro e w6 ⟨v6, rfl, ho6, hb6⟩
          have HS6 := hid (ho6.src (by have := HLL.out; have := HXB4.out; omega))
          have HQ6 := hid (HO5.out.below hb6)
          have HG6 := hid (HG5.out.trans (hb6.mono HG5.out.size))
          clear ho6 hb6 HP6
          go_wp2_with (at_builtin; refine unguard (by rfl) ?_; refine app_src rfl _ _ rfl w2.heap.size _ ys rfl HQ6.out _ bs rfl HS6.out (by have := HLL.out; have := HXB4.out; omega) HG6.out.size ?_)
          intro v7 w7 ho7 hg7
          have HS7 := hid (show Src w7 v7 xs from by rw [HEQ.out]; exact ho7.src (by rw [← HEQ.out]; have := HXB4.out; omega))
          have HG7 := hid (HG6.out.grown hg7 HG6.out.size (fun k e => (HQ6.out.lt k e).1))
          have HO7 := hid (HO4.out.below HG7.out)
          clear ho7 hg7
          go_wp2_with fail
          refine (bequal_true _ _ _ xs (HO7.out.i.src (by have := HXB4.out; omega)) HS7.out).mono ?_
          rintro e w8 ⟨rfl, hw8⟩
          have h := hw8.symm
          subst h
          go_wp2
          exact ⟨⟨j + 1, vd, xs, ys, bs, sh, hlt, by simp, HO7, HXL4⟩, by simp [intOf]; omega⟩
    · have hjn : n = j := by omega
      subst hjn
      have HC := hid (count_any HO.out.d)
      go_wp2_with fail
      refine HC.out.mono ?_
      rintro e w5 ⟨rfl, hb5⟩
      have HB5 := hid (HO.out.bel.trans (hb5.mono HO.out.bel.size))
      clear hb5 HC
      go_wp2_with fail
      refine (alive_any _).mono ?_
      rintro e w6 ⟨rfl, hb6⟩
      go_wp2
      go_ret
      exact ⟨rfl, HB5.out.trans (hb6.mono HB5.out.size)⟩

end Go.Proofs.Ytjhnbihohjimmaa

/- Calls, out of their reading, by their bulk (second form). -/
namespace Go.Proofs.Ytjhnbihohjimmaa
open Go.ChangeShapes Go.WideShapes Go.ChangeAt Go.RowKit

section
variable {H : Type}
theorem bulk_pos (d : DataW H) : 1 ≤ Rows.uptoBulk d := by
  cases d with
  | lit l => cases l <;> simp [Rows.uptoBulk]
  | _ => simp [Rows.uptoBulk]
theorem bulk_mem {d : DataW H} : ∀ {l : List (DataW H)}, d ∈ l → Rows.uptoBulk d ≤ Rows.uptoBulkAll l
  | [], h => by cases h
  | x :: r, h => by
    simp only [Rows.uptoBulkAll]
    rcases List.mem_cons.1 h with rfl | h
    · omega
    · have := bulk_mem h; omega
theorem bulk_count : ∀ (l : List (DataW H)), l.length ≤ Rows.uptoBulkAll l
  | [] => by simp
  | x :: r => by
    have h1 := bulk_pos x
    have h2 := bulk_count r
    simp only [Rows.uptoBulkAll, List.length_cons]
    omega
theorem small {l : List (DataW H)} (hk : Rows.uptoSmall H l = true) : Rows.uptoBulkAll l ≤ 1048576 := of_decide_eq_true hk
theorem bulk_range (D : Nat → DataW H) (n : Nat) : Rows.uptoBulkAll ((List.range (n + 1)).map D) = Rows.uptoBulkAll ((List.range n).map D) + Rows.uptoBulk (D n) := by
  rw [List.range_succ, List.map_append]
  generalize (List.range n).map D = L
  induction L with
  | nil => simp [Rows.uptoBulkAll]
  | cons a r ih2 => simp only [List.cons_append, List.map_cons, List.map_nil, Rows.uptoBulkAll] at ih2 ⊢; omega
theorem fl_bulk {D : Nat → DataW H} : ∀ {n : Nat} {l : List (List UInt8)}, l.length = n → (∀ j x, l[j]? = some x → x.length ≤ Rows.uptoBulk (D j)) → (fl l).length ≤ Rows.uptoBulkAll ((List.range n).map D)
  | 0, l, hl, _ => by
    rw [List.length_eq_zero_iff.1 hl]; simp [fl]
  | n + 1, l, hl, h => by
    obtain ⟨m, x, rfl⟩ : ∃ m x, l = m ++ [x] := ⟨l.dropLast, l.getLast (by intro e; rw [e] at hl; simp at hl), (List.dropLast_concat_getLast _).symm⟩
    have hm : m.length = n := by simpa using hl
    have ih := fl_bulk (D := D) (n := n) (l := m) hm (fun j y hj => h j y (by
      have : j < m.length := by
        rcases Nat.lt_or_ge j m.length with h' | h'
        · exact h'
        · rw [List.getElem?_eq_none h'] at hj; cases hj
      rw [List.getElem?_append_left this]; exact hj))
    have hx := h n x (by rw [← hm]; simp)
    have e1 : (fl (m ++ [x])).length = (fl m).length + x.length := by simp [fl]
    rw [e1, bulk_range]
    omega
end

section
variable {H : Type} {enc : TypeId × Value → H} {W : World} {spare : Nat → Bool} {held : Bool}
/-- bytes out of their reading -/
theorem bytes_b {ao : Option Addr} {n c : Nat} {d : DataW H} {pl : List MemPlace} (h : DataW.Trod enc Try.prog W 0 spare held 27 (.slice ao n c) d pl) (hk : Rows.uptoBulk d ≤ 1048576) :
    ∃ bs : List UInt8, Src W (.slice ao n c) bs ∧ bs.length = n ∧ bs.length ≤ Rows.uptoBulk d := by
  have hb : ∀ elems more, d = .slice elems more → elems.length ≤ Rows.uptoBulk d := fun elems more e => by
    subst e
    have := bulk_count elems
    simp only [Rows.uptoBulk]
    omega
  obtain ⟨bs, h1, h2⟩ := bytes_full h (fun el mo e => by have := hb el mo e; omega)
  refine ⟨bs, h1, h2, ?_⟩
  obtain ⟨fuel, hf⟩ := h
  rcases Go.Deep.open_slice1 Try.underlying27 cellsU8 hf with ⟨hcs, _⟩ | ⟨a, len, cap, m, n', V, D, Pl, hcs, _, _, _, _, hx, _⟩
  · simp [Value.cells] at hcs
    rw [h2, hcs.2.1]
    exact Nat.zero_le _
  · simp [Value.cells] at hcs
    simp only [Prod.mk.injEq] at hx
    have := hb _ _ hx.1
    simp at this
    omega
/-- lists of bytes out of their reading -/
theorem lists_u {ao : Option Addr} {n c : Nat} {d : DataW H} {pl : List MemPlace} (h : DataW.Trod enc Try.prog W 0 spare held 35 (.slice ao n c) d pl) (hk : Rows.uptoBulk d ≤ 1048576) :
    ∃ pss : List (List UInt8), Lists W (.slice ao n c) pss ∧ n ≤ c ∧ pss.length ≤ 1048576 ∧ (fl pss).length ≤ 1048576 := by
  obtain ⟨fuel, hf⟩ := h
  rcases Go.Deep.open_slice1 Try.underlying35 cellsBytes hf with ⟨hcs, _⟩ | ⟨a, len, cap, m, n', V, D, Pl, hcs, _, hl, _, hmm, hx, hel⟩
  · simp [Value.cells] at hcs
    obtain ⟨rfl, rfl, rfl⟩ := hcs
    exact ⟨[], Or.inl ⟨none, 0, rfl, rfl⟩, by omega, by simp, by simp [fl]⟩
  · simp [Value.cells] at hcs
    obtain ⟨rfl, rfl, rfl⟩ := hcs
    simp only [Prod.mk.injEq] at hx
    obtain ⟨rfl, _⟩ := hx
    have hlm : n ≤ m := by rw [hmm]; split <;> omega
    have hbd : Rows.uptoBulkAll ((List.range n).map D) ≤ 1048576 := by simp only [Rows.uptoBulk] at hk; omega
    have hn : n ≤ 1048576 := by
      have := bulk_count ((List.range n).map D)
      simp at this
      omega
    have hin : ∀ i, i < n → ∃ bs : List UInt8, Src W (V i) bs ∧ bs.length ≤ Rows.uptoBulk (D i) := by
      intro i hi
      obtain ⟨h1, h2⟩ := hel i (by omega)
      have hDi : Rows.uptoBulk (D i) ≤ 1048576 := Nat.le_trans (bulk_mem (List.mem_map.2 ⟨i, List.mem_range.2 hi, rfl⟩)) hbd
      obtain ⟨ai, ni, ci, hV⟩ : ∃ ai ni ci, V i = .slice ai ni ci := by
        rcases DataW.trod_slice Try.underlying27 h2 with ⟨hc, _⟩ | ⟨a', len', cap', _, _, _, _, hc, _⟩
        · simp at hc; exact ⟨_, _, _, hc⟩
        · simp at hc; exact ⟨_, _, _, hc⟩
      rw [hV] at h2 ⊢
      obtain ⟨bs, hb, _, hbl⟩ := bytes_b (pl := Pl i) (d := D i) ⟨n', by simpa [Value.cells] using h2⟩ hDi
      exact ⟨bs, hb, hbl⟩
    obtain ⟨pss, hpl, hps⟩ := list_of hin
    have hfl : (fl pss).length ≤ 1048576 := Nat.le_trans (fl_bulk (D := D) hpl (fun j x hj => (hps j x hj).2)) hbd
    rcases Nat.eq_zero_or_pos n with rfl | hpos
    · exact ⟨[], Or.inl ⟨_, _, rfl, rfl⟩, hl, by simp, by simp [fl]⟩
    · have h0 := (hel 0 (by omega)).1
      have ha : a = ⟨a.block, a.off, none⟩ := addr_plain (v := V 0) (by simpa [Addr.add] using h0)
      have hlt : a.block < W.heap.size := World.block_lt_of_cell? W a (u := V 0) (by simpa [Addr.add] using h0)
      generalize a.block = g at ha hlt
      generalize a.off = o at ha
      subst ha
      refine ⟨pss, Or.inr ⟨g, o, c, by rw [hpl], hlt, fun j hj => ?_⟩, hl, by omega, hfl⟩
      have h1 := (hel j (by omega)).1
      rw [add_plain] at h1
      exact ⟨V j, h1, (hps j _ (by simp [List.getD_eq_getElem?_getD, List.getElem?_eq_getElem hj])).1⟩
set_option maxRecDepth 100000 in
theorem act_u {fuel : Nat} {cs : List Value} {x : DataW H × List MemPlace} (h : DataW.trod enc Try.prog W 0 spare held fuel 37 cs = some x) (hk : Rows.uptoBulk x.1 ≤ 1048576) :
    ∃ (k a b : Int) (ap : Option Addr) (np cp : Nat) (pss : List (List UInt8)), cs = [.int .i64 k, .slice ap np cp, .int .i64 a, .int .i64 b] ∧ Lists W (.slice ap np cp) pss ∧ np ≤ cp ∧ pss.length ≤ 1048576 ∧ (fl pss).length ≤ 1048576 := by
  obtain ⟨⟨d0, q0⟩, ⟨d1, q1⟩, ⟨d2, q2⟩, ⟨d3, q3⟩, m, hxx, hlen, t0, t1, t2, t3⟩ := Go.Joins.trod_struct4 Try.underlying37 h
  subst hxx
  rw [cellsAct] at hlen
  obtain ⟨x0, x1, x2, x3, rfl⟩ := four_of hlen
  obtain ⟨K, e0, _⟩ := DataW.trod_int Try.underlying3 t0
  simp [cellsInt] at e0
  obtain ⟨A, e2, _⟩ := DataW.trod_int Try.underlying3 t2
  simp [cellsInt] at e2
  obtain ⟨B, e3, _⟩ := DataW.trod_int Try.underlying3 t3
  simp [cellsInt] at e3
  subst e0 e2 e3
  obtain ⟨ai, ki, ci, hV⟩ : ∃ ai ni ci, x1 = .slice ai ni ci := by
    rcases DataW.trod_slice Try.underlying35 t1 with ⟨hc1, _⟩ | ⟨a', len', cap', _, _, _, _, hc1, _⟩
    · simp [cellsLs] at hc1; exact ⟨_, _, _, hc1⟩
    · simp [cellsLs] at hc1; exact ⟨_, _, _, hc1⟩
  subst hV
  obtain ⟨pss, h1, h2, h3, h4⟩ := lists_u (W := W) (pl := q1) (d := d1) (ao := ai) (n := ki) (c := ci) ⟨m, by simpa [Value.cells, cellsInt, cellsLs] using t1⟩ (by simp only [Rows.uptoBulk, Rows.uptoBulkAll] at hk; omega)
  exact ⟨K, A, B, ai, ki, ci, pss, rfl, h1, h2, h3, h4⟩

set_option maxRecDepth 100000 in
theorem acts_u {ao : Option Addr} {n c : Nat} {d : DataW H} {pl : List MemPlace} (h : DataW.Trod enc Try.prog W 0 spare held 22 (.slice ao n c) d pl) (hk : Rows.uptoBulk d ≤ 1048576) :
    ActsU W (.slice ao n c) n := by
  obtain ⟨fuel, hf⟩ := h
  rcases Go.Deep.open_slice Try.underlying22 hf with ⟨hcs, _⟩ | ⟨a, len, cap, m, n', D, Pl, hcs, _, hl, hm, hmm, hx, hel⟩
  · simp [Value.cells] at hcs
    obtain ⟨rfl, rfl, rfl⟩ := hcs
    exact Or.inl ⟨_, _, rfl, rfl⟩
  · simp [Value.cells] at hcs
    obtain ⟨rfl, rfl, rfl⟩ := hcs
    have hlm : n ≤ m := by rw [hmm]; split <;> omega
    rw [cellsAct] at hel
    simp only [Prod.mk.injEq] at hx
    obtain ⟨rfl, _⟩ := hx
    have hbd : Rows.uptoBulkAll ((List.range n).map D) ≤ 1048576 := by simp only [Rows.uptoBulk] at hk; omega
    have hn : n ≤ 1048576 := by
      have := bulk_count ((List.range n).map D)
      simp at this
      omega
    have hw : ∀ i, i < n → Rows.uptoBulk (D i) ≤ 1048576 := fun i hi => Nat.le_trans (bulk_mem (List.mem_map.2 ⟨i, List.mem_range.2 hi, rfl⟩)) hbd
    have hone : ∀ i, i < n → ∃ (k e b : Int) (ap : Option Addr) (np cp : Nat) (pss : List (List UInt8)), W.cell? (a.add (i * 4)) = some (.int .i64 k) ∧ W.cell? ((a.add (i * 4)).add 1) = some (.slice ap np cp) ∧ W.cell? ((a.add (i * 4)).add 2) = some (.int .i64 e) ∧ W.cell? ((a.add (i * 4)).add 3) = some (.int .i64 b) ∧ Lists W (.slice ap np cp) pss ∧ np ≤ cp ∧ pss.length ≤ 1048576 ∧ (fl pss).length ≤ 1048576 := by
      intro i hi
      obtain ⟨cs', hc, ht⟩ := hel i (by omega)
      obtain ⟨k, e, b, ap, np, cp, pss, rfl, h2⟩ := act_u ht (hw i hi)
      have hh := World.cells?_some hc
      exact ⟨k, e, b, ap, np, cp, pss, by simpa [Addr.add] using hh.2.2 0 (by omega), by simpa using hh.2.2 1 (by omega), by simpa using hh.2.2 2 (by omega), by simpa using hh.2.2 3 (by omega), h2⟩
    rcases Nat.eq_zero_or_pos n with rfl | hpos
    · exact Or.inl ⟨_, _, rfl, rfl⟩
    · obtain ⟨x, _, _, _, _, _, _, h0, _⟩ := hone 0 hpos
      have ha : a = ⟨a.block, a.off, none⟩ := addr_plain (v := .int .i64 x) (by simpa [Addr.add] using h0)
      have hlt : a.block < W.heap.size := World.block_lt_of_cell? W a (u := .int .i64 x) (by simpa [Addr.add] using h0)
      generalize a.block = g at ha hlt
      generalize a.off = o at ha
      subst ha
      refine Or.inr ⟨g, o, c, rfl, hlt, hn, fun j hj => ?_⟩
      obtain ⟨k, e, b, ap, np, cp, pss, h0, h1, h2, h3, h4, h5, h6, h7⟩ := hone j hj
      simp only [add_plain] at h0 h1 h2 h3
      refine ⟨k, e, b, ap, np, cp, pss, fun i v hv => ?_, h4, h5, h6, h7⟩
      match i, hv with
      | 0, hv => simp only [List.getElem?_cons_zero, Option.some.injEq] at hv; subst hv; exact h0
      | 1, hv => simp only [List.getElem?_cons_succ, List.getElem?_cons_zero, Option.some.injEq] at hv; subst hv; exact h1
      | 2, hv => simp only [List.getElem?_cons_succ, List.getElem?_cons_zero, Option.some.injEq] at hv; subst hv; exact h2
      | 3, hv => simp only [List.getElem?_cons_succ, List.getElem?_cons_zero, Option.some.injEq] at hv; subst hv; exact h3
      | i + 4, hv => simp at hv
end

end Go.Proofs.Ytjhnbihohjimmaa
