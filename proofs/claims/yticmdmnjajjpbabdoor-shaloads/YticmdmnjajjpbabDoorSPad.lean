/- addNumber and Pad. -/
import Derived.Test.YticmdmnjajjpbabDoorSPure
import Derived.Laws.MakeOwn
namespace Go.Proofs.YticmdmnjajjpbabDoor
open Go.RowKit

/-- a number as 8 bytes, the greatest first -/
def be8 (n : Nat) : List UInt8 := [(n / 2 ^ 56).toUInt8, (n / 2 ^ 48).toUInt8, (n / 2 ^ 40).toUInt8, (n / 2 ^ 32).toUInt8, (n / 2 ^ 24).toUInt8, (n / 2 ^ 16).toUInt8, (n / 2 ^ 8).toUInt8, (n / 2 ^ 0).toUInt8]
theorem be8_length (n : Nat) : (be8 n).length = 8 := rfl
theorem be8_take (n k : Nat) (hk : k < 8) : (be8 n).take (k + 1) = (be8 n).take k ++ [(n / 2 ^ (56 - 8 * k)).toUInt8] := by
  match k, hk with
  | 0, _ => rfl
  | 1, _ => rfl
  | 2, _ => rfl
  | 3, _ => rfl
  | 4, _ => rfl
  | 5, _ => rfl
  | 6, _ => rfl
  | 7, _ => rfl

theorem src_one (w : World) (x : UInt8) (n : Int) (hx : n = x.toNat) : Src (w.alloc (.cells #[.int .u8 n] 5)) (.slice (some ⟨w.heap.size, 0, none⟩) 1 1) [x] := by
  subst hx
  refine ⟨by simp, Or.inr ⟨⟨w.heap.size, 0, none⟩, 1, rfl, by simp, by unfold maxLen; omega, fun _ => by simp, fun j hj => ?_⟩⟩
  obtain rfl : j = 0 := by simpa using hj
  simp [Addr.add]
theorem own_alloc {w : World} {base : Nat} {v : Value} {bs : List UInt8} (h : OwnB w base v bs) (o : Obj) : OwnB (w.alloc o) base v bs := h.below (below_walk _ _)
theorem byte_of (n : Nat) : (n.toUInt8).toNat = n % 256 := by simp

/-- while a number is laid down -/
structure Lay8 (w : World) (base : Nat) (bs : List UInt8) (n : Nat) (k : Nat) (v : Value) (wr : World) : Prop where
  own : OwnB wr base v (bs ++ (be8 n).take k)
  bel : Below base w wr
  size : base ≤ wr.heap.size

set_option maxRecDepth 100000 in
set_option maxHeartbeats 1000000 in
theorem addNumber_any (w : World) (base : Nat) (v : Value) (bs : List UInt8) (n : Nat) (ho : OwnB w base v bs) (hbase : base ≤ w.heap.size) (hl : bs.length + 8 ≤ 140737488355327) :
    Calls Tryd.prog 43 #[v, .int .u64 n] w fun e w' => ∃ v', e = .returned v' ∧ OwnB w' base v' (bs ++ be8 n) ∧ Below base w w' := by
  have HL := hid (Lay8.mk (by simpa using ho) (Below.refl _ _) hbase : Lay8 w base bs n 0 v w)
  clear ho hbase
  go_enter Tryd.func43, Tryd.ntmps43
  go_wp2
  go_loopw [0, 5] (fun v i wr => ∃ k : Nat, k ≤ 8 ∧ i = .int .i64 (56 - 8 * (k : Int)) ∧ Lay8 w base bs n k v wr) (fun _ i _ => ((intOf i) + 8).toNat)
  case atStart => exact ⟨0, by omega, rfl, HL.out⟩
  case round =>
    obtain ⟨k, hk, rfl, hL⟩ := hrel
    clear HL
    have HL := hid hL
    clear hL
    by_cases hk8 : k < 8
    · obtain ⟨s, hs⟩ : ∃ s, s = 56 - 8 * k := ⟨_, rfl⟩
      have hs2 : (56 : Int) - 8 * (k : Int) = (s : Int) := by omega
      have hs56 : s ≤ 56 := by omega
      rw [hs2]
      have HS := hid hs
      clear hs hs2
      go_wp2_with (at_builtin; refine app_src rfl _ _ rfl base _ _ rfl (own_alloc HL.out.own _) _ [(n / 2 ^ s).toUInt8] rfl (src_one _ _ _ ?c0) ?c1 ?c2 ?_)
      case c0 => rw [byte_of]; push_cast; rfl
      case c1 => simp [be8_length]; omega
      case c2 => have := HL.out.size; rw [show (_ : World).heap.size = _ from hp_size _ _]; omega
      intro v1 w1 ho1 hg1
      have hsz : base ≤ wr.heap.size + 1 := Nat.le_succ_of_le HL.out.size
      have ho2 : OwnB w1 base v1 (bs ++ (be8 n).take (k + 1)) := by
        rw [be8_take n k hk8, ← HS.out, ← List.append_assoc]
        simpa using ho1
      have HN := hid (Lay8.mk ho2 ((HL.out.bel.alloc HL.out.size _).grown hg1 (by rw [hp_size]; exact hsz) (fun q hq => (HL.out.own.lt q hq).1)) (Nat.le_trans (by rw [hp_size]; exact hsz) hg1.size) : Lay8 w base bs n (k + 1) v1 w1)
      clear ho1 hg1 HL ho2 hsz
      go_wp2
      refine ⟨⟨k + 1, by omega, ?_, HN.out⟩, by simp [intOf]; omega⟩
      have := HS.out
      congr 1
      omega
    · obtain rfl : k = 8 := by omega
      go_wp2
      go_ret
      exact ⟨_, rfl, HL.out.own, HL.out.bel⟩

theorem OwnB.setAt {w : World} {base g n cap : Nat} {bs : List UInt8} (h : OwnB w base (.slice (some ⟨g, 0, none⟩) n cap) bs) (k : Nat) (m : UInt8) :
    OwnB (w.setCell ⟨g, k, none⟩ (.int .u8 m.toNat)) base (.slice (some ⟨g, 0, none⟩) n cap) (bs.set k m) := by
  obtain ⟨h1, ⟨h2, _⟩ | ⟨g', cap', cur, hv, hb, hh, h3, h4, h5, h6⟩⟩ := h
  · simp at h2
  · simp only [Value.slice.injEq, Option.some.injEq, Addr.mk.injEq, and_true] at hv
    obtain ⟨rfl, rfl, rfl⟩ := hv
    refine ⟨by simp [bytesV], Or.inr ⟨g, cap, cur.setIfInBounds k (.int .u8 m.toNat), by simp, hb, blk_set hh _, by simpa using h3, h4, by simpa using h5, ?_⟩⟩
    rw [Array.toList_setIfInBounds, List.length_set, List.take_set, h6]
    simp [bytesV, List.map_set]

/-- make([]byte, L, C) -/
theorem make_len {w : World} {ops : Array Oper} {rest : List Oper} {o : Oper} {a : Act} {Q : Exit → Act → World → Prop} (hgd : o.guard = none) (l c : Operand) (ho : o.op = Op.makeSlice 24 l c)
    (kl kc : IntKind) (Li Ci : Int) (L C : Nat) (hl : a.eval l = .int kl Li) (hc : a.eval c = .int kc Ci) (hLi : Li = (L : Int)) (hCi : Ci = (C : Int)) (hLC : L ≤ C) (hC : C ≤ 140737488355327)
    (h : ∀ w', OwnB w' w.heap.size (.slice (some ⟨w.heap.size, 0, none⟩) L C) (List.replicate L 0) → Below w.heap.size w w' → wpList Tryd.prog ops Q rest (a.put o.dst (.slice (some ⟨w.heap.size, 0, none⟩) L C)) w') : wpList Tryd.prog ops Q (o :: rest) a w := by
  subst hLi hCi
  obtain ⟨i0, hi, hz0, hz1, hz2⟩ := info_parts Tryd.infoU8
  refine wpList_plain hgd fun K hK => ?_
  have hr := run_make (P := Tryd.prog) w 24 5 i0 (.int .u8 0) Tryd.underlying24 hi hz0 kl kc L C (by omega) (by omega) (by rw [hz2]; omega) (by omega)
  simp only [Int.toNat_natCast, hz1, Nat.mul_one] at hr
  unfold Oper.wp
  simp [execOp, ho, hl, hc, hr, Result.andThen]
  refine hK _ _ (h _ ?_ (below_walk w _))
  refine ⟨by simp [bytesV], Or.inr ⟨w.heap.size, C, madeCells (Value.int .u8 0).cells C, by simp, Nat.le_refl _, hp_new _ _, by simpa using hLC, by unfold maxLen; omega, by simp [size_madeCells], ?_⟩⟩
  simp only [List.length_replicate, Nat.mul_one]
  apply List.ext_getElem?
  intro j
  by_cases hj : j < L
  · simp [madeCells, bytesV, Value.cells, hj, show j < C by omega, Nat.mod_one]
  · simp [List.getElem?_take, hj, bytesV]

/-- how many noughts -/
def noughts (n : Nat) : Nat := (119 - n % 64) % 64
/-- the padding of n bytes -/
def padB (n : Nat) : List UInt8 := (List.replicate (1 + noughts n) 0).set 0 128 ++ be8 (8 * n)
theorem padB_length (n : Nat) : (padB n).length = 9 + noughts n := by simp [padB, be8_length]; omega
theorem padB_le (n : Nat) : (padB n).length ≤ 72 := by
  rw [padB_length]
  have : noughts n < 64 := Nat.mod_lt _ (by decide)
  omega

set_option maxRecDepth 100000 in
set_option maxHeartbeats 1000000 in
theorem pad_ok (w : World) (n : Nat) (hn : n ≤ 2305843009213693951) :
    Calls Tryd.prog 23 #[.int .u64 n] w fun e w' => ∃ v, e = .returned (.tuple #[v, .int .i64 0]) ∧ OwnB w' w.heap.size v (padB n) ∧ Below w.heap.size w w' := by
  obtain ⟨r, HR⟩ : ∃ r, Hid (r = n % 64) := ⟨_, rfl⟩
  obtain ⟨q, HQ⟩ : ∃ q, Hid (q = noughts n) := ⟨_, rfl⟩
  have hr64 : r < 64 := by rw [HR.out]; omega
  have hq64 : q < 64 := by rw [HQ.out]; exact Nat.mod_lt _ (by decide)
  have hrem : ((n : Nat) : Int).tmod 64 = (r : Int) := by rw [HR.out]; rfl
  have hrem2 : (119 - (r : Int)).tmod 64 = (q : Int) := by
    rw [show (119 - (r : Int)) = ((119 - r : Nat) : Int) by omega, HQ.out, HR.out]
    rfl
  go_enter Tryd.func23, Tryd.ntmps23
  go_wp2_with (at_make; refine make_len rfl _ _ rfl _ _ _ _ (1 + q) (9 + q) rfl rfl ?c1 ?c2 ?c3 ?c4 ?_)
  case c1 => omega
  case c2 => omega
  case c3 => omega
  case c4 => omega
  intro w1 ho1 hb1
  have HO1 := hid ho1
  have HB1 := hid hb1
  have c0 : w1.cell? ⟨w.heap.size, 0, none⟩ = some (.int .u8 0) := by
    rcases ho1.forms with ⟨h0, _⟩ | ⟨g, cap, hv, _, _, _, _, _, hc⟩
    · cases h0
    · simp only [Value.slice.injEq, Option.some.injEq, Addr.mk.injEq, and_true] at hv
      obtain ⟨rfl, _, _⟩ := hv
      have := hc 0 (by simp; omega)
      rw [show List.replicate (1 + q) (0 : UInt8) = 0 :: List.replicate q 0 by rw [Nat.add_comm]; rfl] at this
      simpa using this
  have f0 : w1.frozen? ⟨w.heap.size, 0, none⟩ = false := by
    rcases ho1.forms with ⟨h0, _⟩ | ⟨g, cap, hv, _, _, _, _, hf, _⟩
    · cases h0
    · simp only [Value.slice.injEq, Option.some.injEq, Addr.mk.injEq, and_true] at hv
      obtain ⟨rfl, _, _⟩ := hv
      exact hf 0
  clear ho1 hb1
  go_wp2_with fail
  have HO2 := hid (HO1.out.setAt 0 128)
  have HB2 := hid (HB1.out.grown (gb_set w1 ⟨w.heap.size, 0, none⟩ (.int .u8 128)) HB1.out.size (by intro k hk; cases hk; exact Nat.le_refl _))
  rw [show (8 * (n : Int)) = ((8 * n : Nat) : Int) by omega]
  refine (addNumber_any _ w.heap.size _ _ (8 * n) HO2.out HB2.out.size (by simp; omega)).mono ?_
  rintro e w2 ⟨v2, rfl, ho2, hb2⟩
  have HO3 := hid ho2
  have HB3 := hid (HB2.out.trans hb2)
  clear ho2 hb2
  go_wp2
  refine bodyPost_ret (results_tmp2 rfl _ _ _) rfl ⟨_, rfl, ?_, HB3.out⟩
  have := HO3.out
  rw [HQ.out] at this
  exact this

end Go.Proofs.YticmdmnjajjpbabDoor
