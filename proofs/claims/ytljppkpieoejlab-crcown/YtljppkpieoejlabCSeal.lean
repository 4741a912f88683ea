/- Bytes, Seal: the program's and the document's; bytes.Equal, slices.Equal. -/
import Derived.Test.YtljppkpieoejlabCOver
import Derived.Laws.CopyOwn
import Derived.Laws.MakeOwn
import Derived.Deep.RegionHeld3
import Derived.Deep.RegionLaw
import Derived.Deep.RegionHeldLaw
namespace Go.Proofs.Ytljppkpieoejlab
open Go.RowKit

/-- make([]byte, L, C) -/
theorem make_len {w : World} {ops : Array Oper} {rest : List Oper} {o : Oper} {a : Act} {Q : Exit → Act → World → Prop} (hgd : o.guard = none) (l c : Operand) (ho : o.op = Op.makeSlice 22 l c)
    (kl kc : IntKind) (Li Ci : Int) (L C : Nat) (hl : a.eval l = .int kl Li) (hc : a.eval c = .int kc Ci) (hLi : Li = (L : Int)) (hCi : Ci = (C : Int)) (hLC : L ≤ C) (hC : C ≤ 140737488355327)
    (h : ∀ w', OwnB w' w.heap.size (.slice (some ⟨w.heap.size, 0, none⟩) L C) (List.replicate L 0) → Below w.heap.size w w' → wpList Try.prog ops Q rest (a.put o.dst (.slice (some ⟨w.heap.size, 0, none⟩) L C)) w') : wpList Try.prog ops Q (o :: rest) a w := by
  subst hLi hCi
  obtain ⟨i0, hi, hz0, hz1, hz2⟩ := info_parts Try.infoU8
  refine wpList_plain hgd fun K hK => ?_
  have hr := run_make (P := Try.prog) w 22 5 i0 (.int .u8 0) Try.underlying22 hi hz0 kl kc L C (by omega) (by omega) (by rw [hz2]; omega) (by omega)
  simp only [Int.toNat_natCast, hz1, Nat.mul_one] at hr
  unfold Oper.wp
  simp [execOp, ho, hl, hc, hr, Result.andThen]
  refine hK _ _ (h _ ?_ (below_walk w _))
  refine ⟨by simp [bytesV], Or.inr ⟨w.heap.size, C, madeCells (Value.int .u8 0).cells C, by simp, Nat.le_refl _, hp_new _ _, by simpa using hLC, by unfold maxLen; omega, by simp [size_madeCells], ?_⟩⟩
  simp only [List.length_replicate, Nat.mul_one]
  apply List.ext_getElem?
  intro j
  by_cases hj : j < L
  · simp [madeCells, bytesV, Value.cells, hj, show j < C by omega, Nat.mod_one]
  · simp [List.getElem?_take, hj, bytesV]

theorem cut_end {w : World} {v : Value} {bs : List UInt8} (h : Src w v bs) (k : Nat) (hk : k ≤ bs.length) :
    ∃ vx, Src w vx (bs.drop k) ∧ (∀ j, vx.ownBlock = some j → v.ownBlock = some j) ∧ (∀ W, (Instr.sliceAt 22 v (some (.int .i64 (k : Int))) none none).run Try.prog W = .ok vx W) := by
  obtain ⟨hl, ⟨rfl, rfl⟩ | ⟨ad, cap, rfl, h1, h2, hlt, hc⟩⟩ := h
  · simp at hk
    subst hk
    exact ⟨.slice none 0 0, ⟨by simp, Or.inl ⟨rfl, rfl⟩⟩, fun j e => e, fun W => by go_simp⟩
  · have hlen : (bs.drop k).length = bs.length - k := by simp
    have hk2 : (k : Int) ≤ (bs.length : Int) := by omega
    refine ⟨.slice (if cap = k then some ad else some (ad.add k)) (bs.length - k) (cap - k), ⟨by omega, Or.inr ?_⟩, fun j e => ?_, fun W => ?_⟩
    · by_cases hck : cap = k
      · rw [if_pos hck]
        exact ⟨ad, cap - k, by rw [hlen], by omega, by omega, fun h => by omega, fun j hj => by omega⟩
      · rw [if_neg hck]
        refine ⟨ad.add k, cap - k, by rw [hlen], by omega, by omega, fun h => by rw [addr_block]; exact hlt (by omega), fun j hj => ?_⟩
        rw [hlen] at hj
        rw [Addr.add_add, hc (k + j) (by omega)]
        simp [List.getD_eq_getElem?_getD]
    · by_cases hck : cap = k
      · rw [if_pos hck] at e; exact e
      · rw [if_neg hck] at e
        simpa [Value.ownBlock, addr_block] using e
    · go_simp

/-- how a slice is cut at its beginning -/
theorem cut_begin {w : World} {v : Value} {bs : List UInt8} (h : Src w v bs) (k : Nat) (hk : k ≤ bs.length) :
    ∃ vx, Src w vx (bs.take k) ∧ (∀ W, (Instr.sliceAt 22 v none (some (.int .i64 (k : Int))) none).run Try.prog W = .ok vx W) := by
  obtain ⟨hl, ⟨rfl, rfl⟩ | ⟨ad, cap, rfl, h1, h2, hlt, hc⟩⟩ := h
  · simp at hk
    subst hk
    exact ⟨.slice none 0 0, ⟨by simp, Or.inl ⟨rfl, rfl⟩⟩, fun W => by go_simp⟩
  · have hlen : (bs.take k).length = k := by simp; omega
    refine ⟨.slice (some ad) k cap, ⟨by omega, Or.inr ⟨ad, cap, by rw [hlen], by omega, h2, fun h => hlt (by omega), fun j hj => ?_⟩⟩, fun W => ?_⟩
    · rw [hlen] at hj
      rw [hc j (by omega)]
      simp [List.getD_eq_getElem?_getD, hj]
    · have hk2 : (k : Int) ≤ (cap : Int) := by omega
      go_simp

/-- a number xs four bytes, the lowest first -/
def le4 (c : Nat) : List UInt8 := [c.toUInt8, (c / 256).toUInt8, (c / 65536).toUInt8, (c / 16777216).toUInt8]
theorem le4_length (c : Nat) : (le4 c).length = 4 := rfl
theorem byte_of (n : Nat) : (n.toUInt8).toNat = n % 256 := by simp
theorem le4_V (c : Nat) : bytesV (le4 c) = [.int .u8 ((c : Int) % 256), .int .u8 ((c : Int) / 256 % 256), .int .u8 ((c : Int) / 65536 % 256), .int .u8 ((c : Int) / 16777216 % 256)] := by
  have h0 : ((c % 256 : Nat) : Int) = (c : Int) % 256 := by omega
  have h1 : ((c / 256 % 256 : Nat) : Int) = (c : Int) / 256 % 256 := by omega
  have h2 : ((c / 65536 % 256 : Nat) : Int) = (c : Int) / 65536 % 256 := by omega
  have h3 : ((c / 16777216 % 256 : Nat) : Int) = (c : Int) / 16777216 % 256 := by omega
  rw [← h0, ← h1, ← h2, ← h3]
  simp only [bytesV, le4, List.map_cons, List.map_nil, byte_of]

set_option maxRecDepth 100000 in
set_option maxHeartbeats 1000000 in
theorem bytes_any (w : World) (c : Nat) :
    Calls Try.prog 6 #[.int .u32 (c : Int)] w fun e w' => e = .returned (.agg (bytesV (le4 c)).toArray) ∧ Below w.heap.size w w' := by
  have HV := hid (le4_V c)
  go_enter Try.func6, Try.ntmps6
  go_wp2
  refine ret_row 2 23 rfl w.heap.size rfl (bytesV (le4 c)) 23 ?_ _ Try.underlying23 rfl (by kernel_rfl) rfl ⟨rfl, ?_⟩
  · rw [HV.out]; exact hp_new _ _
  · exact below_walk w _

set_option maxRecDepth 100000 in
set_option maxHeartbeats 1000000 in
theorem rbytes_any (w : World) (c : Nat) :
    Calls Try.prog 8 #[.int .u32 (c : Int)] w fun e w' => e = .returned (.agg (bytesV (le4 c)).toArray) ∧ Below w.heap.size w w' := by
  have HV := hid (le4_V c)
  go_enter Try.func8, Try.ntmps8
  go_wp2
  refine ret_row 2 23 rfl w.heap.size rfl (bytesV (le4 c)) 23 ?_ _ Try.underlying23 rfl (by kernel_rfl) rfl ⟨rfl, ?_⟩
  · rw [HV.out]; exact hp_new _ _
  · exact below_walk w _

set_option maxHeartbeats 1000000 in
theorem bequal_true (w : World) (va vb : Value) (bs : List UInt8) (ha : Src w va bs) (hb : Src w vb bs) :
    Calls Try.prog 10 #[va, vb] w fun e w' => e = .returned (.bool true) ∧ w' = w := by
  have k1 := run_str ha
  have k2 := run_str hb
  clear ha hb
  go_enter Try.func10, Try.ntmps10
  go_wp2
  go_ret
  exact ⟨rfl, rfl⟩

theorem drewN_two (w : World) (a b : Nat) : (w.drewN a).drewN b = w.drewN (a + b) := by simp [World.drewN, Nat.add_assoc]
theorem take_eq_succ {xs bs : List UInt8} {k : Nat} (hl : xs.length = bs.length) (hk : k < xs.length) (h : xs.take k = bs.take k) (e : xs.getD k 0 = bs.getD k 0) : xs.take (k + 1) = bs.take (k + 1) := by
  rw [List.take_succ_eq_append_getElem hk, List.take_succ_eq_append_getElem (by omega), h]
  simp only [List.getD_eq_getElem?_getD, List.getElem?_eq_getElem hk, List.getElem?_eq_getElem (show k < bs.length by omega), Option.getD_some] at e
  rw [e]

set_option maxRecDepth 100000 in
set_option maxHeartbeats 1000000 in
theorem sequal_any (w : World) (va vb : Value) (xs bs : List UInt8) (ha : Src w va xs) (hb : Src w vb bs) :
    Calls Try.prog 19 #[va, vb] w fun e w' => e = .returned (.bool (decide (xs = bs))) ∧ ∃ k, w' = w.drewN k := by
  obtain ⟨aa, ca, rfl⟩ := src_shape ha
  obtain ⟨ab, cb, rfl⟩ := src_shape hb
  have hl := ha.1
  have hl2 := hb.1
  have HA := hid ha
  have HB := hid hb
  clear ha hb
  by_cases hlen : xs.length = bs.length
  · have HL := hid hlen
    have hle : (xs.length : Int) = (bs.length : Int) := by omega
    have hne : (((xs.length : Nat) : Int) != ((bs.length : Nat) : Int)) = false := by rw [hlen]; simp
    clear hlen
    have HLE := hid hle
    clear hle
    go_enter Try.func19, Try.ntmps19
    go_wp2
    go_loopw [13] (fun i wr => ∃ k q : Nat, k ≤ xs.length ∧ i = .int .i64 k ∧ wr = w.drewN q ∧ Hid (xs.take k = bs.take k)) (fun i _ => xs.length - (intOf i).toNat)
    case atStart => exact ⟨0, 0, by omega, rfl, rfl, rfl⟩
    case round =>
      obtain ⟨k, q, hk, rfl, rfl, HT⟩ := hrel
      clear hne
      by_cases hlt : k < xs.length
      · obtain ⟨ad, rfl, c1⟩ := src_at HA.out k hlt
        obtain ⟨bd, rfl, c2⟩ := src_at HB.out k (by have := HL.out; omega)
        have hlt2 : (k : Int) < (bs.length : Int) := by have := HLE.out; omega
        obtain ⟨x, HX⟩ : ∃ x : UInt8, Hid (x = xs.getD k 0) := ⟨_, rfl⟩
        obtain ⟨y, HY⟩ : ∃ y : UInt8, Hid (y = bs.getD k 0) := ⟨_, rfl⟩
        rw [← HX.out] at c1
        rw [← HY.out] at c2
        by_cases hxy : x = y
        · subst hxy
          have HN := hid (take_eq_succ HL.out hlt HT.out (by rw [← HX.out, ← HY.out]))
          go_wp2
          go_quiet (fail)
          go_wp2
          exact ⟨⟨k + 1, _, by omega, by simp, rfl, HN⟩, by simp [intOf]; omega⟩
        · have hd : ((((x.toNat : Nat) : Int)) != ((y.toNat : Nat) : Int)) = true := by
            simp only [bne_iff_ne, ne_eq]
            intro e
            exact hxy (UInt8.toNat_inj.1 (by omega))
          have HNE := hid (show decide (xs = bs) = false from decide_eq_false (fun e => hxy (by rw [HX.out, HY.out, e])))
          clear hxy
          go_wp2
          go_quiet (fail)
          go_wp2
          go_ret
          exact ⟨by rw [HNE.out]; rfl, _, drewN_two _ _ _⟩
      · have HE := hid (show decide (xs = bs) = true from decide_eq_true (by
          have h1 := HT.out
          have h2 := HL.out
          rwa [List.take_of_length_le (by omega), List.take_of_length_le (by omega)] at h1))
        have hge : ¬ (k : Int) < (xs.length : Int) := by omega
        clear hlt HT
        go_wp2
        go_ret
        exact ⟨by rw [HE.out]; rfl, _, rfl⟩
  · have hne : (((xs.length : Nat) : Int) != ((bs.length : Nat) : Int)) = true := by simp only [bne_iff_ne, ne_eq]; omega
    have HNE := hid (show decide (xs = bs) = false from decide_eq_false (fun e => hlen (by rw [e])))
    clear hlen
    go_enter Try.func19, Try.ntmps19
    go_wp2
    go_ret
    exact ⟨by rw [HNE.out]; rfl, 0, rfl⟩

theorem sum_one (w : World) (v : Value) (bs : List UInt8) (hv : Src w v bs) :
    Calls Try.prog 7 #[.slice (some ⟨w.heap.size, 0, none⟩) 1 1] (w.alloc (.cells #[v] 22)) fun e w' => e = .returned (.int .u32 (sumP bs : Nat)) ∧ Below w.heap.size w w' := by
  refine (sum_any _ _ [bs] (lists_one hv) (by simp)).mono ?_
  rintro e w' ⟨rfl, hb⟩
  refine ⟨by simp [fl], (below_walk w _).trans (hb.mono (by rw [hp_size]; omega))⟩

/-- sealed bytes -/
def sealP (bs : List UInt8) : List UInt8 := bs ++ le4 (sumP bs)
theorem sealP_length (bs : List UInt8) : (sealP bs).length = bs.length + 4 := by simp [sealP, le4_length]

/-- bytes of which something was copied over a row that is one's own -/
theorem own_splice {w : World} {g base cap n : Nat} {cur : List Value} {bs : List UInt8} (hb : w.heap[g]? = some (.cells cur.toArray 5 (0, 0))) (hbase : base ≤ g) (hn : n = bs.length) (hc : n ≤ cap) (hcm : cap ≤ maxLen) (hl : cur.length = cap) (ht : cur.take n = bytesV bs) :
    OwnB w base (.slice (some ⟨g, 0, none⟩) n cap) bs := by
  subst hn
  exact ⟨by simp [bytesV], Or.inr ⟨g, cap, cur.toArray, rfl, hbase, hb, hc, hcm, by simpa using hl, by simpa using ht⟩⟩

end Go.Proofs.Ytljppkpieoejlab
