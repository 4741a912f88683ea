/- Contracts and pure facts that the proof needs, joined. -/
import Derived.Test.YtiibhccbbpgehabGreatG1
import Derived.ProofKit
import Derived.OpenShut
import Derived.Deep.Strs
import Derived.SizedLaws
import Derived.Test.YtiibhccbbpgehabGreatRows
import Derived.Deep.Slices
import Derived.Lib.SmallJoins
import Derived.Test.YtiibhccbbpgehabGreatG6

/- Bytes out of their reading, however many a slice may have. -/
namespace Go.Proofs.YtiibhccbbpgehabGreat
open Go.ChangeShapes Go.WideShapes Go.ChangeAt Go.RowKit

theorem cellsU8 : Tryz.prog.cellsOf 5 = 1 := by kernel_rfl
section
variable {H : Type} {enc : TypeId × Value → H} {W : World} {spare : Nat → Bool} {held : Bool}
theorem bytes_full {ao : Option Addr} {n c : Nat} {d : DataW H} {pl : List MemPlace} (h : DataW.Trod enc Tryz.prog W 0 spare held 22 (.slice ao n c) d pl) (hk : ∀ elems more, d = .slice elems more → elems.length ≤ 140737488355327) :
    ∃ bs : List UInt8, Src W (.slice ao n c) bs ∧ bs.length = n := by
  obtain ⟨fuel, hf⟩ := h
  rcases open_ints Tryz.underlying22 Tryz.underlying5 cellsU8 hf with ⟨hcs, _⟩ | ⟨a, len, cap, zs, hcs, _, hl, hm, hz, hx, hcell, hwz⟩
  · simp [Value.cells] at hcs
    obtain ⟨rfl, rfl, rfl⟩ := hcs
    exact ⟨[], ⟨by simp, Or.inl ⟨rfl, rfl⟩⟩, rfl⟩
  · simp [Value.cells] at hcs
    obtain ⟨rfl, rfl, rfl⟩ := hcs
    have hlz : n ≤ zs.length := by rw [hz]; split <;> omega
    simp only [Prod.mk.injEq] at hx
    have hn : n ≤ 140737488355327 := by
      have h1 := hk _ _ hx.1
      have h2 : (lits (H := H) .u8 (zs.take n)).length = n := by simp [lits]; omega
      omega
    have hu : ∀ i, i < n → (((zs.getD i 0).toNat.toUInt8).toNat : Int) = zs.getD i 0 := by
      intro i hi
      have hm' : zs.getD i 0 ∈ zs := by
        rw [List.getD_eq_getElem?_getD, List.getElem?_eq_getElem (by omega)]
        exact List.getElem_mem _
      have hw := hwz _ hm'
      have hb : 0 ≤ zs.getD i 0 ∧ zs.getD i 0 ≤ 255 := by simpa [Lit.wf, IntKind.min, IntKind.max, IntKind.signed, IntKind.bits] using hw
      simp only [Nat.toUInt8_eq, UInt8.toNat_ofNat']
      omega
    · refine ⟨(zs.take n).map (fun z => z.toNat.toUInt8), ⟨by simp; omega, Or.inr ⟨a, c, by simp; omega, by simp; omega, hm, fun h => World.block_lt_of_cell? W a (u := .int .u8 (zs.getD 0 0)) (by simp at h; simpa [Addr.add] using hcell 0 (by omega)), fun j hj => ?_⟩⟩, by simp; omega⟩
      have hj' : j < n ∧ j < zs.length := by simp at hj; omega
      have hju := hu j hj'.1
      rw [hcell j hj'.2, ← hju]
      simp [List.getD_eq_getElem?_getD, hj'.1, List.getElem?_eq_getElem hj'.2]
end

end Go.Proofs.YtiibhccbbpgehabGreat

/- From what the rows say of the arguments to what the walks want: numbers, bytes, lists of bytes. -/
namespace Go.Proofs.YtiibhccbbpgehabGreat
open Go.ChangeShapes Go.WideShapes Go.ChangeAt Go.RowKit

theorem own : ownKnob Tryz.prog.godebug = none := by kernel_rfl
theorem laidOut : laidOutB Tryz.prog = true := by kernel_rfl
theorem cellsBytes : Tryz.prog.cellsOf 22 = 1 := by kernel_rfl
theorem bytesU8 : Tryz.prog.bytesOf 5 = 1 := by kernel_rfl
theorem bytesSl : Tryz.prog.bytesOf 22 = 24 := by kernel_rfl

theorem wf_i64 {n : Int} (h : (Lit.int .i64 n).wf = true) : -9223372036854775808 ≤ n ∧ n ≤ 9223372036854775807 := by
  simpa [Lit.wf, IntKind.min, IntKind.max, IntKind.signed, IntKind.bits] using h
theorem wf_u32 {n : Int} (h : (Lit.int .u32 n).wf = true) : 0 ≤ n ∧ n ≤ 4294967295 := by
  simpa [Lit.wf, IntKind.min, IntKind.max, IntKind.signed, IntKind.bits] using h
theorem wf_u8 {n : Int} (h : (Lit.int .u8 n).wf = true) : 0 ≤ n ∧ n ≤ 255 := by
  simpa [Lit.wf, IntKind.min, IntKind.max, IntKind.signed, IntKind.bits] using h
theorem addr_plain {w : World} {a : Addr} {v : Value} (h : w.cell? a = some v) : a = ⟨a.block, a.off, none⟩ := by
  obtain ⟨b, o, sp⟩ := a
  cases sp with
  | none => rfl
  | some s =>
    unfold World.cell? at h
    split at h <;> simp at h
theorem add_plain (b o j : Nat) : (⟨b, o, none⟩ : Addr).add j = ⟨b, o + j, none⟩ := by
  by_cases h : j = 0
  · subst h; simp [Addr.add]
  · simp [Addr.add, h]
theorem list_of {α : Type} {P : Nat → α → Prop} : ∀ {n : Nat}, (∀ i, i < n → ∃ x, P i x) → ∃ l : List α, l.length = n ∧ ∀ j x, l[j]? = some x → P j x
  | 0, _ => ⟨[], rfl, by intro j x h; simp at h⟩
  | n + 1, h => by
    obtain ⟨l, hl, hp⟩ := list_of (n := n) (fun i hi => h i (by omega))
    obtain ⟨x, hx⟩ := h n (by omega)
    refine ⟨l ++ [x], by simp [hl], fun j y hj => ?_⟩
    rcases Nat.lt_or_ge j n with hjn | hjn
    · rw [List.getElem?_append_left (by omega)] at hj
      exact hp j y hj
    · rw [List.getElem?_append_right (by omega)] at hj
      have : j - l.length = 0 := by
        rcases Nat.eq_zero_or_pos (j - l.length) with h0 | h0
        · exact h0
        · rw [List.getElem?_eq_none (by simp; omega)] at hj; cases hj
      rw [this] at hj
      simp at hj
      subst hj
      obtain rfl : j = n := by omega
      exact hx
theorem weightsAll_mem {H : Type} {P : Program} {e : TypeId} : ∀ {l : List (DataW H)} {d : DataW H}, d ∈ l → ∀ n ∈ d.weights P e, n ∈ DataW.weightsAll P e l
  | d' :: r, d, hd, n, hn => by
    simp only [DataW.weightsAll, List.mem_append]
    rcases List.mem_cons.1 hd with rfl | h
    · exact Or.inl hn
    · exact Or.inr (weightsAll_mem h n hn)

section
variable {H : Type} {enc : TypeId × Value → H} {W : World} {spare : Nat → Bool} {held : Bool}
/-- bytes out of their reading -/
theorem bytes_w {ao : Option Addr} {n c : Nat} {d : DataW H} {pl : List MemPlace} (h : DataW.Trod enc Tryz.prog W 0 spare held 22 (.slice ao n c) d pl) (hk : ∀ x ∈ d.weights Tryz.prog 22, x ≤ reachBytes) :
    ∃ bs : List UInt8, Src W (.slice ao n c) bs ∧ bs.length = n ∧ bs.length ≤ reachBytes := by
  have hr : reachBytes < 2 ^ 47 := reachBytes_lt
  have hb : ∀ elems more, d = .slice elems more → elems.length ≤ reachBytes := fun elems more e => by
    subst e
    have := hk ((elems.length + more.length) * Tryz.prog.bytesOf 5) (by simp [DataW.weights, Tryz.underlying22])
    rw [bytesU8] at this
    omega
  obtain ⟨bs, h1, h2⟩ := bytes_full h (fun el mo e => by have := hb el mo e; omega)
  refine ⟨bs, h1, h2, ?_⟩
  obtain ⟨fuel, hf⟩ := h
  rcases Go.Deep.open_slice1 Tryz.underlying22 cellsU8 hf with ⟨hcs, _⟩ | ⟨a, len, cap, m, n', V, D, Pl, hcs, _, _, _, _, hx, _⟩
  · simp [Value.cells] at hcs
    rw [h2, hcs.2.1]
    exact Nat.zero_le _
  · simp [Value.cells] at hcs
    simp only [Prod.mk.injEq] at hx
    have := hb _ _ hx.1
    simp at this
    omega
/-- lists of bytes out of their reading -/
theorem lists_w {ao : Option Addr} {n c : Nat} {d : DataW H} {pl : List MemPlace} (h : DataW.Trod enc Tryz.prog W 0 spare held 23 (.slice ao n c) d pl) (hk : ∀ x ∈ d.weights Tryz.prog 23, x ≤ reachBytes) :
    ∃ pss : List (List UInt8), Lists W (.slice ao n c) pss ∧ pss.length = n ∧ n ≤ 140737488355327 := by
  have hr : reachBytes < 2 ^ 47 := reachBytes_lt
  obtain ⟨fuel, hf⟩ := h
  rcases Go.Deep.open_slice1 Tryz.underlying23 cellsBytes hf with ⟨hcs, _⟩ | ⟨a, len, cap, m, n', V, D, Pl, hcs, _, hl, _, hmm, hx, hel⟩
  · simp [Value.cells] at hcs
    obtain ⟨rfl, rfl, rfl⟩ := hcs
    exact ⟨[], Or.inl ⟨none, 0, rfl, rfl⟩, rfl, by omega⟩
  · simp [Value.cells] at hcs
    obtain ⟨rfl, rfl, rfl⟩ := hcs
    simp only [Prod.mk.injEq] at hx
    obtain ⟨rfl, _⟩ := hx
    have hlm : n ≤ m := by rw [hmm]; split <;> omega
    have hn : n ≤ 140737488355327 := by
      have := hk (((List.range n).map D).length * Tryz.prog.bytesOf 22 + ((List.range (m - n)).map fun j => D (n + j)).length * Tryz.prog.bytesOf 22) (by simp [DataW.weights, Tryz.underlying23, Nat.add_mul])
      rw [bytesSl] at this
      simp at this
      omega
    have hin : ∀ i, i < n → ∃ bs : List UInt8, Src W (V i) bs := by
      intro i hi
      obtain ⟨h1, h2⟩ := hel i (by omega)
      have hw : ∀ x ∈ (D i).weights Tryz.prog 22, x ≤ reachBytes := fun x hxm => hk x (by
        simp only [DataW.weights, Tryz.underlying23, List.mem_cons, List.mem_append]
        exact Or.inr (Or.inl (weightsAll_mem (List.mem_map.2 ⟨i, List.mem_range.2 hi, rfl⟩) x hxm)))
      obtain ⟨ai, ni, ci, hV⟩ : ∃ ai ni ci, V i = .slice ai ni ci := by
        rcases DataW.trod_slice Tryz.underlying22 h2 with ⟨hc, _⟩ | ⟨a', len', cap', _, _, _, _, hc, _⟩
        · simp at hc; exact ⟨_, _, _, hc⟩
        · simp at hc; exact ⟨_, _, _, hc⟩
      rw [hV] at h2 ⊢
      obtain ⟨bs, hb, _⟩ := bytes_w (pl := Pl i) (d := D i) ⟨n', by simpa [Value.cells] using h2⟩ hw
      exact ⟨bs, hb⟩
    obtain ⟨pss, hpl, hps⟩ := list_of hin
    rcases Nat.eq_zero_or_pos n with rfl | hpos
    · exact ⟨[], Or.inl ⟨_, _, rfl, rfl⟩, rfl, by omega⟩
    · have h0 := (hel 0 (by omega)).1
      have ha : a = ⟨a.block, a.off, none⟩ := addr_plain (v := V 0) (by simpa [Addr.add] using h0)
      have hlt : a.block < W.heap.size := World.block_lt_of_cell? W a (u := V 0) (by simpa [Addr.add] using h0)
      generalize a.block = g at ha hlt
      generalize a.off = o at ha
      subst ha
      refine ⟨pss, Or.inr ⟨g, o, c, by rw [hpl], hlt, fun j hj => ?_⟩, hpl, hn⟩
      have h1 := (hel j (by omega)).1
      rw [add_plain] at h1
      refine ⟨V j, h1, ?_⟩
      exact hps j _ (by simp [List.getD_eq_getElem?_getD, List.getElem?_eq_getElem hj])
theorem sized_at {ts : List TypeId} {ds : List (DataW H)} (h : ((DataW.weightsEach Tryz.prog ts ds).all fun x => decide (x ≤ reachBytes)) = true) {j : Nat} {t : TypeId} {d : DataW H} (ht : ts[j]? = some t) (hd : ds[j]? = some d) : ∀ x ∈ d.weights Tryz.prog t, x ≤ reachBytes :=
  fun x hx => of_decide_eq_true (List.all_eq_true.1 h _ (DataW.weights_mem_each ht hd x hx))
end

end Go.Proofs.YtiibhccbbpgehabGreat

/- A struct of four, out of its reading. -/

/- Calls of decoders that nobody made. -/
namespace Go.Proofs.YtiibhccbbpgehabGreat
open Go.RowKit Go.BigFrame

/-- nobody made the decoder: there is none, or a plain one -/
def Nm (w : World) (p : Option Addr) : Prop := p = none ∨ ∃ b, p = some ⟨b, 0, none⟩ ∧ w.heap[b]? = some (.cells #[.slice none 0 0, .int .i64 0, .int .i64 0, .int .i64 0, .int .i64 0, .int .i64 0] 47 (0, 0))
section
variable {w w' : World} {p : Option Addr}
theorem Nm.below (h : Nm w p) (hb : Below w.heap.size w w') : Nm w' p := by
  rcases h with h | ⟨b, h, k⟩
  · exact Or.inl h
  · exact Or.inr ⟨b, h, bel_keep hb k⟩
set_option maxHeartbeats 400000 in
theorem Nm.made (h : Nm w p) :
    Calls Tryz.prog 25 #[.pointer p] w fun e w' => e = .returned (.bool false) ∧ w' = w := by
  rcases h with rfl | ⟨b, rfl, hb⟩
  · go_enter Tryz.func25, Tryz.ntmps25
    go_wp2
    go_ret
    exact ⟨rfl, rfl⟩
  · have c3 : w.cell? ⟨b, 3, none⟩ = some (.int .i64 0) := by simp [World.cell?, hb]
    clear hb
    go_enter Tryz.func25, Tryz.ntmps25
    go_wp2
    go_ret
    exact ⟨rfl, rfl⟩

set_option maxRecDepth 100000 in
set_option maxHeartbeats 1000000 in
theorem nref_any (hm : Nm w p) :
    Calls Tryz.prog 23 #[.pointer p] w fun e w' => e = .returned (.agg #[.int .i64 2, .int .i64 0]) ∧ Below w.heap.size w w' := by
  have HB0 := hid (below_walk w (.cells #[.int .i64 0, .int .i64 0] 30))
  have HN0 := hid (hp_new w (.cells #[.int .i64 0, .int .i64 0] 30))
  have HM := hid (hm.below HB0.out)
  obtain ⟨A, HAA⟩ : ∃ n, Hid (w.heap.size = n) := ⟨_, rfl⟩
  clear hm
  go_enter Tryz.func23, Tryz.ntmps23
  go_upto_region 1 with fail
  generalize w.alloc (.cells #[.int .i64 0, .int .i64 0] 30) = w0 at HB0 HN0 HM ⊢
  rw [HAA.out] at HN0 ⊢
  go_wp2_with fail
  refine HM.out.made.mono ?_
  rintro e w1 ⟨rfl, hw⟩
  subst hw
  go_wp2_with (first
    | (refine bd_row (by rfl) 30 #[(0, .const (.int .i64 2))] (by rfl) _ (by simp [Act.eval]) _ (built_f1 _) ?_)
    | (refine st_row (by rfl) 30 _ _ (by rfl) A [Value.int .i64 2, .int .i64 0] (by rfl) (by rfl) 30 _ HN0.out faultSize rfl (fault_one _ _) ?_; intro w3 hw3))
  exact ret_row 2 30 rfl A rfl _ 30 hw3.blk _ Tryz.underlying30 rfl faultSize rfl ⟨rfl, Below.of_gb HB0.out hw3.grown (by have := HAA.out; omega)⟩

set_option maxRecDepth 100000 in
set_option maxHeartbeats 1000000 in
theorem nend_any (hm : Nm w p) :
    Calls Tryz.prog 13 #[.pointer p] w fun e w' => e = .returned (.agg #[.int .i64 2, .int .i64 0]) ∧ Below w.heap.size w w' := by
  have HB0 := hid (below_walk w (.cells #[.int .i64 0, .int .i64 0] 30))
  have HN0 := hid (hp_new w (.cells #[.int .i64 0, .int .i64 0] 30))
  have HM := hid (hm.below HB0.out)
  obtain ⟨A, HAA⟩ : ∃ n, Hid (w.heap.size = n) := ⟨_, rfl⟩
  clear hm
  go_enter Tryz.func13, Tryz.ntmps13
  go_upto_region 1 with fail
  generalize w.alloc (.cells #[.int .i64 0, .int .i64 0] 30) = w0 at HB0 HN0 HM ⊢
  rw [HAA.out] at HN0 ⊢
  go_wp2_with fail
  refine HM.out.made.mono ?_
  rintro e w1 ⟨rfl, hw⟩
  subst hw
  go_wp2_with (first
    | (refine bd_row (by rfl) 30 #[(0, .const (.int .i64 2))] (by rfl) _ (by simp [Act.eval]) _ (built_f1 _) ?_)
    | (refine st_row (by rfl) 30 _ _ (by rfl) A [Value.int .i64 2, .int .i64 0] (by rfl) (by rfl) 30 _ HN0.out faultSize rfl (fault_one _ _) ?_; intro w3 hw3))
  exact ret_row 2 30 rfl A rfl _ 30 hw3.blk _ Tryz.underlying30 rfl faultSize rfl ⟨rfl, Below.of_gb HB0.out hw3.grown (by have := HAA.out; omega)⟩

set_option maxRecDepth 100000 in
set_option maxHeartbeats 1000000 in
theorem npois_any (hm : Nm w p) :
    Calls Tryz.prog 8 #[.pointer p] w fun e w' => e = .returned (.agg #[.int .i64 0, .int .i64 0]) ∧ Below w.heap.size w w' := by
  have HB0 := hid (below_walk w (.cells #[.int .i64 0, .int .i64 0] 30))
  have HN0 := hid (hp_new w (.cells #[.int .i64 0, .int .i64 0] 30))
  have HM := hid (hm.below HB0.out)
  obtain ⟨A, HAA⟩ : ∃ n, Hid (w.heap.size = n) := ⟨_, rfl⟩
  clear hm
  go_enter Tryz.func8, Tryz.ntmps8
  go_upto_region 1 with fail
  generalize w.alloc (.cells #[.int .i64 0, .int .i64 0] 30) = w0 at HB0 HN0 HM ⊢
  rw [HAA.out] at HN0 ⊢
  go_wp2_with fail
  refine HM.out.made.mono ?_
  rintro e w1 ⟨rfl, hw⟩
  subst hw
  go_wp2_with (first
    | (refine bd_row (by rfl) 30 #[] (by rfl) _ (by simp) _ built_fz ?_)
    | (refine st_row (by rfl) 30 _ _ (by rfl) A [Value.int .i64 0, .int .i64 0] (by rfl) (by rfl) 30 _ HN0.out faultSize rfl (fault_one _ _) ?_; intro w3 hw3))
  exact ret_row 2 30 rfl A rfl _ 30 hw3.blk _ Tryz.underlying30 rfl faultSize rfl ⟨rfl, Below.of_gb HB0.out hw3.grown (by have := HAA.out; omega)⟩

theorem nrest_any (hm : Nm w p) :
    Calls Tryz.prog 15 #[.pointer p] w fun e w' => e = .returned (.slice none 0 0) ∧ w' = w := by
  have HM := hid hm.made
  clear hm
  go_enter Tryz.func15, Tryz.ntmps15
  go_wp2_with fail
  refine HM.out.mono ?_
  rintro e w1 ⟨rfl, hw⟩
  subst hw
  go_wp2
  go_ret
  exact ⟨rfl, rfl⟩

theorem nwant_any (hm : Nm w p) :
    Calls Tryz.prog 14 #[.pointer p] w fun e w' => e = .returned (.int .i64 0) ∧ w' = w := by
  have HM := hid hm.made
  clear hm
  go_enter Tryz.func14, Tryz.ntmps14
  go_wp2_with fail
  refine HM.out.mono ?_
  rintro e w1 ⟨rfl, hw⟩
  subst hw
  go_wp2
  go_ret
  exact ⟨rfl, rfl⟩

theorem nclone_any (hm : Nm w p) :
    Calls Tryz.prog 16 #[.pointer p] w fun e w' => e = .returned (.pointer none) ∧ w' = w := by
  have HM := hid hm.made
  clear hm
  go_enter Tryz.func16, Tryz.ntmps16
  go_wp2_with fail
  refine HM.out.mono ?_
  rintro e w1 ⟨rfl, hw⟩
  subst hw
  go_wp2
  go_ret
  exact ⟨rfl, rfl⟩

theorem ncount_any (hm : Nm w p) :
    Calls Tryz.prog 10 #[.pointer p] w fun e w' => e = .returned (.tuple #[.int .i64 0, .int .i64 0]) ∧ w' = w := by
  have HM := hid hm.made
  clear hm
  go_enter Tryz.func10, Tryz.ntmps10
  go_wp2_with fail
  refine HM.out.mono ?_
  rintro e w1 ⟨rfl, hw⟩
  subst hw
  go_wp2
  exact bodyPost_ret (results_tmp2 rfl _ _ _) rfl ⟨rfl, rfl⟩

set_option maxRecDepth 100000 in
set_option maxHeartbeats 4000000 in
theorem nfeed_any (hm : Nm w p) (vp : Value) :
    Calls Tryz.prog 7 #[.pointer p, vp] w fun e w' => e = .returned (.tuple #[.slice none 0 0, .agg #[.int .i64 2, .int .i64 0]]) ∧ Below w.heap.size w w' := by
  have HB0 := hid (below_walk w (.cells #[.int .i64 0, .int .i64 0] 30))
  have HN0 := hid (hp_new w (.cells #[.int .i64 0, .int .i64 0] 30))
  obtain ⟨A, HAA⟩ : ∃ n, Hid (w.heap.size = n) := ⟨_, rfl⟩
  have HRF := hid (nref_any (hm.below HB0.out))
  clear hm
  go_enter Tryz.func7, Tryz.ntmps7
  go_upto_region 1 with fail
  generalize w.alloc (.cells #[.int .i64 0, .int .i64 0] 30) = w0 at HB0 HN0 HRF ⊢
  rw [HAA.out] at HN0 ⊢
  go_wp2_with fail
  refine HRF.out.mono ?_
  rintro e w1 ⟨rfl, hb1⟩
  have HW1 := hid (below_walk w1 (.cells [Value.int .i64 2, .int .i64 0].toArray 30))
  have HN2 := hid (bel_keep HW1.out (bel_keep hb1 HN0.out))
  have HB2 := hid (below_then (below_then HB0.out hb1) HW1.out)
  have HT := hid (hp_new w1 (.cells [Value.int .i64 2, .int .i64 0].toArray 30))
  have HBA := hid (hp_lt (bel_keep hb1 HN0.out))
  clear hb1 HRF HN0 HB0
  go_upto_region 2 with (refine st_new (by rfl) 30 _ _ (by rfl) [Value.int .i64 2, .int .i64 0] (by rfl) (by rfl) 30 _ faultSize rfl (fault_one _ _) ?_)
  obtain ⟨B, HBe⟩ : ∃ n, Hid (w1.heap.size = n) := ⟨_, rfl⟩
  rw [HBe.out] at HT HBA ⊢
  generalize w1.alloc (.cells [Value.int .i64 2, .int .i64 0].toArray 30) = w2 at HW1 HN2 HB2 HT ⊢
  have t0 : w2.cell? ⟨B, 0, none⟩ = some (.int .i64 2) := by simp [World.cell?, HT.out]
  go_upto_region 3 with fail
  refine wp_noPanic (wp_region_held_drew (S := fun W => W.heap[B]? = some (.cells [Value.int .i64 2, .int .i64 0].toArray 30 (0, 0))) (by kernel_rfl) HT.out ?_)
  intro hHeld
  refine wpAnyH_take (i := 0) (v := .agg [Value.int .i64 2, .int .i64 0].toArray) rfl (by kernel_rfl) (by kernel_rfl) (by kernel_rfl) (fun _ _ _ h => h) (yieldsIf_load_mid (by rfl) 30 (.tmp 6) rfl B 0 rfl [Value.int .i64 2, .int .i64 0] _ (fun W hW => range_row hW) Tryz.underlying30 rfl faultSize) hHeld ?_
  simp only [Act.put, List.getElem_toArray, List.getElem_cons_zero, List.setIfInBounds_toArray, List.set_cons_succ, List.set_cons_zero]
  refine wpAnyH_take (i := 1) (v := .slice none 0 0) rfl (by kernel_rfl) (by kernel_rfl) (by kernel_rfl) (fun _ _ _ h => h) (Or.inl ⟨by rfl, fun W _ => by go_simp⟩) hHeld ?_
  simp only [Act.put, List.getElem_toArray, List.getElem_cons_zero, List.getElem_cons_succ, List.setIfInBounds_toArray, List.set_cons_succ, List.set_cons_zero]
  refine wpAnyH_ready (rs := [2]) (by kernel_rfl) (by simp) ?_
  refine AllReadyH.cons rfl (fun K9 hK9 => ?_) AllReadyH.nil
  refine step_store_row (by rfl) 30 _ _ (by rfl) A [Value.int .i64 2, .int .i64 0] (by rfl) (by rfl) 30 _ HN2.out faultSize rfl (fault_one _ _) ?_
  intro wz hwz
  refine hK9.out _ _ (gb_keep hwz.grown HT.out (by have := HBA.out; omega)) (fun hHeld => ?_)
  clear hK9 K9
  try simp only [Act.put, List.getElem_toArray, List.getElem_cons_zero, List.getElem_cons_succ]
  refine wpAnyH_done (by kernel_rfl) ?_ _
  simp only [noPanic]
  clear hHeld
  go_wp2
  exact ret_tc 4 5 30 rfl _ rfl A rfl _ 30 hwz.blk _ Tryz.underlying30 rfl faultSize rfl ⟨rfl, Below.of_gb (below_then HB2.out (bel_drw w2 1)) hwz.grown (by have := HAA.out; omega)⟩

set_option maxRecDepth 100000 in
set_option maxHeartbeats 4000000 in
theorem nsome_any (hm : Nm w p) (n : Int) (vp : Value) :
    Calls Tryz.prog 12 #[.pointer p, .int .i64 n, vp] w fun e w' => e = .returned (.tuple #[.slice none 0 0, .int .i64 0, .agg #[.int .i64 2, .int .i64 0]]) ∧ Below w.heap.size w w' := by
  have HB0 := hid (below_walk w (.cells #[.int .i64 0, .int .i64 0] 30))
  have HN0 := hid (hp_new w (.cells #[.int .i64 0, .int .i64 0] 30))
  obtain ⟨A, HAA⟩ : ∃ n, Hid (w.heap.size = n) := ⟨_, rfl⟩
  have HRF := hid (nref_any (hm.below HB0.out))
  clear hm
  go_enter Tryz.func12, Tryz.ntmps12
  go_upto_region 1 with fail
  generalize w.alloc (.cells #[.int .i64 0, .int .i64 0] 30) = w0 at HB0 HN0 HRF ⊢
  rw [HAA.out] at HN0 ⊢
  go_wp2_with fail
  refine HRF.out.mono ?_
  rintro e w1 ⟨rfl, hb1⟩
  have HW1 := hid (below_walk w1 (.cells [Value.int .i64 2, .int .i64 0].toArray 30))
  have HN2 := hid (bel_keep HW1.out (bel_keep hb1 HN0.out))
  have HB2 := hid (below_then (below_then HB0.out hb1) HW1.out)
  have HT := hid (hp_new w1 (.cells [Value.int .i64 2, .int .i64 0].toArray 30))
  have HBA := hid (hp_lt (bel_keep hb1 HN0.out))
  clear hb1 HRF HN0 HB0
  go_upto_region 2 with (refine st_new (by rfl) 30 _ _ (by rfl) [Value.int .i64 2, .int .i64 0] (by rfl) (by rfl) 30 _ faultSize rfl (fault_one _ _) ?_)
  obtain ⟨B, HBe⟩ : ∃ n, Hid (w1.heap.size = n) := ⟨_, rfl⟩
  rw [HBe.out] at HT HBA ⊢
  generalize w1.alloc (.cells [Value.int .i64 2, .int .i64 0].toArray 30) = w2 at HW1 HN2 HB2 HT ⊢
  have t0 : w2.cell? ⟨B, 0, none⟩ = some (.int .i64 2) := by simp [World.cell?, HT.out]
  go_upto_region 3 with fail
  refine wp_noPanic (wp_region_held_drew (S := fun W => W.heap[B]? = some (.cells [Value.int .i64 2, .int .i64 0].toArray 30 (0, 0))) (by kernel_rfl) HT.out ?_)
  intro hHeld
  refine wpAnyH_take (i := 0) (v := .agg [Value.int .i64 2, .int .i64 0].toArray) rfl (by kernel_rfl) (by kernel_rfl) (by kernel_rfl) (fun _ _ _ h => h) (yieldsIf_load_mid (by rfl) 30 (.tmp 9) rfl B 0 rfl [Value.int .i64 2, .int .i64 0] _ (fun W hW => range_row hW) Tryz.underlying30 rfl faultSize) hHeld ?_
  simp only [Act.put, List.getElem_toArray, List.getElem_cons_zero, List.setIfInBounds_toArray, List.set_cons_succ, List.set_cons_zero]
  refine wpAnyH_take (i := 1) (v := .slice none 0 0) rfl (by kernel_rfl) (by kernel_rfl) (by kernel_rfl) (fun _ _ _ h => h) (Or.inl ⟨by rfl, fun W _ => by go_simp⟩) hHeld ?_
  simp only [Act.put, List.getElem_toArray, List.getElem_cons_zero, List.getElem_cons_succ, List.setIfInBounds_toArray, List.set_cons_succ, List.set_cons_zero]
  refine wpAnyH_take (i := 2) (v := .int .i64 0) rfl (by kernel_rfl) (by kernel_rfl) (by kernel_rfl) (fun _ _ _ h => h) (Or.inl ⟨by rfl, fun W _ => by go_simp⟩) hHeld ?_
  simp only [Act.put, List.getElem_toArray, List.getElem_cons_zero, List.getElem_cons_succ, List.setIfInBounds_toArray, List.set_cons_succ, List.set_cons_zero]
  refine wpAnyH_ready (rs := [3]) (by kernel_rfl) (by simp) ?_
  refine AllReadyH.cons rfl (fun K9 hK9 => ?_) AllReadyH.nil
  refine step_store_row (by rfl) 30 _ _ (by rfl) A [Value.int .i64 2, .int .i64 0] (by rfl) (by rfl) 30 _ HN2.out faultSize rfl (fault_one _ _) ?_
  intro wz hwz
  refine hK9.out _ _ (gb_keep hwz.grown HT.out (by have := HBA.out; omega)) (fun hHeld => ?_)
  clear hK9 K9
  try simp only [Act.put, List.getElem_toArray, List.getElem_cons_zero, List.getElem_cons_succ]
  refine wpAnyH_done (by kernel_rfl) ?_ _
  simp only [noPanic]
  clear hHeld
  go_wp2
  exact ret_ttc 6 7 8 30 rfl _ _ rfl rfl A rfl _ 30 hwz.blk _ Tryz.underlying30 rfl faultSize rfl ⟨rfl, Below.of_gb (below_then HB2.out (bel_drw w2 1)) hwz.grown (by have := HAA.out; omega)⟩
end
end Go.Proofs.YtiibhccbbpgehabGreat

/- StreamNobody answers true. -/
namespace Go.Proofs.YtiibhccbbpgehabGreat
open Go.RowKit Go.BigFrame

theorem built_d0 : Tryz.prog.built 47 [] = some #[.slice none 0 0, .int .i64 0, .int .i64 0, .int .i64 0, .int .i64 0, .int .i64 0] := by kernel_rfl

set_option maxRecDepth 100000 in
set_option maxHeartbeats 8000000 in
theorem lawNobody_any (v : Value) (bs : List UInt8) (n : Int) (w : World) (hs : Src w v bs) :
    Calls Tryz.prog 4 #[v, .int .i64 n] w fun e w' => e = .returned (.bool true) ∧ Below w.heap.size w w' := by
  obtain ⟨av, cv, rfl⟩ := src_shape hs
  have HW0 := hid (below_walk w (.cells [Value.int .i64 2, .int .i64 0].toArray 30))
  have HA0 := hid (hp_new w (.cells [Value.int .i64 2, .int .i64 0].toArray 30))
  clear hs
  go_enter Tryz.func4, Tryz.ntmps4
  go_upto_region 3 with (first
    | (refine bd_row (by rfl) 30 #[(0, .const (.int .i64 2))] (by rfl) _ (by simp [Act.eval]) _ (built_f1 _) ?_)
    | (refine st_new (by rfl) 30 _ _ (by rfl) [Value.int .i64 2, .int .i64 0] (by rfl) (by rfl) 30 _ faultSize rfl (fault_one _ _) ?_))
  obtain ⟨A, HAe⟩ : ∃ n, Hid (w.heap.size = n) := ⟨_, rfl⟩
  generalize w.alloc (.cells [Value.int .i64 2, .int .i64 0].toArray 30) = w0 at HW0 HA0 ⊢
  rw [HAe.out] at HA0 ⊢
  go_wp2
  go_loopw [7] (fun vi wr => ∃ k : Nat, k ≤ 2 ∧ vi = .int .i64 k ∧ Hid (wr.heap[A]? = some (.cells [Value.int .i64 2, .int .i64 0].toArray 30 (0, 0))) ∧ Hid (Below w.heap.size w wr)) (fun vi _ => 2 - (intOf vi).toNat)
  case atStart => exact ⟨0, by omega, rfl, HA0.out, HW0.out⟩
  case round =>
    obtain ⟨k, hk, rfl, HA, HB⟩ := hrel
    match k, hk with
    | 0, _ =>
      as_aux_lemma =>
        have HM1 := hid (show Nm wr none from Or.inl rfl)
        have HA1 := hid HA.out
        have HB1 := hid HB.out
        clear HA HB
        go_upto_region 9 with fail
        obtain ⟨w1, hw1⟩ : ∃ x, x = wr := ⟨_, rfl⟩
        subst hw1
        have HW1 := hid (below_walk w1 (.cells #[.slice av bs.length cv] 22))
        have HM2 := hid (HM1.out.below HW1.out)
        have HA2 := hid (bel_keep HW1.out HA1.out)
        have HB2 := hid (below_then HB1.out HW1.out)
        go_wp2_with fail
        generalize w1.alloc (.cells #[.slice av bs.length cv] 22) = w2 at HW1 HM2 HA2 HB2 ⊢
        refine (nfeed_any HM2.out _).mono ?_
        rintro e w3 ⟨rfl, hb3⟩
        have HW4 := hid (below_walk w3 (.cells [Value.int .i64 2, .int .i64 0].toArray 30))
        have HM4 := hid ((HM2.out.below hb3).below HW4.out)
        have HA4 := hid (bel_keep HW4.out (bel_keep hb3 HA2.out))
        have HB4 := hid (below_then (below_then HB2.out hb3) HW4.out)
        have HF4 := hid (hp_new w3 (.cells [Value.int .i64 2, .int .i64 0].toArray 30))
        clear hb3
        go_upto_region 10 with (refine st_new (by rfl) 30 _ _ (by rfl) [Value.int .i64 2, .int .i64 0] (by rfl) (by rfl) 30 _ faultSize rfl (fault_one _ _) ?_)
        obtain ⟨F, HFe⟩ : ∃ n, Hid (w3.heap.size = n) := ⟨_, rfl⟩
        rw [HFe.out] at HF4 ⊢
        generalize w3.alloc (.cells [Value.int .i64 2, .int .i64 0].toArray 30) = w4 at HW4 HM4 HA4 HB4 HF4 ⊢
        go_wp2_with fail
        refine (nsome_any HM4.out _ _).mono ?_
        rintro e w5 ⟨rfl, hb5⟩
        have HW6 := hid (below_walk w5 (.cells [Value.int .i64 2, .int .i64 0].toArray 30))
        have HM6 := hid ((HM4.out.below hb5).below HW6.out)
        have HA6 := hid (bel_keep HW6.out (bel_keep hb5 HA4.out))
        have HF6 := hid (bel_keep HW6.out (bel_keep hb5 HF4.out))
        have HB6 := hid (below_then (below_then HB4.out hb5) HW6.out)
        have HG6 := hid (hp_new w5 (.cells [Value.int .i64 2, .int .i64 0].toArray 30))
        clear hb5
        go_upto_region 11 with (refine st_new (by rfl) 30 _ _ (by rfl) [Value.int .i64 2, .int .i64 0] (by rfl) (by rfl) 30 _ faultSize rfl (fault_one _ _) ?_)
        obtain ⟨G, HGe⟩ : ∃ n, Hid (w5.heap.size = n) := ⟨_, rfl⟩
        rw [HGe.out] at HG6 ⊢
        generalize w5.alloc (.cells [Value.int .i64 2, .int .i64 0].toArray 30) = w6 at HW6 HM6 HA6 HB6 HF6 HG6 ⊢
        go_wp2_with fail
        refine (ncount_any HM6.out).mono ?_
        rintro e w7 ⟨rfl, hw⟩
        subst hw
        go_upto_region 12 with fail
        have HRA := hid (Bel.range (range_row HA6.out) (hp_lt HA6.out))
        have HRF := hid (Bel.range (range_row HF6.out) (hp_lt HF6.out))
        have HRG := hid (Bel.range (range_row HG6.out) (hp_lt HG6.out))
        have HMM := hid (fun q : Bel w7 => HM6.out.below q.bel)
        have ib : Nonempty (Bel w7) := bel_some w7
        have n1 : ∀ W, (binOp .neq 30 (.agg #[.int .i64 2, .int .i64 0]) (.agg #[.int .i64 2, .int .i64 0])).run Tryz.prog W = .ok (.bool false) W := fun W => fault_neq 2 0 2 0 W
        have n2 : ∀ W, (binOp .neq 30 (.agg #[.int .i64 0, .int .i64 0]) (.agg #[.int .i64 0, .int .i64 0])).run Tryz.prog W = .ok (.bool false) W := fun W => fault_neq 0 0 0 0 W
        refine wp_region_quiet_bel (by kernel_rfl) (by kernel_rfl) ?_
        go_big_quiet_step (fail)
        go_big_quiet_step (fail)
        go_big_quiet_step (fail)
        go_big_quiet_step (fail)
        go_big_quiet_step (fail)
        go_big_quiet_step (fail)
        go_big_quiet_step (fail)
        go_big_quiet_step (fail)
        go_big_quiet_step (fail)
        go_big_quiet_step (fail)
        go_big_quiet_step (fail)
        go_big_quiet_step (fail)
        go_big_quiet_step (first | (go_at_call 15; exact bel_same (nrest_any (HMM.out _))))
        go_big_quiet_step (fail)
        go_big_quiet_step (fail)
        go_big_quiet_step (fail)
        go_big_quiet_step (first | (go_at_call 14; exact bel_same (nwant_any (HMM.out _))))
        go_big_quiet_step (fail)
        go_big_quiet_step (fail)
        go_big_quiet_step (fail)
        refine wpQuiet_want (by rfl) fun K hK => quiet_ld 30 (.tmp 10) (by rfl) F 0 (by rfl) _ _ HRF.out Tryz.underlying30 rfl faultSize (hK _ ?_)
        simp only [Act.put, List.setIfInBounds_toArray, List.set_cons_succ, List.set_cons_zero]
        refine wpQuiet_want (by rfl) fun K hK => quiet_ld 30 (.tmp 6) (by rfl) A 0 (by rfl) _ _ HRA.out Tryz.underlying30 rfl faultSize (hK _ ?_)
        simp only [Act.put, List.setIfInBounds_toArray, List.set_cons_succ, List.set_cons_zero]
        go_big_quiet_step (fail)
        go_big_quiet_step (fail)
        go_big_quiet_step (fail)
        refine wpQuiet_want (by rfl) fun K hK => quiet_ld 30 (.tmp 13) (by rfl) G 0 (by rfl) _ _ HRG.out Tryz.underlying30 rfl faultSize (hK _ ?_)
        simp only [Act.put, List.setIfInBounds_toArray, List.set_cons_succ, List.set_cons_zero]
        refine wpQuiet_want (by rfl) fun K hK => quiet_ld 30 (.tmp 6) (by rfl) A 0 (by rfl) _ _ HRA.out Tryz.underlying30 rfl faultSize (hK _ ?_)
        simp only [Act.put, List.setIfInBounds_toArray, List.set_cons_succ, List.set_cons_zero]
        go_big_quiet_step (fail)
        go_big_quiet_step (fail)
        go_big_quiet_step (fail)
        go_big_quiet_step (fail)
        go_big_quiet_step (first | (go_at_call 13; exact bel_of (nend_any (HMM.out _))))
        refine wpQuiet_want (by rfl) fun K hK => quiet_ld 30 (.tmp 6) (by rfl) A 0 (by rfl) _ _ HRA.out Tryz.underlying30 rfl faultSize (hK _ ?_)
        simp only [Act.put, List.setIfInBounds_toArray, List.set_cons_succ, List.set_cons_zero]
        go_big_quiet_step (fail)
        go_big_quiet_step (fail)
        go_big_quiet_step (fail)
        go_big_quiet_step (fail)
        go_big_quiet_step (first | (go_at_call 8; exact bel_of (npois_any (HMM.out _))))
        refine wpQuiet_want (by rfl) fun K hK => quiet_bd 30 #[] (by rfl) _ (by simp) _ built_fz (hK _ ?_)
        simp only [Act.put, List.setIfInBounds_toArray, List.set_cons_succ, List.set_cons_zero]
        go_big_quiet_step (fail)
        go_big_quiet_step (fail)
        go_big_quiet_step (fail)
        go_big_quiet_step (fail)
        go_big_quiet_step (first | (go_at_call 16; exact bel_same (nclone_any (HMM.out _))))
        go_big_quiet_step (fail)
        go_big_quiet_step (fail)
        refine wpQuiet_nil ?_
        rintro w8 ⟨⟨w8', hb8⟩, hw8⟩
        obtain rfl : w8 = w8' := hw8
        have HA8 := hid (bel_keep hb8 HA6.out)
        have HB8 := hid (below_then HB6.out hb8)
        clear hb8
        go_wp2
        exact ⟨⟨1, by omega, by simp, HA8.out, HB8.out⟩, by simp [intOf]⟩
    | 1, _ =>
      as_aux_lemma =>
        have HWd := hid (below_walk wr (.cells #[.slice none 0 0, .int .i64 0, .int .i64 0, .int .i64 0, .int .i64 0, .int .i64 0] 47))
        have HM1 := hid (show Nm (wr.alloc (.cells #[.slice none 0 0, .int .i64 0, .int .i64 0, .int .i64 0, .int .i64 0, .int .i64 0] 47)) (some ⟨wr.heap.size, 0, none⟩) from Or.inr ⟨_, rfl, hp_new wr _⟩)
        have HA1 := hid (bel_keep HWd.out HA.out)
        have HB1 := hid (below_then HB.out HWd.out)
        clear HA HB
        go_upto_region 9 with (first
          | (refine bd_row (by rfl) 47 #[] (by rfl) _ (by simp) _ built_d0 ?_)
          | (refine bx_row (by rfl) 47 (.tmp 24) (by rfl) _ (by rfl) ?_))
        obtain ⟨P0, HP0⟩ : ∃ n, Hid (wr.heap.size = n) := ⟨_, rfl⟩
        rw [HP0.out] at HM1
        try rw [HP0.out]
        generalize wr.alloc (.cells #[.slice none 0 0, .int .i64 0, .int .i64 0, .int .i64 0, .int .i64 0, .int .i64 0] 47) = w1 at HWd HM1 HA1 HB1 ⊢
        have HW1 := hid (below_walk w1 (.cells #[.slice av bs.length cv] 22))
        have HM2 := hid (HM1.out.below HW1.out)
        have HA2 := hid (bel_keep HW1.out HA1.out)
        have HB2 := hid (below_then HB1.out HW1.out)
        go_wp2_with fail
        generalize w1.alloc (.cells #[.slice av bs.length cv] 22) = w2 at HW1 HM2 HA2 HB2 ⊢
        refine (nfeed_any HM2.out _).mono ?_
        rintro e w3 ⟨rfl, hb3⟩
        have HW4 := hid (below_walk w3 (.cells [Value.int .i64 2, .int .i64 0].toArray 30))
        have HM4 := hid ((HM2.out.below hb3).below HW4.out)
        have HA4 := hid (bel_keep HW4.out (bel_keep hb3 HA2.out))
        have HB4 := hid (below_then (below_then HB2.out hb3) HW4.out)
        have HF4 := hid (hp_new w3 (.cells [Value.int .i64 2, .int .i64 0].toArray 30))
        clear hb3
        go_upto_region 10 with (refine st_new (by rfl) 30 _ _ (by rfl) [Value.int .i64 2, .int .i64 0] (by rfl) (by rfl) 30 _ faultSize rfl (fault_one _ _) ?_)
        obtain ⟨F, HFe⟩ : ∃ n, Hid (w3.heap.size = n) := ⟨_, rfl⟩
        rw [HFe.out] at HF4 ⊢
        generalize w3.alloc (.cells [Value.int .i64 2, .int .i64 0].toArray 30) = w4 at HW4 HM4 HA4 HB4 HF4 ⊢
        go_wp2_with fail
        refine (nsome_any HM4.out _ _).mono ?_
        rintro e w5 ⟨rfl, hb5⟩
        have HW6 := hid (below_walk w5 (.cells [Value.int .i64 2, .int .i64 0].toArray 30))
        have HM6 := hid ((HM4.out.below hb5).below HW6.out)
        have HA6 := hid (bel_keep HW6.out (bel_keep hb5 HA4.out))
        have HF6 := hid (bel_keep HW6.out (bel_keep hb5 HF4.out))
        have HB6 := hid (below_then (below_then HB4.out hb5) HW6.out)
        have HG6 := hid (hp_new w5 (.cells [Value.int .i64 2, .int .i64 0].toArray 30))
        clear hb5
        go_upto_region 11 with (refine st_new (by rfl) 30 _ _ (by rfl) [Value.int .i64 2, .int .i64 0] (by rfl) (by rfl) 30 _ faultSize rfl (fault_one _ _) ?_)
        obtain ⟨G, HGe⟩ : ∃ n, Hid (w5.heap.size = n) := ⟨_, rfl⟩
        rw [HGe.out] at HG6 ⊢
        generalize w5.alloc (.cells [Value.int .i64 2, .int .i64 0].toArray 30) = w6 at HW6 HM6 HA6 HB6 HF6 HG6 ⊢
        go_wp2_with fail
        refine (ncount_any HM6.out).mono ?_
        rintro e w7 ⟨rfl, hw⟩
        subst hw
        go_upto_region 12 with fail
        have HRA := hid (Bel.range (range_row HA6.out) (hp_lt HA6.out))
        have HRF := hid (Bel.range (range_row HF6.out) (hp_lt HF6.out))
        have HRG := hid (Bel.range (range_row HG6.out) (hp_lt HG6.out))
        have HMM := hid (fun q : Bel w7 => HM6.out.below q.bel)
        have ib : Nonempty (Bel w7) := bel_some w7
        have n1 : ∀ W, (binOp .neq 30 (.agg #[.int .i64 2, .int .i64 0]) (.agg #[.int .i64 2, .int .i64 0])).run Tryz.prog W = .ok (.bool false) W := fun W => fault_neq 2 0 2 0 W
        have n2 : ∀ W, (binOp .neq 30 (.agg #[.int .i64 0, .int .i64 0]) (.agg #[.int .i64 0, .int .i64 0])).run Tryz.prog W = .ok (.bool false) W := fun W => fault_neq 0 0 0 0 W
        refine wp_region_quiet_bel (by kernel_rfl) (by kernel_rfl) ?_
        go_big_quiet_step (fail)
        go_big_quiet_step (fail)
        go_big_quiet_step (fail)
        go_big_quiet_step (fail)
        go_big_quiet_step (fail)
        go_big_quiet_step (fail)
        go_big_quiet_step (fail)
        go_big_quiet_step (fail)
        go_big_quiet_step (fail)
        go_big_quiet_step (fail)
        go_big_quiet_step (fail)
        go_big_quiet_step (fail)
        go_big_quiet_step (first | (go_at_call 15; exact bel_same (nrest_any (HMM.out _))))
        go_big_quiet_step (fail)
        go_big_quiet_step (fail)
        go_big_quiet_step (fail)
        go_big_quiet_step (first | (go_at_call 14; exact bel_same (nwant_any (HMM.out _))))
        go_big_quiet_step (fail)
        go_big_quiet_step (fail)
        go_big_quiet_step (fail)
        refine wpQuiet_want (by rfl) fun K hK => quiet_ld 30 (.tmp 10) (by rfl) F 0 (by rfl) _ _ HRF.out Tryz.underlying30 rfl faultSize (hK _ ?_)
        simp only [Act.put, List.setIfInBounds_toArray, List.set_cons_succ, List.set_cons_zero]
        refine wpQuiet_want (by rfl) fun K hK => quiet_ld 30 (.tmp 6) (by rfl) A 0 (by rfl) _ _ HRA.out Tryz.underlying30 rfl faultSize (hK _ ?_)
        simp only [Act.put, List.setIfInBounds_toArray, List.set_cons_succ, List.set_cons_zero]
        go_big_quiet_step (fail)
        go_big_quiet_step (fail)
        go_big_quiet_step (fail)
        refine wpQuiet_want (by rfl) fun K hK => quiet_ld 30 (.tmp 13) (by rfl) G 0 (by rfl) _ _ HRG.out Tryz.underlying30 rfl faultSize (hK _ ?_)
        simp only [Act.put, List.setIfInBounds_toArray, List.set_cons_succ, List.set_cons_zero]
        refine wpQuiet_want (by rfl) fun K hK => quiet_ld 30 (.tmp 6) (by rfl) A 0 (by rfl) _ _ HRA.out Tryz.underlying30 rfl faultSize (hK _ ?_)
        simp only [Act.put, List.setIfInBounds_toArray, List.set_cons_succ, List.set_cons_zero]
        go_big_quiet_step (fail)
        go_big_quiet_step (fail)
        go_big_quiet_step (fail)
        go_big_quiet_step (fail)
        go_big_quiet_step (first | (go_at_call 13; exact bel_of (nend_any (HMM.out _))))
        refine wpQuiet_want (by rfl) fun K hK => quiet_ld 30 (.tmp 6) (by rfl) A 0 (by rfl) _ _ HRA.out Tryz.underlying30 rfl faultSize (hK _ ?_)
        simp only [Act.put, List.setIfInBounds_toArray, List.set_cons_succ, List.set_cons_zero]
        go_big_quiet_step (fail)
        go_big_quiet_step (fail)
        go_big_quiet_step (fail)
        go_big_quiet_step (fail)
        go_big_quiet_step (first | (go_at_call 8; exact bel_of (npois_any (HMM.out _))))
        refine wpQuiet_want (by rfl) fun K hK => quiet_bd 30 #[] (by rfl) _ (by simp) _ built_fz (hK _ ?_)
        simp only [Act.put, List.setIfInBounds_toArray, List.set_cons_succ, List.set_cons_zero]
        go_big_quiet_step (fail)
        go_big_quiet_step (fail)
        go_big_quiet_step (fail)
        go_big_quiet_step (fail)
        go_big_quiet_step (first | (go_at_call 16; exact bel_same (nclone_any (HMM.out _))))
        go_big_quiet_step (fail)
        go_big_quiet_step (fail)
        refine wpQuiet_nil ?_
        rintro w8 ⟨⟨w8', hb8⟩, hw8⟩
        obtain rfl : w8 = w8' := hw8
        have HA8 := hid (bel_keep hb8 HA6.out)
        have HB8 := hid (below_then HB6.out hb8)
        clear hb8
        go_wp2
        exact ⟨⟨2, by omega, by simp, HA8.out, HB8.out⟩, by simp [intOf]⟩
    | 2, _ =>
      as_aux_lemma =>
        go_wp2_with fail
        refine (awake8_any wr).mono ?_
        rintro e w2 ⟨rfl, hb2⟩
        have HB2 := hid (below_then HB.out hb2)
        clear hb2
        go_wp2
        go_ret
        exact ⟨rfl, HB2.out⟩
end Go.Proofs.YtiibhccbbpgehabGreat
