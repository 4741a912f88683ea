/- From what the rows say of the arguments to what the walks want: numbers, bytes, lists of bytes. -/
import Derived.Test.YtljppkpieoejlabRows
import Derived.Test.YtljppkpieoejlabCBase
import Derived.Test.YtljppkpieoejlabSRead
import Derived.ProofKit
import Derived.OpenShut
import Derived.Deep.Slices
import Derived.SizedLaws
namespace Go.Proofs.Ytljppkpieoejlab
open Go.ChangeShapes Go.WideShapes Go.ChangeAt Go.RowKit

theorem own : ownKnob Try.prog.godebug = none := by kernel_rfl
theorem laidOut : laidOutB Try.prog = true := by kernel_rfl
theorem cellsBytes : Try.prog.cellsOf 22 = 1 := by kernel_rfl
theorem bytesU8 : Try.prog.bytesOf 5 = 1 := by kernel_rfl
theorem bytesSl : Try.prog.bytesOf 22 = 24 := by kernel_rfl

theorem wf_i64 {n : Int} (h : (Lit.int .i64 n).wf = true) : -9223372036854775808 ≤ n ∧ n ≤ 9223372036854775807 := by
  simpa [Lit.wf, IntKind.min, IntKind.max, IntKind.signed, IntKind.bits] using h
theorem wf_u32 {n : Int} (h : (Lit.int .u32 n).wf = true) : 0 ≤ n ∧ n ≤ 4294967295 := by
  simpa [Lit.wf, IntKind.min, IntKind.max, IntKind.signed, IntKind.bits] using h
theorem wf_u8 {n : Int} (h : (Lit.int .u8 n).wf = true) : 0 ≤ n ∧ n ≤ 255 := by
  simpa [Lit.wf, IntKind.min, IntKind.max, IntKind.signed, IntKind.bits] using h
theorem addr_plain {w : World} {a : Addr} {v : Value} (h : w.cell? a = some v) : a = ⟨a.block, a.off, none⟩ := by
  obtain ⟨b, o, sp⟩ := a
  cases sp with
  | none => rfl
  | some s =>
    unfold World.cell? at h
    split at h <;> simp at h
theorem add_plain (b o j : Nat) : (⟨b, o, none⟩ : Addr).add j = ⟨b, o + j, none⟩ := by
  by_cases h : j = 0
  · subst h; simp [Addr.add]
  · simp [Addr.add, h]
theorem list_of {α : Type} {P : Nat → α → Prop} : ∀ {n : Nat}, (∀ i, i < n → ∃ x, P i x) → ∃ l : List α, l.length = n ∧ ∀ j x, l[j]? = some x → P j x
  | 0, _ => ⟨[], rfl, by intro j x h; simp at h⟩
  | n + 1, h => by
    obtain ⟨l, hl, hp⟩ := list_of (n := n) (fun i hi => h i (by omega))
    obtain ⟨x, hx⟩ := h n (by omega)
    refine ⟨l ++ [x], by simp [hl], fun j y hj => ?_⟩
    rcases Nat.lt_or_ge j n with hjn | hjn
    · rw [List.getElem?_append_left (by omega)] at hj
      exact hp j y hj
    · rw [List.getElem?_append_right (by omega)] at hj
      have : j - l.length = 0 := by
        rcases Nat.eq_zero_or_pos (j - l.length) with h0 | h0
        · exact h0
        · rw [List.getElem?_eq_none (by simp; omega)] at hj; cases hj
      rw [this] at hj
      simp at hj
      subst hj
      obtain rfl : j = n := by omega
      exact hx
theorem weightsAll_mem {H : Type} {P : Program} {e : TypeId} : ∀ {l : List (DataW H)} {d : DataW H}, d ∈ l → ∀ n ∈ d.weights P e, n ∈ DataW.weightsAll P e l
  | d' :: r, d, hd, n, hn => by
    simp only [DataW.weightsAll, List.mem_append]
    rcases List.mem_cons.1 hd with rfl | h
    · exact Or.inl hn
    · exact Or.inr (weightsAll_mem h n hn)

section
variable {H : Type} {enc : TypeId × Value → H} {W : World} {spare : Nat → Bool} {held : Bool}
/-- bytes out of their reading -/
theorem bytes_w {ao : Option Addr} {n c : Nat} {d : DataW H} {pl : List MemPlace} (h : DataW.Trod enc Try.prog W 0 spare held 22 (.slice ao n c) d pl) (hk : ∀ x ∈ d.weights Try.prog 22, x ≤ reachBytes) :
    ∃ bs : List UInt8, Src W (.slice ao n c) bs ∧ bs.length = n ∧ bs.length ≤ reachBytes := by
  have hr : reachBytes < 2 ^ 47 := reachBytes_lt
  have hb : ∀ elems more, d = .slice elems more → elems.length ≤ reachBytes := fun elems more e => by
    subst e
    have := hk ((elems.length + more.length) * Try.prog.bytesOf 5) (by simp [DataW.weights, Try.underlying22])
    rw [bytesU8] at this
    omega
  obtain ⟨bs, h1, h2⟩ := bytes_full h (fun el mo e => by have := hb el mo e; omega)
  refine ⟨bs, h1, h2, ?_⟩
  obtain ⟨fuel, hf⟩ := h
  rcases Go.Deep.open_slice1 Try.underlying22 cellsU8 hf with ⟨hcs, _⟩ | ⟨a, len, cap, m, n', V, D, Pl, hcs, _, _, _, _, hx, _⟩
  · simp [Value.cells] at hcs
    rw [h2, hcs.2.1]
    exact Nat.zero_le _
  · simp [Value.cells] at hcs
    simp only [Prod.mk.injEq] at hx
    have := hb _ _ hx.1
    simp at this
    omega
/-- lists of bytes out of their reading -/
theorem lists_w {ao : Option Addr} {n c : Nat} {d : DataW H} {pl : List MemPlace} (h : DataW.Trod enc Try.prog W 0 spare held 39 (.slice ao n c) d pl) (hk : ∀ x ∈ d.weights Try.prog 39, x ≤ reachBytes) :
    ∃ pss : List (List UInt8), Lists W (.slice ao n c) pss ∧ pss.length = n ∧ n ≤ 140737488355327 := by
  have hr : reachBytes < 2 ^ 47 := reachBytes_lt
  obtain ⟨fuel, hf⟩ := h
  rcases Go.Deep.open_slice1 Try.underlying39 cellsBytes hf with ⟨hcs, _⟩ | ⟨a, len, cap, m, n', V, D, Pl, hcs, _, hl, _, hmm, hx, hel⟩
  · simp [Value.cells] at hcs
    obtain ⟨rfl, rfl, rfl⟩ := hcs
    exact ⟨[], Or.inl ⟨none, 0, rfl, rfl⟩, rfl, by omega⟩
  · simp [Value.cells] at hcs
    obtain ⟨rfl, rfl, rfl⟩ := hcs
    simp only [Prod.mk.injEq] at hx
    obtain ⟨rfl, _⟩ := hx
    have hlm : n ≤ m := by rw [hmm]; split <;> omega
    have hn : n ≤ 140737488355327 := by
      have := hk (((List.range n).map D).length * Try.prog.bytesOf 22 + ((List.range (m - n)).map fun j => D (n + j)).length * Try.prog.bytesOf 22) (by simp [DataW.weights, Try.underlying39, Nat.add_mul])
      rw [bytesSl] at this
      simp at this
      omega
    have hin : ∀ i, i < n → ∃ bs : List UInt8, Src W (V i) bs := by
      intro i hi
      obtain ⟨h1, h2⟩ := hel i (by omega)
      have hw : ∀ x ∈ (D i).weights Try.prog 22, x ≤ reachBytes := fun x hxm => hk x (by
        simp only [DataW.weights, Try.underlying39, List.mem_cons, List.mem_append]
        exact Or.inr (Or.inl (weightsAll_mem (List.mem_map.2 ⟨i, List.mem_range.2 hi, rfl⟩) x hxm)))
      obtain ⟨ai, ni, ci, hV⟩ : ∃ ai ni ci, V i = .slice ai ni ci := by
        rcases DataW.trod_slice Try.underlying22 h2 with ⟨hc, _⟩ | ⟨a', len', cap', _, _, _, _, hc, _⟩
        · simp at hc; exact ⟨_, _, _, hc⟩
        · simp at hc; exact ⟨_, _, _, hc⟩
      rw [hV] at h2 ⊢
      obtain ⟨bs, hb, _⟩ := bytes_w (pl := Pl i) (d := D i) ⟨n', by simpa [Value.cells] using h2⟩ hw
      exact ⟨bs, hb⟩
    obtain ⟨pss, hpl, hps⟩ := list_of hin
    rcases Nat.eq_zero_or_pos n with rfl | hpos
    · exact ⟨[], Or.inl ⟨_, _, rfl, rfl⟩, rfl, by omega⟩
    · have h0 := (hel 0 (by omega)).1
      have ha : a = ⟨a.block, a.off, none⟩ := addr_plain (v := V 0) (by simpa [Addr.add] using h0)
      have hlt : a.block < W.heap.size := World.block_lt_of_cell? W a (u := V 0) (by simpa [Addr.add] using h0)
      generalize a.block = g at ha hlt
      generalize a.off = o at ha
      subst ha
      refine ⟨pss, Or.inr ⟨g, o, c, by rw [hpl], hlt, fun j hj => ?_⟩, hpl, hn⟩
      have h1 := (hel j (by omega)).1
      rw [add_plain] at h1
      refine ⟨V j, h1, ?_⟩
      exact hps j _ (by simp [List.getD_eq_getElem?_getD, List.getElem?_eq_getElem hj])
theorem sized_at {ts : List TypeId} {ds : List (DataW H)} (h : ((DataW.weightsEach Try.prog ts ds).all fun x => decide (x ≤ reachBytes)) = true) {j : Nat} {t : TypeId} {d : DataW H} (ht : ts[j]? = some t) (hd : ds[j]? = some d) : ∀ x ∈ d.weights Try.prog t, x ≤ reachBytes :=
  fun x hx => of_decide_eq_true (List.all_eq_true.1 h _ (DataW.weights_mem_each ht hd x hx))
end

end Go.Proofs.Ytljppkpieoejlab
