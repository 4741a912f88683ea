/- A row of calls: what it is in memory; a region that draws its order, by hand. -/
import Derived.Test.YticmdmnjajjpbabDoorSCalls0
import Derived.Test.YticmdmnjajjpbabDoorSCalls1
import Derived.Test.YticmdmnjajjpbabDoorSAwake
namespace Go.Proofs.YticmdmnjajjpbabDoor
open Go.RowKit

section
variable {P : Program} {ops : Array Oper} {Q : Exit → Act → World → Prop} {fuel : Nat} {listed : Array Bool} {a : Act} {w : World}
theorem any_one (i : Nat) (o : Oper) (ho : ops[i]? = some o) (hr : Region.ready .any ops listed = [i])
    (h : ∀ K' : Act → World → Prop, Shut (∀ a w, wpAny P .any ops (noPanic Q) fuel (listed.setIfInBounds i true) a w → K' a w) → if Region.wanted o (yielded ops a.tmps) = true then Oper.wp P o a w K' (noPanic Q) else K' (a.put o.dst undef) w) :
    wpAny P .any ops (noPanic Q) (fuel + 1) listed a w :=
  wpAny_all hr (by simp) fun n hn => by
    simp only [List.mem_cons, List.not_mem_nil, or_false] at hn
    subst hn
    exact wpOp_step ho (fun K' hK => h K' hK)
theorem any_done (hr : Region.ready .any ops listed = []) (h : Q .normal a w) : ∀ fuel, wpAny P .any ops (noPanic Q) fuel listed a w
  | 0 => ⟨hr, h⟩
  | _ + 1 => ⟨fun _ => h, by rw [hr]; simp⟩
end

/-- v is a slice of calls -/
def OpsL (w : World) (v : Value) (n : Nat) : Prop :=
  (∃ ao c, v = .slice ao 0 c ∧ n = 0) ∨
  ∃ g o c, v = .slice (some ⟨g, o, none⟩) n c ∧ g < w.heap.size ∧ ∀ j, j < n → ∃ (d : Int) (ao : Option Addr) (k cc : Nat) (pss : List (List UInt8)), w.rangeAt g (o + j * 2) [.int .i64 d, .slice ao k cc] ∧ Lists (· < w.heap.size) w (.slice ao k cc) pss ∧ pss.length ≤ 1048576 ∧ (fl pss).length ≤ 1048576
theorem OpsL.shape {w : World} {v : Value} {n : Nat} (h : OpsL w v n) : ∃ ao c, v = .slice ao n c := by
  rcases h with ⟨ao, c, rfl, rfl⟩ | ⟨g, o, c, rfl, _⟩
  · exact ⟨_, _, rfl⟩
  · exact ⟨_, _, rfl⟩

theorem built_h (b0 b1 : Nat) : Tryd.prog.built 39 [(0, .pointer (some ⟨b0, 0, none⟩)), (1, .pointer (some ⟨b1, 0, none⟩))] = some #[.pointer (some ⟨b0, 0, none⟩), .pointer (some ⟨b1, 0, none⟩)] := by kernel_rfl
theorem built_s10 (x0 x1 x2 x3 x4 x5 x6 x7 x8 x9 y0 y1 y2 y3 y4 y5 y6 y7 y8 y9 : Value) : Tryd.prog.built 41 [(0, .agg #[x0, x1, x2, x3, x4, x5, x6, x7, x8, x9]), (1, .agg #[y0, y1, y2, y3, y4, y5, y6, y7, y8, y9])] = some #[x0, x1, x2, x3, x4, x5, x6, x7, x8, x9, y0, y1, y2, y3, y4, y5, y6, y7, y8, y9] := by kernel_rfl
theorem ten_of {α : Type} {l : List α} (h : l.length = 10) : ∃ a b c d e f g i j k, l = [a, b, c, d, e, f, g, i, j, k] := by
  match l, h with
  | [a, b, c, d, e, f, g, i, j, k], _ => exact ⟨a, b, c, d, e, f, g, i, j, k, rfl⟩
theorem built_s (s0 s1 : List Value) (h0 : s0.length = 10) (h1 : s1.length = 10) : Tryd.prog.built 41 [(0, .agg s0.toArray), (1, .agg s1.toArray)] = some (s0 ++ s1).toArray := by
  obtain ⟨x0, x1, x2, x3, x4, x5, x6, x7, x8, x9, rfl⟩ := ten_of h0
  obtain ⟨y0, y1, y2, y3, y4, y5, y6, y7, y8, y9, rfl⟩ := ten_of h1
  exact built_s10 x0 x1 x2 x3 x4 x5 x6 x7 x8 x9 y0 y1 y2 y3 y4 y5 y6 y7 y8 y9
theorem built_p20 (p0 p1 x0 x1 x2 x3 x4 x5 x6 x7 x8 x9 y0 y1 y2 y3 y4 y5 y6 y7 y8 y9 : Value) : Tryd.prog.built 43 [(0, .agg #[p0, p1]), (1, .agg #[x0, x1, x2, x3, x4, x5, x6, x7, x8, x9, y0, y1, y2, y3, y4, y5, y6, y7, y8, y9])] = some #[p0, p1, x0, x1, x2, x3, x4, x5, x6, x7, x8, x9, y0, y1, y2, y3, y4, y5, y6, y7, y8, y9, .int .i64 0] := by kernel_rfl
theorem built_p (b0 b1 : Nat) (s0 s1 : List Value) (h0 : s0.length = 10) (h1 : s1.length = 10) : Tryd.prog.built 43 [(0, .agg #[.pointer (some ⟨b0, 0, none⟩), .pointer (some ⟨b1, 0, none⟩)]), (1, .agg (s0 ++ s1).toArray)] = some (pc b0 b1 s0 s1 0).toArray := by
  obtain ⟨x0, x1, x2, x3, x4, x5, x6, x7, x8, x9, rfl⟩ := ten_of h0
  obtain ⟨y0, y1, y2, y3, y4, y5, y6, y7, y8, y9, rfl⟩ := ten_of h1
  exact built_p20 _ _ x0 x1 x2 x3 x4 x5 x6 x7 x8 x9 y0 y1 y2 y3 y4 y5 y6 y7 y8 y9

/-- how the law's loop stands -/
structure Pl (w : World) (pp : Nat) (b0 b1 : Nat) (σ τ : S5) (n : Nat) (W : World) : Prop where
  pb : Pb W pp b0 b1 σ.cs τ.cs (n : Int)
  a0 : At W w.heap.size b0 σ
  a1 : At W w.heap.size b1 τ
  ne : b0 ≠ b1
  lt : n < 2
  bel : Below w.heap.size w W
  lo : w.heap.size ≤ pp
theorem Pl.below {w : World} {pp : Nat} {b0 b1 : Nat} {σ τ : S5} {n : Nat} {W W' : World} (h : Pl w pp b0 b1 σ τ n W) (hb : Below W.heap.size W W') : Pl w pp b0 b1 σ τ n W' :=
  ⟨h.pb.below hb, h.a0.below hb, h.a1.below hb, h.ne, h.lt, h.bel.trans (hb.mono h.bel.size), h.lo⟩
/-- behind a call, and behind the store of its answer -/
theorem Pl.good {w : World} {pp : Nat} {b0 b1 bc : Nat} {σ τ : S5} {n : Nat} {W W' : World} {H : List Int} {buf : List UInt8} {N : Nat} (h : Pl w pp b0 b1 σ τ n W) (hc : Hg W bc H buf N) (hg : W.grownBy W' (some bc)) : W'.heap[pp]? = some (.cells (pc b0 b1 σ.cs τ.cs (n : Int)).toArray 43 (0, 0)) :=
  (hg.block pp h.pb.lt (by simpa using hg_other hc h.pb.blk (by decide))).trans h.pb.blk
theorem Pl.next {w : World} {pp : Nat} {c0 c1 : Nat} {σ τ : S5} {n : Nat} {W W' : World} {old : Array Value} (h0 : At W w.heap.size c0 σ) (h1 : At W w.heap.size c1 τ) (hne : c0 ≠ c1) (hn : n < 2) (hb : Below w.heap.size w W) (hlo : w.heap.size ≤ pp)
    (hold : W.heap[pp]? = some (.cells old 43 (0, 0))) (hw : RowSet W W' pp (pc c0 c1 σ.cs τ.cs (n : Int)) 43) : Pl w pp c0 c1 σ τ n W' :=
  ⟨⟨hw.blk, h0.cs, h1.cs⟩, h0.typ hold (by decide) (by decide) hw.grown, h1.typ hold (by decide) (by decide) hw.grown, hne, hn, hb.grown hw.grown hb.size (by intro k hk; cases hk; exact hlo), hlo⟩

end Go.Proofs.YticmdmnjajjpbabDoor
