/- Load of a state that may not be, and the document's Load. -/
import Derived.Test.YticmdmnjajjpbabDoorSLoad2
namespace Go.Proofs.YticmdmnjajjpbabDoor
open Go.RowKit

/-- may a state be? -/
def mayBe (buf : List UInt8) (N : Nat) : Prop := N ≤ 2305843009213693951 ∧ buf.length = N % 64

set_option maxRecDepth 100000 in
set_option maxHeartbeats 1000000 in
theorem load_bad (w : World) (H : List Int) (vb : Value) (buf : List UInt8) (N : Nat) (hH : H.length = 8) (hN : N < 18446744073709551616) (hm : ¬ mayBe buf N) (hs : Src w vb buf) :
    Calls Tryd.prog 10 #[.agg (scells H vb N).toArray] w fun e w' => e = .returned (.tuple #[.pointer none, .int .i64 20]) ∧ Below w.heap.size w w' := by
  obtain ⟨K, HK⟩ : ∃ K, Hid (K = N % 64) := ⟨_, rfl⟩
  have hK64 : K < 64 := by rw [HK.out]; omega
  have hrem : ((N : Nat) : Int).tmod 64 = (K : Int) := by rw [HK.out]; rfl
  obtain ⟨ao, cp, rfl⟩ := src_shape hs
  have hbl := hs.1
  have hb0 := hp_new w (.cells (scells H (.slice ao buf.length cp) N).toArray 27)
  have HB0 := hid (below_walk w (.cells (scells H (.slice ao buf.length cp) N).toArray 27))
  have HSb := hid (⟨hb0, hH⟩ : Sb (w.alloc (.cells (scells H (.slice ao buf.length cp) N).toArray 27)) w.heap.size H (.slice ao buf.length cp) N)
  have hcase : 2305843009213693951 < N ∨ (N ≤ 2305843009213693951 ∧ buf.length ≠ K) := by
    rcases Nat.lt_or_ge 2305843009213693951 N with h | h
    · exact Or.inl h
    · exact Or.inr ⟨h, fun e => hm ⟨h, by rw [e, HK.out]⟩⟩
  clear hb0 hH hs hm
  go_enter Tryd.func10, Tryd.ntmps10
  go_upto_region 1 with fail
  generalize w.alloc (.cells (scells H (.slice ao buf.length cp) N).toArray 27) = wv at HB0 HSb ⊢
  have c8 := HSb.out.c8
  have c9 := HSb.out.c9
  rcases hcase with h1 | ⟨h1, h2⟩
  · have q1 : (2305843009213693951 : Int) < (N : Int) := by omega
    clear h1
    go_wp2
    refine bodyPost_ret (results_tmp2 rfl _ _ _) rfl ⟨rfl, HB0.out⟩
  · have q1 : ¬ (2305843009213693951 : Int) < (N : Int) := by omega
    have q2 : ((buf.length : Int) != (K : Int)) = true := by simp; omega
    have q3 : ((buf.length : Int) == (K : Int)) = false := by simp; omega
    have q4 : ¬ (buf.length : Int) = (K : Int) := by omega
    clear h1 h2
    go_wp2
    refine bodyPost_ret (results_tmp2 rfl _ _ _) rfl ⟨rfl, HB0.out⟩

set_option maxRecDepth 100000 in
set_option maxHeartbeats 1000000 in
theorem rload_ok (w : World) (H : List Int) (vb : Value) (buf : List UInt8) (N : Nat) (hH : H.length = 8) (hm : mayBe buf N) (hs : Src w vb buf) :
    Calls Tryd.prog 11 #[.agg (scells H vb N).toArray] w fun e w' => e = .returned (.int .i64 0) ∧ Below w.heap.size w w' := by
  obtain ⟨K, HK⟩ : ∃ K, Hid (K = N % 64) := ⟨_, rfl⟩
  have hrem : ((N : Nat) : Int).tmod 64 = (K : Int) := by rw [HK.out]; rfl
  obtain ⟨ao, cp, rfl⟩ := src_shape hs
  have hbK : buf.length = K := by rw [HK.out]; exact hm.2
  have hN := hm.1
  have hK : K < 64 := by rw [HK.out]; omega
  have hb0 := hp_new w (.cells (scells H (.slice ao buf.length cp) N).toArray 27)
  have HB0 := hid (below_walk w (.cells (scells H (.slice ao buf.length cp) N).toArray 27))
  have HSb := hid (⟨hb0, hH⟩ : Sb (w.alloc (.cells (scells H (.slice ao buf.length cp) N).toArray 27)) w.heap.size H (.slice ao buf.length cp) N)
  rw [hbK] at HB0 HSb ⊢
  clear hb0 hH hs hm hbK
  go_enter Tryd.func11, Tryd.ntmps11
  go_upto_region 1 with fail
  generalize w.alloc (.cells (scells H (.slice ao K cp) N).toArray 27) = wv at HB0 HSb ⊢
  have c8 := HSb.out.c8
  have c9 := HSb.out.c9
  have q1 : ¬ (2305843009213693951 : Int) < (N : Int) := by omega
  go_wp2
  go_ret
  exact ⟨rfl, HB0.out⟩

set_option maxRecDepth 100000 in
set_option maxHeartbeats 1000000 in
theorem rload_bad (w : World) (H : List Int) (vb : Value) (buf : List UInt8) (N : Nat) (hH : H.length = 8) (hN : N < 18446744073709551616) (hm : ¬ mayBe buf N) (hs : Src w vb buf) :
    Calls Tryd.prog 11 #[.agg (scells H vb N).toArray] w fun e w' => e = .returned (.int .i64 20) ∧ Below w.heap.size w w' := by
  obtain ⟨K, HK⟩ : ∃ K, Hid (K = N % 64) := ⟨_, rfl⟩
  have hK64 : K < 64 := by rw [HK.out]; omega
  have hrem : ((N : Nat) : Int).tmod 64 = (K : Int) := by rw [HK.out]; rfl
  obtain ⟨ao, cp, rfl⟩ := src_shape hs
  have hbl := hs.1
  have hb0 := hp_new w (.cells (scells H (.slice ao buf.length cp) N).toArray 27)
  have HB0 := hid (below_walk w (.cells (scells H (.slice ao buf.length cp) N).toArray 27))
  have HSb := hid (⟨hb0, hH⟩ : Sb (w.alloc (.cells (scells H (.slice ao buf.length cp) N).toArray 27)) w.heap.size H (.slice ao buf.length cp) N)
  have hcase : 2305843009213693951 < N ∨ (N ≤ 2305843009213693951 ∧ buf.length ≠ K) := by
    rcases Nat.lt_or_ge 2305843009213693951 N with h | h
    · exact Or.inl h
    · exact Or.inr ⟨h, fun e => hm ⟨h, by rw [e, HK.out]⟩⟩
  clear hb0 hH hs hm
  go_enter Tryd.func11, Tryd.ntmps11
  go_upto_region 1 with fail
  generalize w.alloc (.cells (scells H (.slice ao buf.length cp) N).toArray 27) = wv at HB0 HSb ⊢
  have c8 := HSb.out.c8
  have c9 := HSb.out.c9
  rcases hcase with h1 | ⟨h1, h2⟩
  · have q1 : (2305843009213693951 : Int) < (N : Int) := by omega
    clear h1
    go_wp2
    go_ret
    exact ⟨rfl, HB0.out⟩
  · have q1 : ¬ (2305843009213693951 : Int) < (N : Int) := by omega
    have q2 : ((buf.length : Int) != (K : Int)) = true := by simp; omega
    have q3 : ((buf.length : Int) == (K : Int)) = false := by simp; omega
    have q4 : ¬ (buf.length : Int) = (K : Int) := by omega
    clear h1 h2
    go_wp2
    go_ret
    exact ⟨rfl, HB0.out⟩

end Go.Proofs.YticmdmnjajjpbabDoor
