/- The law's stands: the two readers stand alike; and New. -/
import Derived.Test.YtggmgbdofjhkdaaStepA
namespace Go.Proofs.Ytggmgbdofjhkdaa
open Go.RowKit

set_option maxRecDepth 100000 in
set_option maxHeartbeats 2000000 in
theorem qnew_any (v0 : Value) (bs : List UInt8) (w : World) (hs : Src w v0 bs) :
    Calls Try.prog 17 #[v0] w fun e w' => ∃ v', e = .returned (.agg #[v', .int .i64 0, .int .i64 0, .int .i64 0]) ∧ OwnB w' w.heap.size v' bs ∧ Below w.heap.size w w' := by
  have HS := hid (hs.below (below_walk w (.cells #[.slice none 0 0, .int .i64 0, .int .i64 0, .int .i64 0] 40)))
  have hl := hs.1
  clear hs
  go_enter Try.func17, Try.ntmps17
  go_wp2_with (at_builtin; refine app_src rfl _ _ rfl (w.heap.size + 1) _ _ rfl (OwnB.nil _ _) _ _ rfl HS.out ?c1 ?c2 ?_)
  case c1 => simpa using hl
  case c2 => simp
  intro v1 w1 ho1 hg1
  have HO1 := hid (by simpa using ho1 : OwnB w1 (w.heap.size + 1) v1 bs)
  have HB1 := hid ((below_walk w _).trans ((gb_below hg1).mono (by simp)))
  have n0 : w1.cell? ⟨w.heap.size, 0, none⟩ = some (.slice none 0 0) := by rw [(gb_below hg1).cell (p := ⟨w.heap.size, 0, none⟩) (by simp)]; simp
  have n1 : w1.cell? ⟨w.heap.size, 1, none⟩ = some (.int .i64 0) := by rw [(gb_below hg1).cell (p := ⟨w.heap.size, 1, none⟩) (by simp)]; simp
  have n2 : w1.cell? ⟨w.heap.size, 2, none⟩ = some (.int .i64 0) := by rw [(gb_below hg1).cell (p := ⟨w.heap.size, 2, none⟩) (by simp)]; simp
  have n3 : w1.cell? ⟨w.heap.size, 3, none⟩ = some (.int .i64 0) := by rw [(gb_below hg1).cell (p := ⟨w.heap.size, 3, none⟩) (by simp)]; simp
  have f0 : ∀ i, w1.frozen? ⟨w.heap.size, i, none⟩ = false := by intro i; rw [(gb_below hg1).frozen (p := ⟨w.heap.size, i, none⟩) (by simp)]; simp
  have f1 := f0 0
  have f2 := f0 1
  have f3 := f0 2
  have f4 := f0 3
  clear ho1 hg1 f0
  obtain ⟨ad, cap, rfl⟩ := HO1.out.shape
  go_wp2_with fail
  have hg : w1.grownBy ((((w1.setCell ⟨w.heap.size, 0, none⟩ (.slice ad bs.length cap)).setCell ⟨w.heap.size, 1, none⟩ (.int .i64 0)).setCell ⟨w.heap.size, 2, none⟩ (.int .i64 0)).setCell ⟨w.heap.size, 3, none⟩ (.int .i64 0)) (some w.heap.size) :=
    gb_trans (gb_trans (gb_trans (gb_set _ _ _) (gb_set _ _ _)) (gb_set _ _ _)) (gb_set _ _ _)
  exact bodyPost_ret (v := .agg #[.slice ad bs.length cap, .int .i64 0, .int .i64 0, .int .i64 0]) (by simp [results, Try.results17, go_sem, n0, n1, n2, n3]) rfl ⟨_, rfl, (HO1.out.far hg (fun j e => by cases e; omega)).le (by omega), Below.of_gb HB1.out hg (Nat.le_refl _)⟩

set_option maxRecDepth 100000 in
set_option maxHeartbeats 4000000 in
theorem stands_any {base1 b1 : Nat} {v1 : Value} {base2 b2 : Nat} {v2 : Value} {bs : List UInt8} {a : Nat} {why wat : Int} (w : World) (h : Pair w base1 b1 v1 base2 b2 v2 bs a why wat) :
    Calls Try.prog 19 #[.pointer (some ⟨b1, 0, none⟩), .pointer (some ⟨b2, 0, none⟩)] w fun e w' => e = .returned (.bool true) ∧ Below w.heap.size w w' := by
  have HP := hid h
  clear h
  go_enter Try.func19, Try.ntmps19
  go_wp2_with fail
  refine (rfault_any _ _ _ _ _ _ _ _ HP.out.r).mono ?_
  rintro e w1 ⟨rfl, hb1⟩
  have HX := hid (below_walk w1 (.cells #[.int .i64 why, .int .i64 wat] 56))
  have HP1 := hid ((HP.out.below hb1).below HX.out)
  have HB := hid (hb1.trans (HX.out.mono hb1.size))
  clear hb1 HP
  have hl := HP1.out.q.own.len
  unfold maxLen at hl
  have hle := HP1.out.q.le
  obtain ⟨ad, cap, hv2⟩ := HP1.out.q.own.shape
  have q0 := HP1.out.q.c0
  have q1 := HP1.out.q.c1
  have q2 := HP1.out.q.c2
  have q3 := HP1.out.q.c3
  rw [hv2] at q0
  clear hv2
  have hlt2 := HP1.out.q.lt
  go_wp2_with fail
  go_quiet (first | (go_at_call 28; exact Calls.quiet_of_same (rat_any _ _ _ _ _ _ _ _ (HP1.out.r.drewN _))) | (go_at_call 29; exact Calls.quiet_of (rleft_any _ _ _ _ _ _ _ _ (HP1.out.r.drewN _))))
  go_wp2_with fail
  go_ret
  exact ⟨by simp, below_drewN HB.out _⟩

end Go.Proofs.Ytggmgbdofjhkdaa
