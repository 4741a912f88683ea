/- NewReader, and the calls Left, At, Fault, Fail, End and Byte of a reader that NewReader gave. -/
import Derived.Test.YtggmgbdofjhkdaaRdB
namespace Go.Proofs.Ytggmgbdofjhkdaa
open Go.RowKit

/-- behind the append: the new row is stored into the new reader -/
theorem rd_made {w w1 : World} {v : Value} {bs : List UInt8} {o : Array Value}
    (ho : o = #[.slice none 0 0, .int .i64 0, .int .i64 0, .int .i64 0, .bool true])
    (hown : OwnB w1 (w.heap.size + 1) v bs) (hg : (w.alloc (.cells o 78)).grownBy w1 none) :
    Rd (w1.setCell ⟨w.heap.size, 0, none⟩ v) w.heap.size w.heap.size v bs 0 0 0 ∧ Below w.heap.size w (w1.setCell ⟨w.heap.size, 0, none⟩ v) := by
  subst ho
  have hne : v.ownBlock ≠ some w.heap.size := fun e => by have := (hown.lt _ e).1; omega
  have hblk : w1.heap[w.heap.size]? = some (.cells #[.slice none 0 0, .int .i64 0, .int .i64 0, .int .i64 0, .bool true] 78 (0, 0)) :=
    (hg.block w.heap.size (by simp) (by simp)).trans (heap_alloc_new w _)
  refine ⟨⟨Nat.le_refl _, blk_set hblk _, (hown.kept (gb_set _ _ _) (Or.inr hne)).le (by omega), hne, Nat.zero_le _⟩, ?_⟩
  exact (((below_walk w _).grown hg (by simp) (by simp))).setCell (Nat.le_refl _) _

set_option maxHeartbeats 400000 in
theorem newReader_any (v0 : Value) (bs : List UInt8) (w : World) (hs : Src w v0 bs) :
    Calls Try.prog 15 #[v0] w fun e w' => ∃ b v, e = .returned (.pointer (some ⟨b, 0, none⟩)) ∧ Rd w' w.heap.size b v bs 0 0 0 ∧ Below w.heap.size w w' := by
  obtain ⟨i0, hi, hz0, hz1, hz2⟩ := info_parts Try.infoU8
  obtain ⟨hl, ⟨rfl, rfl⟩ | ⟨ad, cap, rfl, h1, h2, hlt, hc⟩⟩ := hs
  · go_enter Try.func15, Try.ntmps15
    go_wp2_with (at_builtin; refine wpList_append_own_none rfl _ _ 23 rfl (w.heap.size + 1) 5 i0 1 Try.underlying23 hi _ _ _ rfl (World.ownsRow_nil _ _ _ _) rfl ?_)
    go_ret
    exact ⟨_, _, rfl, ⟨Nat.le_refl _, heap_alloc_new w _, OwnB.nil _ _, by simp [Value.ownBlock], Nat.le_refl _⟩, below_walk _ _⟩
  · have HC : Hid (∀ j : Nat, j < bs.length → w.cell? (ad.add j) = some (.int .u8 (bs.getD j 0).toNat)) := hc
    clear hc
    have hsrc : ∀ (o : Obj) (j : Nat) (u : Value), (bytesV bs)[j]? = some u → (w.alloc o).cell? (ad.add j) = some u := by
      intro o j u hj
      rw [bytesV_get] at hj
      have hjl : j < bs.length := by
        rcases Nat.lt_or_ge j bs.length with h | h
        · exact h
        · rw [List.getElem?_eq_none h] at hj; cases hj
      rw [(below_walk w o).cell (p := ad.add j) (by rw [addr_block]; exact hlt (by omega)), HC.out j hjl, ← hj]
      simp [List.getElem?_eq_getElem hjl, List.getD_eq_getElem?_getD]
    have HS : Hid (∀ (o : Obj) (j : Nat) (u : Value), (bytesV bs)[j]? = some u → (w.alloc o).cell? (ad.add j) = some u) := hsrc
    clear hsrc
    go_enter Try.func15, Try.ntmps15
    go_wp2_with (at_builtin; refine wpList_append_own _ rfl _ _ 23 rfl (w.heap.size + 1) 5 i0 (.int .u8 0) 1 1 Try.underlying23 hi hz0 hz1 hz2 rfl (by decide) _ _ _ rfl (World.ownsRow_nil _ _ _ _) ad bs.length cap (bytesV bs) rfl (by simp [bytesV]) (HS.out _) (bytesV_one bs) ?c3 ?c4 ?c5 ?_)
    case c3 => unfold maxLen; omega
    case c4 => omega
    case c5 => simp
    intro v' w1 hown' hgrow _
    have hown : OwnB w1 (w.heap.size + 1) v' bs := hown'
    have R := rd_made rfl hown hgrow
    have HR : Hid (Rd (w1.setCell ⟨w.heap.size, 0, none⟩ v') w.heap.size w.heap.size v' bs 0 0 0 ∧ Below w.heap.size w (w1.setCell ⟨w.heap.size, 0, none⟩ v')) := R
    clear R
    have hblk : w1.heap[w.heap.size]? = some (.cells #[.slice none 0 0, .int .i64 0, .int .i64 0, .int .i64 0, .bool true] 78 (0, 0)) :=
      (hgrow.block w.heap.size (by simp) (by simp [Value.ownBlock])).trans (heap_alloc_new w _)
    have hcell : w1.cell? ⟨w.heap.size, 0, none⟩ = some (.slice none 0 0) := by simp [World.cell?, hblk]
    have hfroz : w1.frozen? ⟨w.heap.size, 0, none⟩ = false := by simp [World.frozen?, hblk]
    obtain ⟨a', c', hv'⟩ := hown.shape
    clear hown hown' hgrow hblk HS HC
    subst hv'
    go_wp2
    go_ret
    exact ⟨_, _, rfl, HR.out.1, HR.out.2⟩

section
variable (base b : Nat) (v : Value) (bs : List UInt8) (a : Nat) (why wat : Int) (w : World)

set_option maxHeartbeats 400000 in
theorem rat_any (h : Rd w base b v bs a why wat) :
    Calls Try.prog 28 #[.pointer (some ⟨b, 0, none⟩)] w fun e w' => e = .returned (.int .i64 a) ∧ w' = w := by
  have h4 := h.c4
  have h1 := h.c1
  clear h
  go_enter Try.func28, Try.ntmps28
  go_wp2_with (first
    | (go_at_call 58; refine (own_made _ _ h4).mono ?_; rintro e w' ⟨rfl, rfl⟩)
    | (go_at_call 67; refine (pat_any _ _ _ h1).mono ?_; rintro e w' ⟨rfl, rfl⟩))
  go_ret
  exact ⟨rfl, rfl⟩

set_option maxHeartbeats 400000 in
theorem rleft_any (h : Rd w base b v bs a why wat) :
    Calls Try.prog 29 #[.pointer (some ⟨b, 0, none⟩)] w fun e w' => e = .returned (.int .i64 (bs.length - a)) ∧ ∃ k, w' = w.drewN k := by
  have h4 := h.c4
  have h1 := h.c1
  have h0 := h.c0
  have hl := h.own.len
  have hle := h.le
  obtain ⟨ad, cap, rfl⟩ := h.own.shape
  clear h
  go_enter Try.func29, Try.ntmps29
  go_wp2_with (first
    | (go_at_call 58; refine (own_made _ _ h4).mono ?_; rintro e w' ⟨rfl, rfl⟩)
    | (go_at_call 68; refine (pleft_any _ _ _ _ _ _ hl (by omega) (by omega) h0 h1).mono ?_; rintro e w' ⟨rfl, k, rfl⟩))
  go_ret
  exact ⟨rfl, _, rfl⟩

set_option maxHeartbeats 400000 in
theorem rfault_any (h : Rd w base b v bs a why wat) :
    Calls Try.prog 27 #[.pointer (some ⟨b, 0, none⟩)] w fun e w' => e = .returned (.agg #[.int .i64 why, .int .i64 wat]) ∧ Below w.heap.size w w' := by
  have hb := h.below (below_walk w (.cells #[.int .i64 0, .int .i64 0] 56))
  have h4 := hb.c4
  have h2 := hb.c2
  have h3 := hb.c3
  clear hb
  have hlt := h.lt
  clear h
  go_enter Try.func27, Try.ntmps27
  go_wp2_with (first
    | (go_at_call 58; refine (own_made _ _ h4).mono ?_; rintro e w' ⟨rfl, rfl⟩))
  exact bodyPost_ret (v := .agg #[.int .i64 why, .int .i64 wat]) (by simp [results, Try.results27, go_sem]) rfl ⟨rfl, below_walk _ _⟩
end

end Go.Proofs.Ytggmgbdofjhkdaa
