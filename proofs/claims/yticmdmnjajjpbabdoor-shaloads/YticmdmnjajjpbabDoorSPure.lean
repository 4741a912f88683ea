/- Bytes into a state, one by one: what writing means. -/
import Derived.Test.YticmdmnjajjpbabDoorSHash
namespace Go.Proofs.YticmdmnjajjpbabDoor
open Go.RowKit

/-- bytes, as numbers -/
def ints (bs : List UInt8) : List Int := bs.map fun c => (c.toNat : Int)
theorem ints_length (bs : List UInt8) : (ints bs).length = bs.length := by simp [ints]
theorem ints_append (a b : List UInt8) : ints (a ++ b) = ints a ++ ints b := by simp [ints]
theorem u8V_ints (bs : List UInt8) : u8V (ints bs) = bytesV bs := by simp [u8V, ints, bytesV]
/-- the bytes behind the whole blocks, and noughts behind them -/
def pad64 (buf : List UInt8) : List Int := ints buf ++ zeros (64 - buf.length)
theorem pad64_length (buf : List UInt8) (h : buf.length ≤ 64) : (pad64 buf).length = 64 := by simp [pad64, ints_length, zeros_length]; omega

/-- one byte more -/
def step1 (s : List Int × List UInt8) (c : UInt8) : List Int × List UInt8 :=
  if s.2.length = 63 then (comp s.1 (ints (s.2 ++ [c])), []) else (s.1, s.2 ++ [c])
/-- bytes more -/
def absorb (s : List Int × List UInt8) (bs : List UInt8) : List Int × List UInt8 := bs.foldl step1 s
theorem absorb_nil (s : List Int × List UInt8) : absorb s [] = s := rfl
theorem absorb_append (s : List Int × List UInt8) (a b : List UInt8) : absorb s (a ++ b) = absorb (absorb s a) b := by simp [absorb]
theorem absorb_short (H : List Int) : ∀ (a buf : List UInt8), buf.length + a.length < 64 → absorb (H, buf) a = (H, buf ++ a)
  | [], buf, _ => by simp [absorb]
  | c :: r, buf, h => by
    have e : step1 (H, buf) c = (H, buf ++ [c]) := by
      unfold step1
      rw [if_neg]
      simp at h ⊢
      omega
    have := absorb_short H r (buf ++ [c]) (by simp at h ⊢; omega)
    simp only [absorb, List.foldl_cons, e] at this ⊢
    rw [this]
    simp
theorem absorb_full (H : List Int) (a buf : List UInt8) (h : buf.length + a.length = 64) (ha : 0 < a.length) : absorb (H, buf) a = (comp H (ints (buf ++ a)), []) := by
  obtain ⟨r, c, rfl⟩ : ∃ r c, a = r ++ [c] := ⟨a.dropLast, a.getLast (by intro e; rw [e] at ha; simp at ha), (List.dropLast_concat_getLast _).symm⟩
  rw [absorb_append, absorb_short H r buf (by simp at h ⊢; omega)]
  simp only [absorb, List.foldl_cons, List.foldl_nil, step1]
  rw [if_pos (by simp at h ⊢; omega)]
  simp
theorem absorb_H (s : List Int × List UInt8) (bs : List UInt8) (h : s.1.length = 8) : (absorb s bs).1.length = 8 := by
  induction bs generalizing s with
  | nil => exact h
  | cons c r ih =>
    refine ih _ ?_
    unfold step1
    split
    · exact comp_length _ _ h
    · exact h
theorem absorb_len (s : List Int × List UInt8) (bs : List UInt8) (h : s.2.length < 64) : (absorb s bs).2.length = (s.2.length + bs.length) % 64 := by
  induction bs generalizing s with
  | nil => simp [absorb, Nat.mod_eq_of_lt h]
  | cons c r ih =>
    show (absorb (step1 s c) r).2.length = _
    unfold step1
    split
    · rename_i e
      rw [ih _ (by simp)]
      simp [e]
      omega
    · rw [ih _ (by simp; omega)]
      simp
      congr 1
      omega

/-- block b is a Hash that stands so -/
structure Hst (w : World) (b : Nat) (H : List Int) (buf : List UInt8) (N : Nat) : Prop where
  hb : Hb w b H (pad64 buf) N true
  len : buf.length = N % 64
  nk : 1 ≠ b
  nh : 0 ≠ b
section
variable {w w' : World} {b : Nat} {H : List Int} {buf : List UInt8} {N : Nat}
theorem Hst.below (h : Hst w b H buf N) (hb : Below w.heap.size w w') : Hst w' b H buf N := ⟨h.hb.below hb, h.len, h.nk, h.nh⟩
theorem Hst.grown {row : Option Nat} (h : Hst w b H buf N) (hg : w.grownBy w' row) (hne : row ≠ some b) : Hst w' b H buf N := ⟨h.hb.grown hg hne, h.len, h.nk, h.nh⟩
theorem Hst.drewN (h : Hst w b H buf N) (k : Nat) : Hst (w.drewN k) b H buf N := ⟨h.hb.drewN k, h.len, h.nk, h.nh⟩
theorem Hst.tabs (h : Hst w b H buf N) (hT : Tabs w) (hg : w.grownBy w' (some b)) : Tabs w' :=
  ⟨fun j v hv => by
    have := hT.k j v hv
    rw [World.cell?_of_block (hg.block 1 (World.block_lt_of_cell? w _ this) (by simpa using h.nk))]
    exact this,
   fun j v hv => by
    have := hT.h j v hv
    rw [World.cell?_of_block (hg.block 0 (World.block_lt_of_cell? w _ this) (by simpa using h.nh))]
    exact this⟩
theorem Hst.lt (h : Hst w b H buf N) : b < w.heap.size := h.hb.lt
end

end Go.Proofs.YticmdmnjajjpbabDoor
