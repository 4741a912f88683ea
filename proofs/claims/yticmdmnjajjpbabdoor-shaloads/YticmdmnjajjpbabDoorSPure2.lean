/- Parts of a Hash's cells written over. -/
import Derived.Test.YticmdmnjajjpbabDoorSPure
namespace Go.Proofs.YticmdmnjajjpbabDoor
open Go.RowKit

theorem splice_app {α : Type} (A B C X : List α) (h : X.length = B.length) : splice (A ++ (B ++ C)) A.length X = A ++ (X ++ C) := by
  unfold splice
  rw [List.take_left' rfl, h]
  congr 2
  rw [← List.append_assoc, List.drop_left' (by simp)]

/-- a part of a row written over, cell by cell -/
theorem setCells_row {b : Nat} {t : TypeId} : ∀ (vs : List Value) (o : Nat) (cs : List Value) (w : World), w.heap[b]? = some (.cells cs.toArray t (0, 0)) → o + vs.length ≤ cs.length →
    RowSet w (w.setCells b o vs) b (splice cs o vs) t
  | [], o, cs, w, h, _ => ⟨by simpa [splice, World.setCells] using h, gb_refl _ _, rfl⟩
  | v :: r, o, cs, w, h, hl => by
    have h1 : (w.setCell ⟨b, o, none⟩ v).heap[b]? = some (.cells (cs.set o v).toArray t (0, 0)) := by
      refine (blk_set (w := w) (i := o) h v).trans ?_
      simp
    have ih := setCells_row r (o + 1) (cs.set o v) (w.setCell ⟨b, o, none⟩ v) h1 (by simp at hl ⊢; omega)
    refine ⟨?_, gb_trans (gb_set w ⟨b, o, none⟩ v) ih.grown, ?_⟩
    · refine ih.blk.trans ?_
      congr 3
      unfold splice
      have e := List.set_eq_take_append_cons_drop (l := cs) (i := o) (a := v)
      rw [if_pos (by simp at hl; omega)] at e
      rw [e]
      have hlo : (cs.take o).length = o := by simp at hl ⊢; omega
      have e1 : (cs.take o ++ v :: cs.drop (o + 1)).take (o + 1) = cs.take o ++ [v] := by
        rw [show cs.take o ++ v :: cs.drop (o + 1) = (cs.take o ++ [v]) ++ cs.drop (o + 1) by simp]
        exact List.take_left' (by simp [hlo])
      have e2 : (cs.take o ++ v :: cs.drop (o + 1)).drop (o + 1 + r.length) = cs.drop (o + (v :: r).length) := by
        rw [show cs.take o ++ v :: cs.drop (o + 1) = (cs.take o ++ [v]) ++ cs.drop (o + 1) by simp]
        rw [List.drop_append, List.drop_of_length_le (by simp [hlo])]
        simp [hlo, List.drop_drop]
        congr 1
        omega
      rw [e1, e2]
      simp
    · rw [show (w.setCells b o (v :: r)) = (w.setCell ⟨b, o, none⟩ v).setCells b (o + 1) r from rfl, ih.size]
      simp

theorem zeros_add (a b : Nat) : zeros (a + b) = zeros a ++ zeros b := by
  unfold zeros
  rw [List.replicate_append_replicate]
theorem u8V_append (a b : List Int) : u8V (a ++ b) = u8V a ++ u8V b := by simp [u8V]
theorem u32V_append (a b : List Int) : u32V (a ++ b) = u32V a ++ u32V b := by simp [u32V]

/-- bytes laid behind those that wait -/
theorem splice_rest (H : List Int) (buf c : List UInt8) (n : Int) (m : Bool) (hl : H.length = 8) (h : buf.length + c.length ≤ 64) :
    splice (hcells H (pad64 buf) n m) (8 + buf.length) (bytesV c) = hcells H (pad64 (buf ++ c)) n m := by
  have e1 : hcells H (pad64 buf) n m = (u32V H ++ bytesV buf) ++ (u8V (zeros c.length) ++ (u8V (zeros (64 - buf.length - c.length)) ++ [.int .u64 n, .bool m])) := by
    unfold hcells pad64
    rw [show 64 - buf.length = c.length + (64 - buf.length - c.length) by omega, zeros_add, u8V_append, u8V_append, u8V_ints]
    simp only [List.append_assoc]
    rw [show c.length + (64 - buf.length - c.length) - c.length = 64 - buf.length - c.length by omega]
  have e2 : (u32V H ++ bytesV buf).length = 8 + buf.length := by simp [u32V_length, bytesV_length, hl]
  rw [e1, ← e2, splice_app _ _ _ _ (by simp [bytesV_length, u8V_length, zeros_length])]
  unfold hcells pad64
  rw [ints_append, u8V_append, u8V_append, u8V_ints, u8V_ints, List.length_append, show 64 - (buf.length + c.length) = 64 - buf.length - c.length by omega]
  simp only [List.append_assoc]
/-- other words -/
theorem splice_words (H H2 R : List Int) (n : Int) (m : Bool) (hl : H.length = 8) (hl2 : H2.length = 8) : splice (hcells H R n m) 0 (u32V H2) = hcells H2 R n m := by
  have := splice_app ([] : List Value) (u32V H) (u8V R ++ [.int .u64 n, .bool m]) (u32V H2) (by simp [u32V_length, hl, hl2])
  simpa [hcells] using this
/-- no bytes wait -/
theorem splice_none (H R R2 : List Int) (n : Int) (m : Bool) (hl : H.length = 8) (rl : R.length = 64) (rl2 : R2.length = 64) : splice (hcells H R n m) 8 (u8V R2) = hcells H R2 n m := by
  have := splice_app (u32V H) (u8V R) [.int .u64 n, .bool m] (u8V R2) (by simp [u8V_length, rl, rl2])
  rw [u32V_length, hl] at this
  simpa [hcells] using this
/-- another count -/
theorem set_n (H R : List Int) (n n2 : Int) (m : Bool) (hl : H.length = 8) (rl : R.length = 64) : (hcells H R n m).set 72 (.int .u64 n2) = hcells H R n2 m := by
  unfold hcells
  rw [List.set_append_right _ _ (by simp [u32V_length, hl]), List.set_append_right _ _ (by simp [u32V_length, u8V_length, hl, rl])]
  simp [u32V_length, u8V_length, hl, rl]
theorem Hb.setN {w : World} {b : Nat} {H R : List Int} {n : Int} {m : Bool} (h : Hb w b H R n m) (n2 : Int) : Hb (w.setCell ⟨b, 72, none⟩ (.int .u64 n2)) b H R n2 m := by
  refine ⟨(blk_set (w := w) (i := 72) h.blk (.int .u64 n2)).trans ?_, h.hl, h.rl⟩
  rw [← set_n H R n n2 m h.hl h.rl]
  simp
/-- what lies in a Hash's block -/
theorem Hb.words {w : World} {b : Nat} {H R : List Int} {n : Int} {m : Bool} (h : Hb w b H R n m) : w.rangeAt b 0 (u32V H) := fun j v hv => by
  rw [Nat.zero_add, cell_of_row w b j _ _ _ h.blk]
  simp only [hcells, List.getElem?_toArray]
  rw [List.getElem?_append_left (List.getElem?_eq_some_iff.1 hv).1]
  exact hv
theorem Hb.rest {w : World} {b : Nat} {H R : List Int} {n : Int} {m : Bool} (h : Hb w b H R n m) : w.rangeAt b 8 (u8V R) := fun j v hv => by
  rw [cell_of_row w b _ _ _ _ h.blk]
  simp only [hcells, List.getElem?_toArray]
  rw [List.getElem?_append_right (by simp [u32V_length, h.hl]), u32V_length, h.hl, Nat.add_sub_cancel_left, List.getElem?_append_left (List.getElem?_eq_some_iff.1 hv).1]
  exact hv
theorem Hb.there {w : World} {b : Nat} {H R : List Int} {n : Int} {m : Bool} (h : Hb w b H R n m) (o k : Nat) (hk : o + k ≤ 74) : w.there b o k := fun j hj => by
  refine ⟨?_, h.fz _⟩
  rw [cell_of_row w b _ _ _ _ h.blk]
  have := hcells_length H R n m h.hl h.rl
  simp [List.getElem?_eq_getElem (show o + j < (hcells H R n m).length by omega)]
theorem Hb.newWords {w : World} {b : Nat} {H R : List Int} {n : Int} {m : Bool} (h : Hb w b H R n m) (H2 : List Int) (hl2 : H2.length = 8) : Hb (w.setCells b 0 (u32V H2)) b H2 R n m ∧ w.grownBy (w.setCells b 0 (u32V H2)) (some b) := by
  have := setCells_row (t := 74) (u32V H2) 0 (hcells H R n m) w h.blk (by rw [hcells_length _ _ _ _ h.hl h.rl, u32V_length]; omega)
  refine ⟨⟨?_, hl2, h.rl⟩, this.grown⟩
  rw [this.blk, splice_words H H2 R n m h.hl hl2]
theorem Hb.newRest {w : World} {b : Nat} {H R : List Int} {n : Int} {m : Bool} (h : Hb w b H R n m) (R2 : List Int) (rl2 : R2.length = 64) : Hb (w.setCells b 8 (u8V R2)) b H R2 n m ∧ w.grownBy (w.setCells b 8 (u8V R2)) (some b) := by
  have := setCells_row (t := 74) (u8V R2) 8 (hcells H R n m) w h.blk (by rw [hcells_length _ _ _ _ h.hl h.rl, u8V_length]; omega)
  refine ⟨⟨?_, h.hl, rl2⟩, this.grown⟩
  rw [this.blk, splice_none H R R2 n m h.hl h.rl rl2]

/-- how a slice is cut at its end, whatever it holds -/
theorem cut_end {w : World} {v : Value} {bs : List UInt8} (h : Src w v bs) (k : Nat) (hk : k ≤ bs.length) :
    ∃ vx, Src w vx (bs.drop k) ∧ (∀ j, vx.ownBlock = some j → v.ownBlock = some j) ∧ (∀ W, (Instr.sliceAt 24 v (some (.int .i64 (k : Int))) none none).run Tryd.prog W = .ok vx W) := by
  obtain ⟨hl, ⟨rfl, rfl⟩ | ⟨ad, cap, rfl, h1, h2, hlt, hc⟩⟩ := h
  · simp at hk
    subst hk
    exact ⟨.slice none 0 0, ⟨by simp, Or.inl ⟨rfl, rfl⟩⟩, fun j e => e, fun W => by go_simp⟩
  · have hlen : (bs.drop k).length = bs.length - k := by simp
    have hk2 : (k : Int) ≤ (bs.length : Int) := by omega
    refine ⟨.slice (if cap = k then some ad else some (ad.add k)) (bs.length - k) (cap - k), ⟨by omega, Or.inr ?_⟩, fun j e => ?_, fun W => ?_⟩
    · by_cases hck : cap = k
      · rw [if_pos hck]
        exact ⟨ad, cap - k, by rw [hlen], by omega, by omega, fun h => by omega, fun j hj => by omega⟩
      · rw [if_neg hck]
        refine ⟨ad.add k, cap - k, by rw [hlen], by omega, by omega, fun h => by rw [addr_block]; exact hlt (by omega), fun j hj => ?_⟩
        rw [hlen] at hj
        rw [Addr.add_add, hc (k + j) (by omega)]
        simp [List.getD_eq_getElem?_getD]
    · by_cases hck : cap = k
      · rw [if_pos hck] at e; exact e
      · rw [if_neg hck] at e
        simpa [Value.ownBlock, addr_block] using e
    · go_simp

end Go.Proofs.YticmdmnjajjpbabDoor
