/- Bytes of the call's own that are written over: mark; and how they are cut. -/
import Derived.Test.YtggmgbdofjhkdaaLawBegins
namespace Go.Proofs.Ytggmgbdofjhkdaa
open Go.RowKit

theorem OwnB.off {w w' : World} {base : Nat} {v : Value} {bs : List UInt8} {row : Option Nat} (B : Nat) (h : OwnB w base v bs) (hg : w.grownBy w' row) (hlo : ∀ j, v.ownBlock = some j → j < B) (hr : ∀ j, row = some j → B ≤ j) : OwnB w' base v bs := by
  refine h.kept hg ?_
  cases e : v.ownBlock with
  | none => exact Or.inl rfl
  | some j =>
    refine Or.inr (fun e2 => ?_)
    have h1 := hlo j e
    have h2 := hr j e2.symm
    omega

theorem OwnB.setAt {w : World} {base g n cap : Nat} {bs : List UInt8} (h : OwnB w base (.slice (some ⟨g, 0, none⟩) n cap) bs) (k : Nat) (m : UInt8) :
    OwnB (w.setCell ⟨g, k, none⟩ (.int .u8 m.toNat)) base (.slice (some ⟨g, 0, none⟩) n cap) (bs.set k m) := by
  obtain ⟨h1, ⟨h2, _⟩ | ⟨g', cap', cur, hv, hb, hh, h3, h4, h5, h6⟩⟩ := h
  · simp at h2
  · simp only [Value.slice.injEq, Option.some.injEq, Addr.mk.injEq, and_true] at hv
    obtain ⟨rfl, rfl, rfl⟩ := hv
    refine ⟨by simp [bytesV], Or.inr ⟨g, cap, cur.setIfInBounds k (.int .u8 m.toNat), by simp, hb, blk_set hh _, by simpa using h3, h4, by simpa using h5, ?_⟩⟩
    rw [Array.toList_setIfInBounds, List.length_set, List.take_set, h6]
    simp [bytesV, List.map_set]

/-- v owns so many bytes, whatever they are -/
def SomeB (w : World) (base : Nat) (v : Value) (n : Nat) : Prop := ∃ bs, bs.length = n ∧ OwnB w base v bs

set_option maxRecDepth 100000 in
set_option maxHeartbeats 1000000 in
theorem mark_own (base : Nat) (v : Value) (bs : List UInt8) (m : UInt8) (w : World) (h : OwnB w base v bs) :
    Calls Try.prog 35 #[v, .int .u8 m.toNat] w fun e w' => e = .returned (.tuple #[]) ∧ SomeB w' base v bs.length ∧ w.grownBy w' v.ownBlock := by
  have hl := h.len
  unfold maxLen at hl
  rcases h.forms with ⟨rfl, rfl⟩ | ⟨g, cap, rfl, hb, hlt, h1, h2, hf, hc⟩
  · have HH := hid h
    clear h
    go_enter Try.func35, Try.ntmps35
    go_wp2
    go_loop [7] (fun i => i = .int .i64 0) (fun _ => 0)
    case atStart => rfl
    case round =>
      subst hrel
      go_wp2_with fail
      go_end0
      exact ⟨rfl, ⟨_, rfl, HH.out⟩, gb_refl _ _⟩
  · have HH := hid h
    clear h hf hc hb hlt
    generalize hmi : (m.toNat : Int) = mi
    have HM := hid hmi
    clear hmi
    go_enter Try.func35, Try.ntmps35
    go_wp2
    go_loopw [7] (fun i wr => ∃ (k : Nat) (cs : List UInt8), k ≤ bs.length ∧ cs.length = bs.length ∧ i = .int .i64 k ∧ OwnB wr base (.slice (some ⟨g, 0, none⟩) bs.length cap) cs ∧ w.grownBy wr (some g)) (fun i _ => bs.length - (intOf i).toNat)
    case atStart => exact ⟨0, bs, Nat.zero_le _, rfl, rfl, HH.out, gb_refl _ _⟩
    case round =>
      obtain ⟨k, cs, hk, hcl, rfl, ho, hg⟩ := hrel
      have HO := hid ho
      have HG := hid hg
      have HCL := hid hcl
      clear ho hg hcl HH
      by_cases hkn : k < bs.length
      · have HO2 := hid (HO.out.setAt k m)
        rw [HM.out] at HO2
        have HG2 := hid (gb_trans HG.out (gb_set wr ⟨g, k, none⟩ (.int .u8 mi)))
        obtain ⟨x, hx, hfz⟩ : ∃ x, wr.cell? ⟨g, k, none⟩ = some x ∧ wr.frozen? ⟨g, k, none⟩ = false := by
          rcases HO.out.forms with ⟨h0, _⟩ | ⟨g', cap', hv, _, _, _, _, hf, hc⟩
          · simp at h0
          · simp only [Value.slice.injEq, Option.some.injEq, Addr.mk.injEq, and_true] at hv
            obtain ⟨rfl, _, rfl⟩ := hv
            exact ⟨_, hc k (by rw [HCL.out]; exact hkn), hf k⟩
        have hki : (k : Int) < (bs.length : Int) := by omega
        go_wp2_with fail
        go_roundw
        case rel => exact ⟨k + 1, cs.set k m, by omega, by rw [List.length_set]; exact HCL.out, by go_num, HO2.out, HG2.out⟩
        case measure => simp [intOf]; omega
      · go_wp2_with fail
        go_end0
        exact ⟨rfl, ⟨_, HCL.out, HO.out⟩, HG.out⟩

theorem mark_at (mi : Int) (m : UInt8) (hm : mi = (m.toNat : Int)) (base : Nat) (v : Value) (bs : List UInt8) (w : World) (h : OwnB w base v bs) :
    Calls Try.prog 35 #[v, .int .u8 mi] w fun e w' => e = .returned (.tuple #[]) ∧ SomeB w' base v bs.length ∧ w.grownBy w' v.ownBlock := by
  subst hm
  exact mark_own base v bs m w h

/-- a beginning of bytes of the call's own -/
theorem OwnB.begin {w : World} {base g n cap : Nat} {l1 l2 : List UInt8} (h : OwnB w base (.slice (some ⟨g, 0, none⟩) n cap) (l1 ++ l2)) : OwnB w base (.slice (some ⟨g, 0, none⟩) l1.length cap) l1 := by
  obtain ⟨h1, ⟨h2, _⟩ | ⟨g', cap', cur, hv, hb, hh, h3, h4, h5, h6⟩⟩ := h
  · simp at h2
  · simp only [Value.slice.injEq, Option.some.injEq, Addr.mk.injEq, and_true] at hv
    obtain ⟨rfl, rfl, rfl⟩ := hv
    refine ⟨by simp [bytesV], Or.inr ⟨g, cap, cur, rfl, hb, hh, ?_, h4, h5, ?_⟩⟩
    · rw [List.length_append] at h3; omega
    · have := congrArg (List.take l1.length) h6
      rw [List.take_take, List.length_append, bytesV_append, List.take_left' (bytesV_length l1)] at this
      rw [← this]
      congr 1
      omega

/-- how a slice is cut at its end, whatever it holds -/
theorem cut_end {w : World} {v : Value} {bs : List UInt8} (h : Src w v bs) (k : Nat) (hk : k ≤ bs.length) :
    ∃ vx, Src w vx (bs.drop k) ∧ (∀ j, vx.ownBlock = some j → v.ownBlock = some j) ∧ (∀ W, (Instr.slice 23 v (some (.int .i64 (k : Int))) none none).run Try.prog W = .ok vx W) := by
  obtain ⟨hl, ⟨rfl, rfl⟩ | ⟨ad, cap, rfl, h1, h2, hlt, hc⟩⟩ := h
  · simp at hk
    subst hk
    exact ⟨.slice none 0 0, ⟨by simp, Or.inl ⟨rfl, rfl⟩⟩, fun j e => e, fun W => by go_simp⟩
  · have hlen : (bs.drop k).length = bs.length - k := by simp
    have hk2 : (k : Int) ≤ (bs.length : Int) := by omega
    refine ⟨.slice (if cap = k then some ad else some (ad.add k)) (bs.length - k) (cap - k), ⟨by omega, Or.inr ?_⟩, fun j e => ?_, fun W => ?_⟩
    · by_cases hck : cap = k
      · rw [if_pos hck]
        exact ⟨ad, cap - k, by rw [hlen], by omega, by omega, fun h => by omega, fun j hj => by omega⟩
      · rw [if_neg hck]
        refine ⟨ad.add k, cap - k, by rw [hlen], by omega, by omega, fun h => by rw [addr_block]; exact hlt (by omega), fun j hj => ?_⟩
        rw [hlen] at hj
        rw [Addr.add_add, hc (k + j) (by omega)]
        simp [List.getD_eq_getElem?_getD]
    · by_cases hck : cap = k
      · rw [if_pos hck] at e; exact e
      · rw [if_neg hck] at e
        simpa [Value.ownBlock, addr_block] using e
    · go_simp

end Go.Proofs.Ytggmgbdofjhkdaa
