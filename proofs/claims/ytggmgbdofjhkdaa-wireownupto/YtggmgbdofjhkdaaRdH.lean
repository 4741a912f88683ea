/- raw over a reader that NewReader gave: so many bytes, in new memory. -/
import Derived.Test.YtggmgbdofjhkdaaRdG
import Derived.Deep.RegionLaw
namespace Go.Proofs.Ytggmgbdofjhkdaa
open Go.RowKit

/-- append(nil, bytes...) as one step of a region that draws its order -/
theorem step_app_nil {ops : Array Oper} {o : Oper} {a : Act} {w : World} {K : Act → World → Prop} {Q : Exit → Act → World → Prop} {E : Prop}
    (hg : o.guard = none) (s x : Operand) (ho : o.op = Op.call { callee := Callee.builtin Builtin.append, args := #[s, x], argTypes := #[23, 23] })
    (hs : a.eval s = .slice none 0 0) (vx : Value) (cs : List UInt8) (hx : a.eval x = vx) (hsrc : Src w vx cs)
    (hK : ∀ v' w', OwnB w' w.heap.size v' cs → Below w.heap.size w w' → K (a.put o.dst v') w') :
    if Region.wanted o (yielded ops a.tmps) = true then Oper.wp Try.prog o a w K Q else E := by
  have hw : Region.wanted o (yielded ops a.tmps) = true := by simp [Region.wanted, hg]
  rw [if_pos hw]
  obtain ⟨i0, hi, hz0, hz1, hz2⟩ := info_parts Try.infoU8
  obtain ⟨hl, ⟨rfl, rfl⟩ | ⟨ad, cap, rfl, h1, h2, hlt, hc⟩⟩ := hsrc
  · have hrun := run_append_owned_none (P := Try.prog) (w := w) w.heap.size 23 o.type 5 i0 1 Try.underlying23 hi (.slice none 0 0) 0 [] (World.ownsRow_nil _ _ _ _)
    unfold Oper.wp
    simp [execOp, ho, resolve, invoke, builtin, hs, hx, hrun, Result.andThen]
    exact hK _ _ (OwnB.nil _ _) (Below.refl _ _)
  · obtain ⟨v', w', hr, h3, h4, h5⟩ := run_append_own (P := Try.prog) w w.heap.size 23 o.type 5 i0 (.int .u8 0) 1 1 Try.underlying23 hi hz0 hz1 hz2 rfl (by decide) (.slice none 0 0) 0 [] (World.ownsRow_nil _ _ _ _) ad cs.length cap (bytesV cs) (by simp [bytesV]) (src_cells hc) (bytesV_one cs) (by unfold maxLen; omega) (by omega) (Nat.le_refl _)
    unfold Oper.wp
    simp [execOp, ho, resolve, invoke, builtin, hs, hx, hr, Result.andThen]
    exact hK v' w' (by unfold OwnB; simpa using h3) (gb_below h4)

section
variable (base b : Nat) (v : Value) (bs : List UInt8) (a : Nat) (why wat : Int) (w : World)

/-- what is cut out of a reader's bytes -/
theorem cut_out (n : Nat) (ad : Option Addr) (cap : Nat) (h : OwnB w base (.slice ad bs.length cap) bs) (hbl : bs.length ≤ 140737488355327) (hgt : a + n ≤ bs.length) :
    ∃ vx, Src w vx ((bs.drop a).take n) ∧ (∀ W, (Instr.slice 23 (.slice ad bs.length cap) (some (.int .i64 (a : Int))) (some (.int .i64 ((a + n : Nat) : Int))) none).run Try.prog W = .ok vx W) := by
  rcases h.forms with ⟨h1, rfl⟩ | ⟨g, cp, hv, _, hlt, h1, h2, _, _⟩
  · simp only [Value.slice.injEq] at h1
    obtain ⟨rfl, _, rfl⟩ := h1
    have ha : a = 0 := by simp at hgt; omega
    have hn : n = 0 := by simp at hgt; omega
    subst ha hn
    refine ⟨.slice none 0 0, ⟨by simp, Or.inl ⟨rfl, by simp⟩⟩, fun W => ?_⟩
    go_simp
  · simp only [Value.slice.injEq] at hv
    obtain ⟨rfl, _, rfl⟩ := hv
    by_cases hc : cap = a
    · have hn : n = 0 := by omega
      subst hn
      refine ⟨.slice (some ⟨g, 0, none⟩) 0 0, by simpa using src_empty g hlt, fun W => ?_⟩
      subst hc
      go_simp
    · refine ⟨.slice (some ⟨g, a, none⟩) n (cap - a), h.part g cap a n rfl hgt hbl, fun W => ?_⟩
      have hi1 : (a : Int) ≤ ((a + n : Nat) : Int) := by omega
      have hi2 : ((a + n : Nat) : Int) ≤ (cap : Int) := by omega
      generalize hA : a + n = A at *
      have hA1 : n = A - a := by omega
      subst hA1
      clear hA
      go_simp

set_option maxRecDepth 100000 in
set_option maxHeartbeats 1000000 in
theorem raw_short (n : Nat) (h : Rd w base b v bs a why wat) (hgt : bs.length - a < n) :
    Calls Try.prog 73 #[.pointer (some ⟨b, 0, none⟩), .int .i64 n] w fun e w' => e = .returned (.tuple #[.slice none 0 0, .int .i64 4]) ∧ Rd w' base b v bs a why wat ∧ w.grownBy w' (some b) := by
  have HR := hid h
  have h0 := h.c0
  have h1 := h.c1
  have hl := h.own.len
  have hle := h.le
  obtain ⟨ad, cap, rfl⟩ := h.own.shape
  clear h
  have hd : (bs.length : Int) - (a : Int) < (n : Int) := by omega
  go_enter Try.func73, Try.ntmps73
  go_wp2_with fail
  refine (pleft_any _ _ _ (a : Int) _ _ hl (by omega) (by omega) h0 h1).mono ?_
  rintro e w2 ⟨rfl, q, rfl⟩
  go_wp2
  go_ret2
  exact ⟨rfl, HR.out.drewN q, gb_drewN _ _ _⟩

set_option maxRecDepth 100000 in
set_option maxHeartbeats 1000000 in
theorem raw_ok (n : Nat) (h : Rd w base b v bs a why wat) (hbl : bs.length ≤ 140737488355327) (hgt : a + n ≤ bs.length) :
    Calls Try.prog 73 #[.pointer (some ⟨b, 0, none⟩), .int .i64 n] w fun e w' => ∃ v', e = .returned (.tuple #[v', .int .i64 0]) ∧ OwnB w' w.heap.size v' ((bs.drop a).take n) ∧ Rd w' base b v bs (a + n) why wat ∧ w.grownBy w' (some b) := by
  have HR := hid h
  have h0 := h.c0
  have h1 := h.c1
  have f1 := h.fz 1
  have hl := h.own.len
  have hle := h.le
  obtain ⟨ad, cap, rfl⟩ := h.own.shape
  clear h
  have hl' := hl
  unfold maxLen at hl'
  have hd : ¬ ((bs.length : Int) - (a : Int) < (n : Int)) := by omega
  go_enter Try.func73, Try.ntmps73
  go_wp2_with fail
  refine (pleft_any _ _ _ (a : Int) _ _ hl (by omega) (by omega) h0 h1).mono ?_
  rintro e w2 ⟨rfl, q, rfl⟩
  go_wp2_with fail
  have hA : ((a : Int) + (n : Int)) = ((a + n : Nat) : Int) := by omega
  rw [hA]
  have R3 := (HR.out.drewN q).setAt (a + n) hgt
  have HR3 := hid R3
  have HG3 := hid (gb_trans (gb_drewN w q (some b)) (gb_set _ ⟨b, 1, none⟩ (.int .i64 ((a + n : Nat) : Int))))
  have HSZ := hid (by simp : ((w.drewN q).setCell ⟨b, 1, none⟩ (.int .i64 ((a + n : Nat) : Int))).heap.size = w.heap.size)
  clear R3 hA h0 h1 f1
  generalize ((w.drewN q).setCell ⟨b, 1, none⟩ (.int .i64 ((a + n : Nat) : Int))) = W3 at *
  have c0 := HR3.out.c0
  have HC1 := hid HR3.out.c1
  -- what is cut out
  have HCUT := hid (cut_out base bs a W3.drew n ad cap HR3.out.drew.own hbl hgt)
  obtain ⟨vx, hsx, hrx⟩ := HCUT.out
  have HSX := hid hsx
  clear hsx HCUT
  generalize hAe : a + n = A at *
  have c1 := HC1.out
  have hw : IntKind.i64.wrap ((A : Int) - (n : Int)) = (a : Int) := by rw [IntKind.wrap_i64]; omega
  have HAE := hid hAe
  clear hAe
  go_region_law (refine step_app_nil rfl _ _ rfl rfl _ _ rfl HSX.out ?_; intro v9 w9 ho9 hb9; have HO9 := hid ho9; have HB9 := hid hb9; clear ho9 hb9)
  all_goals
    go_wp2
    go_ret2
    have HF := hid (((Below.refl W3.heap.size W3).drew).trans HB9.out : Below W3.heap.size W3 w9)
    refine ⟨_, rfl, ?_, ?_, ?_⟩
    · rw [← HSZ.out]; exact HO9.out
    · rw [HAE.out]; exact HR3.out.below HF.out
    · exact gb_trans HG3.out (below_gb HF.out _)
end

end Go.Proofs.Ytggmgbdofjhkdaa
