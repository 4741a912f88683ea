/- ShaLoads: a digest goes on from every state that may be, and from no other, whatever calls come behind (S5). Where what it reads is of bulk at most 1048576. The row lists the tables of words; the card ties them to the program's text. -/
import Derived.Test.YticmdmnjajjpbabDoorCards
import Derived.Test.YticmdmnjajjpbabDoorTie
import Derived.Test.YticmdmnjajjpbabDoorSLawLoads
import Derived.Test.YticmdmnjajjpbabDoorSTab
import Derived.Test.YticmdmnjajjpbabDoorSUpto
import Derived.Test.YticmdmnjajjpbabDoorSOpsR
import Derived.Test.YticmdmnjajjpbabDoorSStateR
import Derived.ProofKit
import Derived.OpenShut
import Derived.Lay
import Derived.SevenTiedAt
namespace Go.Proofs.YticmdmnjajjpbabDoor.shaLoadsC
open Go.ChangeShapes Go.WideShapes Go.ChangeAt Go.RowKit

theorem own : ownKnob Tryd.prog.godebug = none := by kernel_rfl
theorem laidOut : laidOutB Tryd.prog = true := by kernel_rfl

theorem tabs_of {W : World} (h : laidMetH Tryd.prog Rows.shaLoadsUptoRow.laid W) : Tabs W ∧ TabR W := by
  rw [MakeChecks.laidMetH_plain _ _ _ (by kernel_rfl)] at h
  exact ⟨⟨range_of_reads (Lib.laidMet.reads h (.tail _ (.head _))) Ks 1 95 22 64 (by kernel_rfl) (by kernel_rfl) Tryd.underlying95 Tryd.underlying22 (by kernel_rfl) (by kernel_rfl) (by kernel_rfl),
    range_of_reads (Lib.laidMet.reads h (.head _)) Hs 0 23 22 8 (by kernel_rfl) (by kernel_rfl) Tryd.underlying23 Tryd.underlying22 (by kernel_rfl) (by kernel_rfl) (by kernel_rfl)⟩,
    range_of_reads (Lib.laidMet.reads h (.tail _ (.tail _ (.head _)))) Ks 2 95 22 64 (by kernel_rfl) (by kernel_rfl) Tryd.underlying95 Tryd.underlying22 (by kernel_rfl) (by kernel_rfl) (by kernel_rfl)⟩

set_option maxRecDepth 100000 in
theorem contract (H : Type) (enc : TypeId × Value → H) (W : World) (base : Nat) (args : Array Value) (ds gs : List (DataW H)) (before : List MemPlace)
    (hval : ∀ (j : Nat) t v, Tryd.f3.params[j]? = some t → args[j]? = some v → Value.okWide Tryd.prog W .any base t v) (hL : laidMetH Tryd.prog Rows.shaLoadsUptoRow.laid W)
    (hk : Rows.uptoSmall H (ds ++ gs) = true)
    (hW : DataW.Whole enc Tryd.prog Tryd.f3.params.toList Rows.shaLoadsSpec.vars false W args.toList ds gs before) :
    Calls Tryd.prog 3 args W fun e W' => ∃ v, e = .returned v ∧ Rows.shaLoadsSpec.post enc Tryd.prog Tryd.f3 false true false false W args v W' := by
  obtain ⟨hT, hR⟩ := tabs_of hL
  clear hL
  have hW' := hW
  obtain ⟨p, q, hA0, hV, rfl, hfz, hnd⟩ := hW
  have hA : DataW.TrodAll enc Tryd.prog W 0 (fun _ => true) true Tryd.f3.params.toList args.toList ds p := hA0
  rw [Tryd.params3] at hA hval
  obtain ⟨v0, vs0, d0, ds0, p0, q0, hargs0, rfl, rfl, h0, r0⟩ := trodAll_cons hA
  obtain ⟨v1, vs1, d1, ds1, p1, q1, hargs1, rfl, rfl, h1, r1⟩ := trodAll_cons r0
  obtain ⟨rfl, rfl, rfl⟩ := trodAll_nil r1
  subst hargs1
  obtain rfl : args = #[v0, v1] := by
    cases args with
    | mk l => exact congrArg Array.mk hargs0
  obtain ⟨rfl, rfl⟩ := trodVars_none hV
  have hs := small hk
  clear hk
  simp only [List.append_nil, Rows.uptoBulkAll] at hs
  have k0 := h0
  have lt0 : ∀ x ∈ p0, x.block < W.heap.size := by obtain ⟨m, hm⟩ := k0; exact DataW.trod_lt m _ _ _ hm
  obtain ⟨xs0, a0, n0, c0, x0, N0, rfl, hxl0, hx0, hN0⟩ := state_b (hval 0 27 v0 rfl rfl) h0 (by omega)
  have k1 := h1
  have lt1 : ∀ x ∈ p1, x.block < W.heap.size := by obtain ⟨m, hm⟩ := k1; exact DataW.trod_lt m _ _ _ hm
  obtain ⟨a1, n1, c1, rfl⟩ := okWide_slice Tryd.underlying28 (hval 1 28 v1 rfl rfl)
  obtain ⟨hx1, hl1⟩ := ops_b h1 (by omega)
  clear hA0
  refine (loads_any W xs0 a0 n0 c0 x0 N0 _ n1 hT hR hxl0 hx0 hN0 hx1 hl1).mono fun e W' ⟨he, bel⟩ => ?_
  subst he
  exact ⟨_, rfl, _, _, _, [], _, [], hW', trodAll_mk1 (shut_bool Tryd.underlying4 _), (trodAll_cons_mk (Below.trod laidOut (by kernel_rfl) (of_decide_eq_true (by kernel_rfl)) k0 bel lt0) (trodAll_cons_mk (Below.trod laidOut (by kernel_rfl) (of_decide_eq_true (by kernel_rfl)) k1 bel lt1) trodAll_mk0)), rfl, bel.frame _, fun h => by cases h⟩

set_option maxRecDepth 100000 in
theorem lifted (os : Os) (started : os.Started) (H : Type) (enc : TypeId × Value → H) (F : Stop.Interp) :
    ReturnsInHanded {} Tryd.checked os 3 .any (fun w args => ((Rows.OpenSpec.upto Rows.shaLoadsSpec).pre enc Tryd.prog Tryd.f3 [] false w args ∧ laidMetH Tryd.prog Rows.shaLoadsUptoRow.laid w) ∧ sizedMet enc Tryd.prog Tryd.f3 (Rows.OpenSpec.upto Rows.shaLoadsSpec) false w args)
      (((Rows.OpenSpec.upto Rows.shaLoadsSpec).at F).post enc Tryd.prog Tryd.f3 false true false false) := by
  refine returns_cond_and (C := Tryd.checked) (s := Rows.OpenSpec.upto Rows.shaLoadsSpec) (k := Rows.uptoSmall) rfl (X := fun w _ => laidMetH Tryd.prog Rows.shaLoadsUptoRow.laid w) (fun _ _ _ hh h => h.of_heap hh) own started (by kernel_rfl) Tryd.func3
    (witness_cond (enc := enc) (C := Tryd.checked) (os := os) (s := Rows.OpenSpec.upto Rows.shaLoadsSpec) (k := Rows.uptoSmall) rfl (X := fun w _ => laidMetH Tryd.prog Rows.shaLoadsUptoRow.laid w) false (World.laidAll Tryd.prog os Rows.shaLoadsUptoRow.laid) #[.agg z10.toArray, .slice none 0 0] 8 (World.laidAll_os _ _ _)
      (World.shaped_of_ZipB (by kernel_rfl) (by kernel_rfl)) (by kernel_rfl) (x := ([.agg [.agg [.lit (.int .u32 0), .lit (.int .u32 0), .lit (.int .u32 0), .lit (.int .u32 0), .lit (.int .u32 0), .lit (.int .u32 0), .lit (.int .u32 0), .lit (.int .u32 0)], .nil, .lit (.int .u64 0)], .nil], [], [])) (by kernel_rfl) rfl (by kernel_rfl) (by kernel_rfl)
      (by rw [MakeChecks.laidMetH_plain _ _ _ (by kernel_rfl)]; exact laidMet_laidAll _ (by kernel_rfl) (by kernel_rfl))) ?_
  intro W base args ds gs before hval0 hW hk hX
  exact contract H enc W base args ds gs before hval0 hX hk hW

theorem said : Rows.ShaLoadsUptoSaid :=
  OpenClaim.holds_of_cond 3 Tryd.f3 rfl rfl rfl rfl rfl rfl rfl ⟨rfl, rfl, rfl, rfl, rfl⟩ rfl rfl rfl rfl rfl (by kernel_rfl) Tryd.func3 (by kernel_rfl)
    (of_decide_eq_true (by kernel_rfl)) (by unfold Func.isWrapper; first | (rw [if_pos (by decide +kernel)]; kernel_rfl) | (rw [if_neg (by decide +kernel)]; exact ⟨rfl, rfl⟩))
    (fun os started H enc _ F => lifted os started H enc F)

theorem plain (f : FuncId) (fn : Func) (hf : Tryd.pinned.checked.prog.funcNamed Rows.shaLoadsUptoRow.func = some f) (hfn : Tryd.pinned.checked.prog.funcs[f]? = some fn) :
    false = Tryd.pinned.checked.prog.looks [] ∧ ∀ (j : Nat) t, fn.params[j]? = some t → Tryd.pinned.checked.prog.wantsStandIn t = false := by
  obtain rfl : f = 3 := Option.some.inj ((show Tryd.prog.funcNamed Rows.shaLoadsUptoRow.func = some 3 by kernel_rfl).symm.trans hf) |>.symm
  obtain rfl : fn = Tryd.f3 := (Option.some.inj (Tryd.func3.symm.trans hfn)).symm
  refine ⟨by kernel_rfl, fun j t ht => ?_⟩
  rw [Tryd.params3] at ht
  have hm : t = 27 ∨ t = 28 := by simpa using Array.mem_of_getElem? ht
  rcases hm with rfl | rfl
  · exact (show Tryd.prog.wantsStandIn 27 = false by kernel_rfl)
  · exact (show Tryd.prog.wantsStandIn 28 = false by kernel_rfl)

end Go.Proofs.YticmdmnjajjpbabDoor.shaLoadsC

namespace Go.Proofs.YticmdmnjajjpbabDoor
/-- THE CARD -/
theorem shaLoads_upto_card : Rows.ShaLoadsUptoCardSaid :=
  Claim7.holds_tied_plain_at .later [] _ _ _ _ shaLoadsC.said (fun _ h => by cases h) (by kernel_rfl) (fun _ h => by cases h) shaLoadsUpto_row_tie rfl ⟨rfl, rfl⟩ (by kernel_rfl) rfl shaLoadsC.plain (by kernel_rfl)
#print axioms shaLoads_upto_card
end Go.Proofs.YticmdmnjajjpbabDoor
