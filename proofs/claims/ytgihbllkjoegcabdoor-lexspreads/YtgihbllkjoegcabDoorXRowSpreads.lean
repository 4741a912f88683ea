/- LexSpreads: blanks and remarks do not matter, of any source and any gaps (L6). Where what it reads is of bulk at most 1048576. The row lists the program's tables of keys and signs; the card ties them to the program's text. -/
import Derived.Test.YtgihbllkjoegcabDoorCards
import Derived.Test.YtgihbllkjoegcabDoorTie
import Derived.Test.YtgihbllkjoegcabDoorG2
import Derived.ProofKit
import Derived.OpenShut
import Derived.Lay
import Derived.SevenTiedAt
import Derived.ChangeMaps5
import Derived.SizedLaws
namespace Go.Proofs.YtgihbllkjoegcabDoor.lexSpreadsC
open Go.ChangeShapes Go.WideShapes Go.ChangeAt Go.ChangeMaps Go.RowKit

theorem own : ownKnob Tryd.prog.godebug = none := by kernel_rfl
theorem laidOut : laidOutB Tryd.prog = true := by kernel_rfl

theorem tabs_of {W : World} (h : laidMetH Tryd.prog Rows.lexSpreadsUptoRow.laid W) : Tabs W := by
  rw [MakeChecks.laidMetH_plain _ _ _ (by kernel_rfl)] at h
  have a := strs_of_reads (Lib.laidMet.reads h (.head _)) (sg2 ++ sg1) 0 75 9 25 (by kernel_rfl) (by kernel_rfl) Tryd.underlying75 Tryd.underlying9 (by kernel_rfl) (by kernel_rfl) (by kernel_rfl)
  have b := strs_of_reads (Lib.laidMet.reads h (.tail _ (.head _))) kyL 1 83 9 16 (by kernel_rfl) (by kernel_rfl) Tryd.underlying83 Tryd.underlying9 (by kernel_rfl) (by kernel_rfl) (by kernel_rfl)
  exact ⟨a.1, b.1, a.2, b.2⟩

set_option maxRecDepth 100000 in
theorem contract (H : Type) (enc : TypeId × Value → H) (W : World) (base : Nat) (args : Array Value) (ds gs : List (DataW H)) (before : List MemPlace)
    (hval : ∀ (j : Nat) t v, Tryd.f3.params[j]? = some t → args[j]? = some v → Value.okWide Tryd.prog W .any base t v) (hL : laidMetH Tryd.prog Rows.lexSpreadsUptoRow.laid W)
    (hk : Rows.uptoSmall H (ds ++ gs) = true)
    (hW : DataW.Whole enc Tryd.prog Tryd.f3.params.toList Rows.lexSpreadsSpec.vars false W args.toList ds gs before) :
    Calls Tryd.prog 3 args W fun e W' => ∃ v, e = .returned v ∧ Rows.lexSpreadsSpec.post enc Tryd.prog Tryd.f3 false true false false W args v W' := by
  have hT := tabs_of hL
  clear hL
  have hW' := hW
  obtain ⟨p, q, hA0, hV, rfl, hfz, hnd⟩ := hW
  have hA : DataW.TrodAll enc Tryd.prog W 0 (fun _ => true) true Tryd.f3.params.toList args.toList ds p := hA0
  rw [Tryd.params3] at hA hval
  obtain ⟨v0, vs0, d0, ds0, p0, q0, hargs0, rfl, rfl, h0, r0⟩ := trodAll_cons hA
  obtain ⟨v1, vs1, d1, ds1, p1, q1, hargs1, rfl, rfl, h1, r1⟩ := trodAll_cons r0
  obtain ⟨rfl, rfl, rfl⟩ := trodAll_nil r1
  subst hargs1
  obtain rfl : args = #[v0, v1] := by
    cases args with
    | mk l => exact congrArg Array.mk hargs0
  obtain ⟨rfl, rfl⟩ := trodVars_none hV
  have hs := small hk
  clear hk
  simp only [List.append_nil, Rows.uptoBulkAll] at hs
  have k0 := h0
  have lt0 : ∀ x ∈ p0, x.block < W.heap.size := by obtain ⟨m, hm⟩ := k0; exact DataW.trod_lt m _ _ _ hm
  obtain ⟨x0, rfl, hd0, _, ws0⟩ := open_string Tryd.underlying9 (hval 0 9 v0 rfl rfl) h0
  have hx0 : (bl x0).length ≤ 1048576 := by
    have e : Rows.uptoBulk d0 = (bl x0).length + 1 := by rw [hd0, bl_eq]; rfl
    omega
  obtain ⟨y0, rfl⟩ : ∃ y, x0 = mk y := ⟨bl x0, (mk_bl x0).symm⟩
  rw [bl_mk] at hx0
  have k1 := h1
  have lt1 : ∀ x ∈ p1, x.block < W.heap.size := by obtain ⟨m, hm⟩ := k1; exact DataW.trod_lt m _ _ _ hm
  obtain ⟨a1, n1, c1, rfl⟩ := okWide_slice Tryd.underlying22 (hval 1 22 v1 rfl rfl)
  obtain ⟨x1, hx1, hn1, hg1⟩ := gps_b h1 (by omega)
  clear hA0
  refine (spreads_any W y0 (by omega) _ x1 hx1 hn1 hg1 hT).mono fun e W' ⟨he, bel⟩ => ?_
  subst he
  exact ⟨_, rfl, _, _, _, [], _, [], hW', trodAll_mk1 (shut_bool Tryd.underlying4 _), (trodAll_cons_mk (Below.trod laidOut (by kernel_rfl) (of_decide_eq_true (by kernel_rfl)) k0 bel lt0) (trodAll_cons_mk (Below.trod laidOut (by kernel_rfl) (of_decide_eq_true (by kernel_rfl)) k1 bel lt1) trodAll_mk0)), rfl, bel.frame _, fun h => by cases h⟩

set_option maxRecDepth 100000 in
theorem lifted (os : Os) (started : os.Started) (H : Type) (enc : TypeId × Value → H) (F : Stop.Interp) :
    ReturnsInHanded {} Tryd.checked os 3 .any (fun w args => ((Rows.OpenSpec.upto Rows.lexSpreadsSpec).pre enc Tryd.prog Tryd.f3 [] false w args ∧ laidMetH Tryd.prog Rows.lexSpreadsUptoRow.laid w) ∧ sizedMet enc Tryd.prog Tryd.f3 (Rows.OpenSpec.upto Rows.lexSpreadsSpec) false w args)
      (((Rows.OpenSpec.upto Rows.lexSpreadsSpec).at F).post enc Tryd.prog Tryd.f3 false true false false) := by
  refine returns_cond_and (C := Tryd.checked) (s := Rows.OpenSpec.upto Rows.lexSpreadsSpec) (k := Rows.uptoSmall) rfl (X := fun w _ => laidMetH Tryd.prog Rows.lexSpreadsUptoRow.laid w) (fun _ _ _ hh h => h.of_heap hh) own started (by kernel_rfl) Tryd.func3
    (witness_cond (enc := enc) (C := Tryd.checked) (os := os) (s := Rows.OpenSpec.upto Rows.lexSpreadsSpec) (k := Rows.uptoSmall) rfl (X := fun w _ => laidMetH Tryd.prog Rows.lexSpreadsUptoRow.laid w) false (World.laidAll Tryd.prog os Rows.lexSpreadsUptoRow.laid) #[.string ⟨#[]⟩, .slice none 0 0] 8 (World.laidAll_os _ _ _)
      (World.shaped_of_ZipB (by kernel_rfl) (by kernel_rfl)) (by kernel_rfl) (x := ([.lit (.string []), .nil], [], [])) (by kernel_rfl) rfl (by kernel_rfl) (by kernel_rfl)
      (by rw [MakeChecks.laidMetH_plain _ _ _ (by kernel_rfl)]; exact laidMet_laidAll _ (by kernel_rfl) (by kernel_rfl))) ?_
  intro W base args ds gs before hval0 hW hk hX
  exact contract H enc W base args ds gs before hval0 hX hk hW

theorem said : Rows.LexSpreadsUptoSaid :=
  OpenClaim.holds_of_cond 3 Tryd.f3 rfl rfl rfl rfl rfl rfl rfl ⟨rfl, rfl, rfl, rfl, rfl⟩ rfl rfl rfl rfl rfl (by kernel_rfl) Tryd.func3 (by kernel_rfl)
    (of_decide_eq_true (by kernel_rfl)) (by unfold Func.isWrapper; first | (rw [if_pos (by decide +kernel)]; kernel_rfl) | (rw [if_neg (by decide +kernel)]; exact ⟨rfl, rfl⟩))
    (fun os started H enc _ F => lifted os started H enc F)

theorem plain (f : FuncId) (fn : Func) (hf : Tryd.pinned.checked.prog.funcNamed Rows.lexSpreadsUptoRow.func = some f) (hfn : Tryd.pinned.checked.prog.funcs[f]? = some fn) :
    false = Tryd.pinned.checked.prog.looks [] ∧ ∀ (j : Nat) t, fn.params[j]? = some t → Tryd.pinned.checked.prog.wantsStandIn t = false := by
  obtain rfl : f = 3 := Option.some.inj ((show Tryd.prog.funcNamed Rows.lexSpreadsUptoRow.func = some 3 by kernel_rfl).symm.trans hf) |>.symm
  obtain rfl : fn = Tryd.f3 := (Option.some.inj (Tryd.func3.symm.trans hfn)).symm
  refine ⟨by kernel_rfl, fun j t ht => ?_⟩
  rw [Tryd.params3] at ht
  have hm : t = 9 ∨ t = 22 := by simpa using Array.mem_of_getElem? ht
  rcases hm with rfl | rfl
  · exact (show Tryd.prog.wantsStandIn 9 = false by kernel_rfl)
  · exact (show Tryd.prog.wantsStandIn 22 = false by kernel_rfl)

end Go.Proofs.YtgihbllkjoegcabDoor.lexSpreadsC

namespace Go.Proofs.YtgihbllkjoegcabDoor
/-- THE CARD -/
theorem lexSpreads_upto_card : Rows.LexSpreadsUptoCardSaid :=
  Claim7.holds_tied_plain_at .later [] _ _ _ _ lexSpreadsC.said (fun _ h => by cases h) (by kernel_rfl) (fun _ h => by cases h) lexSpreadsUpto_row_tie rfl ⟨rfl, rfl⟩ (by kernel_rfl) rfl lexSpreadsC.plain (by kernel_rfl)
#print axioms lexSpreads_upto_card
end Go.Proofs.YtgihbllkjoegcabDoor
