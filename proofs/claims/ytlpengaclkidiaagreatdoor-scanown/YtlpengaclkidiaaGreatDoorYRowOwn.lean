/- ScanOwn: what is answered is the caller's own, and what is given stays as it was, of any text, any module's path and any includes (R4). Where what it reads is of bulk at most 1048576. The row lists the program's tables of keys and signs, and two of the library's that these calls never read; the card ties them to the program's text. -/
import Derived.Test.YtlpengaclkidiaaGreatDoorCards
import Derived.Test.YtlpengaclkidiaaGreatDoorTie
import Derived.Test.YtlpengaclkidiaaGreatDoorG5
import Derived.ProofKit
import Derived.OpenShut
import Derived.Lay
import Derived.SevenTiedAt
import Derived.ChangeMaps5
import Derived.SizedLaws
namespace Go.Proofs.YtlpengaclkidiaaGreatDoor.scanOwnC
open Go.ChangeShapes Go.WideShapes Go.ChangeAt Go.ChangeMaps Go.RowKit

theorem own : ownKnob Tryz.prog.godebug = none := by kernel_rfl
theorem laidOut : laidOutB Tryz.prog = true := by kernel_rfl

theorem tabs_of {W : World} (h : laidMetH Tryz.prog Rows.scanOwnUptoRow.laid W) : Tabs W := by
  rw [MakeChecks.laidMetH_plain _ _ _ (by kernel_rfl)] at h
  have a := strs_of_reads (Lib.laidMet.reads h (.tail _ (.head _))) (sg2 ++ sg1) 1 132 9 25 (by kernel_rfl) (by kernel_rfl) Tryz.underlying132 Tryz.underlying9 (by kernel_rfl) (by kernel_rfl) (by kernel_rfl)
  have b := strs_of_reads (Lib.laidMet.reads h (.tail _ (.tail _ (.head _)))) kyL 2 136 9 16 (by kernel_rfl) (by kernel_rfl) Tryz.underlying136 Tryz.underlying9 (by kernel_rfl) (by kernel_rfl) (by kernel_rfl)
  exact ⟨a.1, b.1, a.2, b.2⟩

set_option maxRecDepth 100000 in
theorem contract (H : Type) (enc : TypeId × Value → H) (W : World) (base : Nat) (args : Array Value) (ds gs : List (DataW H)) (before : List MemPlace)
    (hval : ∀ (j : Nat) t v, Tryz.f3.params[j]? = some t → args[j]? = some v → Value.okWide Tryz.prog W .any base t v) (hL : laidMetH Tryz.prog Rows.scanOwnUptoRow.laid W)
    (hk : Rows.uptoSmall H (ds ++ gs) = true)
    (hW : DataW.Whole enc Tryz.prog Tryz.f3.params.toList Rows.scanOwnSpec.vars false W args.toList ds gs before) :
    Calls Tryz.prog 3 args W fun e W' => ∃ v, e = .returned v ∧ Rows.scanOwnSpec.post enc Tryz.prog Tryz.f3 false true false false W args v W' := by
  have hT := tabs_of hL
  clear hL
  have hW' := hW
  obtain ⟨p, q, hA0, hV, rfl, hfz, hnd⟩ := hW
  have hA : DataW.TrodAll enc Tryz.prog W 0 (fun _ => true) true Tryz.f3.params.toList args.toList ds p := hA0
  rw [Tryz.params3] at hA hval
  obtain ⟨v0, vs0, d0, ds0, p0, q0, hargs0, rfl, rfl, h0, r0⟩ := trodAll_cons hA
  obtain ⟨v1, vs1, d1, ds1, p1, q1, hargs1, rfl, rfl, h1, r1⟩ := trodAll_cons r0
  obtain ⟨v2, vs2, d2, ds2, p2, q2, hargs2, rfl, rfl, h2, r2⟩ := trodAll_cons r1
  obtain ⟨rfl, rfl, rfl⟩ := trodAll_nil r2
  subst hargs2
  subst hargs1
  obtain rfl : args = #[v0, v1, v2] := by
    cases args with
    | mk l => exact congrArg Array.mk hargs0
  obtain ⟨rfl, rfl⟩ := trodVars_none hV
  have hs := small hk
  clear hk
  simp only [List.append_nil, Rows.uptoBulkAll] at hs
  have k0 := h0
  have lt0 : ∀ x ∈ p0, x.block < W.heap.size := by obtain ⟨m, hm⟩ := k0; exact DataW.trod_lt m _ _ _ hm
  obtain ⟨x0, rfl, hd0, _, ws0⟩ := open_string Tryz.underlying9 (hval 0 9 v0 rfl rfl) h0
  have hx0 : (bl x0).length ≤ 1048576 := by
    have e : Rows.uptoBulk d0 = (bl x0).length + 1 := by rw [hd0, bl_eq]; rfl
    omega
  obtain ⟨y0, rfl⟩ : ∃ y, x0 = mk y := ⟨bl x0, (mk_bl x0).symm⟩
  rw [bl_mk] at hx0
  have k1 := h1
  have lt1 : ∀ x ∈ p1, x.block < W.heap.size := by obtain ⟨m, hm⟩ := k1; exact DataW.trod_lt m _ _ _ hm
  obtain ⟨x1, rfl, hd1, _, ws1⟩ := open_string Tryz.underlying9 (hval 1 9 v1 rfl rfl) h1
  have hx1 : (bl x1).length ≤ 1048576 := by
    have e : Rows.uptoBulk d1 = (bl x1).length + 1 := by rw [hd1, bl_eq]; rfl
    omega
  obtain ⟨y1, rfl⟩ : ∃ y, x1 = mk y := ⟨bl x1, (mk_bl x1).symm⟩
  rw [bl_mk] at hx1
  have k2 := h2
  have lt2 : ∀ x ∈ p2, x.block < W.heap.size := by obtain ⟨m, hm⟩ := k2; exact DataW.trod_lt m _ _ _ hm
  obtain ⟨a2, n2, c2, rfl⟩ := okWide_slice Tryz.underlying22 (hval 2 22 v2 rfl rfl)
  obtain ⟨x2, hx2, hp2, hl2⟩ := incs_b h2 (by omega)
  clear hA0
  refine (own13_any W y0 y1 hx1 _ x2 (by omega) hp2 hT hx2).mono fun e W' ⟨he, bel⟩ => ?_
  subst he
  exact ⟨_, rfl, _, _, _, [], _, [], hW', trodAll_mk1 (shut_bool Tryz.underlying4 _), (trodAll_cons_mk (Below.trod laidOut (by kernel_rfl) (of_decide_eq_true (by kernel_rfl)) k0 bel lt0) (trodAll_cons_mk (Below.trod laidOut (by kernel_rfl) (of_decide_eq_true (by kernel_rfl)) k1 bel lt1) (trodAll_cons_mk (Below.trod laidOut (by kernel_rfl) (of_decide_eq_true (by kernel_rfl)) k2 bel lt2) trodAll_mk0))), rfl, bel.frame _, fun h => by cases h⟩

set_option maxRecDepth 100000 in
theorem lifted (os : Os) (started : os.Started) (H : Type) (enc : TypeId × Value → H) (F : Stop.Interp) :
    ReturnsInHanded {} Tryz.checked os 3 .any (fun w args => ((Rows.OpenSpec.upto Rows.scanOwnSpec).pre enc Tryz.prog Tryz.f3 [] false w args ∧ laidMetH Tryz.prog Rows.scanOwnUptoRow.laid w) ∧ sizedMet enc Tryz.prog Tryz.f3 (Rows.OpenSpec.upto Rows.scanOwnSpec) false w args)
      (((Rows.OpenSpec.upto Rows.scanOwnSpec).at F).post enc Tryz.prog Tryz.f3 false true false false) := by
  refine returns_cond_and (C := Tryz.checked) (s := Rows.OpenSpec.upto Rows.scanOwnSpec) (k := Rows.uptoSmall) rfl (X := fun w _ => laidMetH Tryz.prog Rows.scanOwnUptoRow.laid w) (fun _ _ _ hh h => h.of_heap hh) own started (by kernel_rfl) Tryz.func3
    (witness_cond (enc := enc) (C := Tryz.checked) (os := os) (s := Rows.OpenSpec.upto Rows.scanOwnSpec) (k := Rows.uptoSmall) rfl (X := fun w _ => laidMetH Tryz.prog Rows.scanOwnUptoRow.laid w) false (World.laidAll Tryz.prog os Rows.scanOwnUptoRow.laid) #[.string ⟨#[]⟩, .string ⟨#[]⟩, .slice none 0 0] 8 (World.laidAll_os _ _ _)
      (World.shaped_of_ZipB (by kernel_rfl) (by kernel_rfl)) (by kernel_rfl) (x := ([.lit (.string []), .lit (.string []), .nil], [], [])) (by kernel_rfl) rfl (by kernel_rfl) (by kernel_rfl)
      (by rw [MakeChecks.laidMetH_plain _ _ _ (by kernel_rfl)]; exact laidMet_laidAll _ (by kernel_rfl) (by kernel_rfl))) ?_
  intro W base args ds gs before hval0 hW hk hX
  exact contract H enc W base args ds gs before hval0 hX hk hW

theorem said : Rows.ScanOwnUptoSaid :=
  OpenClaim.holds_of_cond 3 Tryz.f3 rfl rfl rfl rfl rfl rfl rfl ⟨rfl, rfl, rfl, rfl, rfl⟩ rfl rfl rfl rfl rfl (by kernel_rfl) Tryz.func3 (by kernel_rfl)
    (of_decide_eq_true (by kernel_rfl)) (by unfold Func.isWrapper; first | (rw [if_pos (by decide +kernel)]; kernel_rfl) | (rw [if_neg (by decide +kernel)]; exact ⟨rfl, rfl⟩))
    (fun os started H enc _ F => lifted os started H enc F)

theorem plain (f : FuncId) (fn : Func) (hf : Tryz.pinned.checked.prog.funcNamed Rows.scanOwnUptoRow.func = some f) (hfn : Tryz.pinned.checked.prog.funcs[f]? = some fn) :
    true = Tryz.pinned.checked.prog.looks [] ∧ ∀ (j : Nat) t, fn.params[j]? = some t → Tryz.pinned.checked.prog.wantsStandIn t = false := by
  obtain rfl : f = 3 := Option.some.inj ((show Tryz.prog.funcNamed Rows.scanOwnUptoRow.func = some 3 by kernel_rfl).symm.trans hf) |>.symm
  obtain rfl : fn = Tryz.f3 := (Option.some.inj (Tryz.func3.symm.trans hfn)).symm
  refine ⟨by kernel_rfl, fun j t ht => ?_⟩
  rw [Tryz.params3] at ht
  have hm : t = 9 ∨ t = 22 := by simpa using Array.mem_of_getElem? ht
  rcases hm with rfl | rfl
  · exact (show Tryz.prog.wantsStandIn 9 = false by kernel_rfl)
  · exact (show Tryz.prog.wantsStandIn 22 = false by kernel_rfl)

end Go.Proofs.YtlpengaclkidiaaGreatDoor.scanOwnC

namespace Go.Proofs.YtlpengaclkidiaaGreatDoor
/-- THE CARD -/
theorem scanOwn_upto_card : Rows.ScanOwnUptoCardSaid :=
  Claim7.holds_tied_plain_at .later [] _ _ _ _ scanOwnC.said (fun _ h => by cases h) (by kernel_rfl) (fun _ h => by cases h) scanOwnUpto_row_tie rfl ⟨rfl, rfl⟩ (by kernel_rfl) rfl scanOwnC.plain (by kernel_rfl)
#print axioms scanOwn_upto_card
end Go.Proofs.YtlpengaclkidiaaGreatDoor
