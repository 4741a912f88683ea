/- Load of a state with no bytes behind its whole blocks. -/
import Derived.Test.YticmdmnjajjpbabDoorSSum
import Derived.Test.YticmdmnjajjpbabDoorSOf
namespace Go.Proofs.YticmdmnjajjpbabDoor
open Go.RowKit

/-- a state's cells -/
def scells (H : List Int) (vb : Value) (N : Int) : List Value := u32V H ++ [vb, .int .u64 N]
theorem load_built (a b c d e f g i N : Int) : Tryd.prog.built 74 [(0, .agg (u32V [a, b, c, d, e, f, g, i]).toArray), (2, .int .u64 N), (3, .bool true)] = some (hcells [a, b, c, d, e, f, g, i] (zeros 64) N true).toArray := by kernel_rfl
theorem field_sN (b : Nat) (w : World) : (Instr.fieldAt 27 (.pointer (some ⟨b, 0, none⟩)) 2).run Tryd.prog w = .ok (.pointer (some ⟨b, 9, none⟩)) w := by go_simp
theorem field_sH (b : Nat) (w : World) : (Instr.fieldAt 27 (.pointer (some ⟨b, 0, none⟩)) 0).run Tryd.prog w = .ok (.pointer (some ⟨b, 0, none⟩)) w := by go_simp

theorem ld_cell {P : Program} {w : World} {ops : Array Oper} {rest : List Oper} {o : Oper} {a : Act} {Q : Exit → Act → World → Prop} (hgd : o.guard = none) (t : TypeId) (x : Operand) (ho : o.op = .load t x)
    (ad : Addr) (hx : a.eval x = .pointer (some ad)) (v : Value) (hc : w.cell? ad = some v) (k : IntKind) (hu : P.underlying t = some (.int k))
    (h : wpList P ops Q rest (a.put o.dst v) w) : wpList P ops Q (o :: rest) a w := by
  refine wpList_plain hgd fun K hK => ?_
  have ha : (isAgg t).run P w = .ok false w := by
    unfold isAgg
    rw [Sem.run_bind, run_underlying hu w]
    rfl
  unfold Oper.wp execOp
  simp only [ho, hx, Instr.loadAt, Instr.sureAddr, loadVar, Sem.run_bind, Sem.run_pure, Result.andThen_ok, ha]
  simp [run_load, hc]
  exact hK _ _ h

set_option maxRecDepth 100000 in
set_option maxHeartbeats 1000000 in
theorem load_nil (w : World) (H : List Int) (N : Nat) (hH : H.length = 8) (hN : N ≤ 2305843009213693951) (hm : N % 64 = 0) (hT : Tabs w) :
    Calls Tryd.prog 10 #[.agg (scells H (.slice none 0 0) N).toArray] w fun e w' => e = .returned (.tuple #[.pointer (some ⟨w.heap.size + 1, 0, none⟩), .int .i64 0]) ∧ Hst w' (w.heap.size + 1) H [] N ∧ Below w.heap.size w w' := by
  have hrem : ((N : Nat) : Int).tmod 64 = 0 := by
    show ((N % 64 : Nat) : Int) = 0
    omega
  have hHid := hid hH
  obtain ⟨a, b, c, d, e, f, g, i, rfl⟩ := eight_of hH
  have hb0 := hp_new w (.cells (scells [a, b, c, d, e, f, g, i] (.slice none 0 0) N).toArray 27)
  have c8 : (w.alloc (.cells (scells [a, b, c, d, e, f, g, i] (.slice none 0 0) N).toArray 27)).cell? ⟨w.heap.size, 8, none⟩ = some (.slice none 0 0) := by
    rw [cell_of_row _ _ _ _ _ _ hb0]; rfl
  have c9 : (w.alloc (.cells (scells [a, b, c, d, e, f, g, i] (.slice none 0 0) N).toArray 27)).cell? ⟨w.heap.size, 9, none⟩ = some (.int .u64 N) := by
    rw [cell_of_row _ _ _ _ _ _ hb0]; rfl
  have HRg := hid (show (w.alloc (.cells (scells [a, b, c, d, e, f, g, i] (.slice none 0 0) N).toArray 27)).rangeAt w.heap.size 0 (u32V [a, b, c, d, e, f, g, i]) from fun j v hv => by
    rw [Nat.zero_add, cell_of_row _ _ j _ _ _ hb0]
    have hl := (List.getElem?_eq_some_iff.1 hv).1
    simp only [scells, List.getElem?_toArray]
    rw [List.getElem?_append_left hl]
    exact hv)
  have HB0 := hid (below_walk w (.cells (scells [a, b, c, d, e, f, g, i] (.slice none 0 0) N).toArray 27))
  have hsz : (w.alloc (.cells (scells [a, b, c, d, e, f, g, i] (.slice none 0 0) N).toArray 27)).heap.size = w.heap.size + 1 := hp_size _ _
  have HT := hid (hT.below HB0.out)
  clear hb0 hT hH
  go_enter Tryd.func10, Tryd.ntmps10
  go_upto_region 1 with fail
  have HSZ := hid hsz
  clear hsz
  generalize w.alloc (.cells (scells [a, b, c, d, e, f, g, i] (.slice none 0 0) N).toArray 27) = wv at c8 c9 HRg HB0 HT HSZ ⊢
  go_upto_region 3 with fail
  refine wp_region_list ?_
  show wpList _ _ _ (_ :: _) _ _
  refine fa_row (by rfl) 27 (.tmp 1) 0 (by rfl) ⟨w.heap.size, 0, none⟩ ⟨w.heap.size, 0, none⟩ (by rfl) (field_sH w.heap.size) ?_
  refine wpList_load_mid (by rfl) 23 (.tmp 18) (by rfl) w.heap.size 0 (by rfl) (u32V [a, b, c, d, e, f, g, i]) _ HRg.out Tryd.underlying23 rfl (by kernel_rfl) ?_
  refine fa_row (by rfl) 27 (.tmp 1) 2 (by rfl) ⟨w.heap.size, 0, none⟩ ⟨w.heap.size, 9, none⟩ (by rfl) (field_sN w.heap.size) ?_
  refine ld_cell (by rfl) 25 (.tmp 20) (by rfl) ⟨w.heap.size, 9, none⟩ (by rfl) (.int .u64 N) c9 .u64 Tryd.underlying25 ?_
  refine bd_row (by rfl) 74 _ (by rfl) _ (by simp [Act.eval, Act.put]) _ (load_built a b c d e f g i N) ?_
  refine bx_row (by rfl) 74 (.tmp 22) (by rfl) _ (by rfl) ?_
  rw [HSZ.out]
  have HBel := hid (HB0.out.alloc HB0.out.size (.cells (hcells [a, b, c, d, e, f, g, i] (zeros 64) N true).toArray 74))
  have hnew := hp_new wv (.cells (hcells [a, b, c, d, e, f, g, i] (zeros 64) N true).toArray 74)
  rw [HSZ.out] at hnew
  have hne := tabs_ne HT.out (Nat.le_of_eq HSZ.out)
  have HST := hid (⟨⟨hnew, hHid.out, zeros_length _⟩, by rw [hm]; rfl, hne.1, hne.2⟩ : Hst (wv.alloc (.cells (hcells [a, b, c, d, e, f, g, i] (zeros 64) N true).toArray 74)) (w.heap.size + 1) [a, b, c, d, e, f, g, i] [] N)
  have c8' : (wv.alloc (.cells (hcells [a, b, c, d, e, f, g, i] (zeros 64) N true).toArray 74)).cell? ⟨w.heap.size, 8, none⟩ = some (.slice none 0 0) := by
    rw [World.cell?_alloc_some _ _ _ (by rw [c8]; rfl), c8]
  generalize wv.alloc (.cells (hcells [a, b, c, d, e, f, g, i] (zeros 64) N true).toArray 74) = wz at HBel HST c8' ⊢
  clear hnew hne c8 c9 HRg HB0 HT HSZ
  have hcp := fun (W : World) (ty : TypeId) (ad : Addr) => run_copy_nil (P := Tryd.prog) W 24 24 ty 5 ad 64 64 Tryd.underlying24 (by kernel_rfl)
  go_upto_region 4 with fail
  go_region_held3 (fun w' => w'.cell? ⟨w.heap.size, 8, none⟩ = some (.slice none 0 0)) (first | exact c8' | go_keep) (fail)
  go_wp2
  refine bodyPost_ret (results_tmp2 rfl _ _ _) rfl ⟨rfl, ?_, ?_⟩
  · exact ⟨⟨HST.out.hb.blk, HST.out.hb.hl, HST.out.hb.rl⟩, HST.out.len, HST.out.nk, HST.out.nh⟩
  · exact ⟨HBel.out.os, HBel.out.tape, HBel.out.output, HBel.out.size, HBel.out.block⟩

end Go.Proofs.YticmdmnjajjpbabDoor
