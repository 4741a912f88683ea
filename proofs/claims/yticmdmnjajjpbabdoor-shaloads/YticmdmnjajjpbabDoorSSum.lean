/- Sum and Of. -/
import Derived.Test.YticmdmnjajjpbabDoorSWrite
import Derived.Test.YticmdmnjajjpbabDoorSPad
import Derived.Test.YticmdmnjajjpbabDoorSDig
namespace Go.Proofs.YticmdmnjajjpbabDoor
open Go.RowKit

theorem fa_row {P : Program} {w : World} {ops : Array Oper} {rest : List Oper} {o : Oper} {a : Act} {Q : Exit → Act → World → Prop} (hgd : o.guard = none) (t : TypeId) (x : Operand) (f : Nat) (ho : o.op = .fieldAddr t x f)
    (ad r : Addr) (hx : a.eval x = .pointer (some ad)) (hrun : ∀ w, (Instr.fieldAt t (.pointer (some ad)) f).run P w = .ok (.pointer (some r)) w)
    (h : wpList P ops Q rest (a.put o.dst (.pointer (some r))) w) : wpList P ops Q (o :: rest) a w := by
  refine wpList_plain hgd fun K hK => ?_
  unfold Oper.wp execOp
  simp only [ho, hx, Sem.run_bind, hrun, Sem.run_pure, Result.andThen_ok]
  exact hK _ _ h
theorem field_words (b : Nat) (w : World) : (Instr.fieldAt 74 (.pointer (some ⟨b, 0, none⟩)) 0).run Tryd.prog w = .ok (.pointer (some ⟨b, 0, none⟩)) w := by go_simp

/-- the digest of what stands so -/
def sumP (H : List Int) (buf : List UInt8) (N : Nat) : List Int := dig (absorb (H, buf) (padB N)).1

set_option maxRecDepth 100000 in
set_option maxHeartbeats 1000000 in
theorem sum_any (w : World) (b : Nat) (H : List Int) (buf : List UInt8) (N : Nat) (hT : Tabs w) (hs : Hg w b H buf N) (hN : N ≤ 2305843009213693951) :
    Calls Tryd.prog 20 #[.pointer (some ⟨b, 0, none⟩)] w fun e w' => e = .returned (.agg (u8V (sumP H buf N)).toArray) ∧ Below w.heap.size w w' := by
  obtain ⟨z41, s41⟩ := zero_of_info (P := Tryd.prog) (t := 53) (v := .agg (u8V (zeros 32)).toArray) (n := 32) (by kernel_rfl)
  obtain ⟨z97, s97⟩ := zero_of_info (P := Tryd.prog) (t := 74) (v := .agg (hcells (zeros 8) (zeros 64) 0 false).toArray) (n := 74) (by kernel_rfl)
  have HZ41 := hid s41
  have HZ97 := hid z97
  clear s41 s97 z97
  have HB0 := hid (below_walk w (.cells (u8V (zeros 32)).toArray 53))
  have HR0 := hid (hp_new w (.cells (u8V (zeros 32)).toArray 53))
  have HG := hid (hs.below HB0.out)
  have HT := hid (hT.below HB0.out)
  obtain ⟨H0, R0, m, hb, e1, e2, e3⟩ := HG.out.ex
  have HB := hid hb
  have HE1 := hid e1
  have HE2 := hid e2
  have HE3 := hid e3
  have cn := hb.cn
  clear hb e1 e2 e3 hs hT
  go_enter Tryd.func20, Tryd.ntmps20
  go_upto_region 1 with fail
  generalize w.alloc (.cells (u8V (zeros 32)).toArray 53) = wv at HB0 HR0 HG HT HB cn ⊢
  go_wp2_with fail
  refine (pad_ok wv N hN).mono ?_
  rintro e w1 ⟨v1, rfl, ho1, hb1⟩
  have HO1 := hid ho1
  have HB1 := hid hb1
  clear ho1 hb1 cn
  go_upto_region 4 with fail
  refine wp_region_list ?_
  show wpList _ _ _ (_ :: _) _ _
  refine mv_row (by rfl) (.tmp 0) (by rfl) (.pointer (some ⟨b, 0, none⟩)) (by rfl) ?_
  refine nc_row (by rfl) (.tmp 17) (by rfl) ⟨b, 0, none⟩ (by rfl) ?_
  refine ld_row (by rfl) 74 (.tmp 18) (by rfl) b (by rfl) _ 74 (HB.out.below HB1.out).blk _ Tryd.underlying74 rfl (by rw [hcells_length _ _ _ _ HB.out.hl HB.out.rl]; exact Tryd.sizeHash) ?_
  go_wp2_with fail
  refine (begun_any _ H0 R0 N m HB.out.hl HB.out.rl (HT.out.below HB1.out)).mono ?_
  rintro e w2 ⟨rfl, hb2⟩
  rw [HE1.out, HE2.out, HE3.out]
  have HB2 := hid hb2
  clear hb2
  have HHL := hid (show H.length = 8 by rw [← HE1.out]; unfold begunH; split; exact HB.out.hl; exact Hs_length)
  have HPL := hid (show (pad64 buf).length = 64 from pad64_length _ (by have := HG.out.len; omega))
  rename_i Kx hKx
  refine hKx _ _ ?_
  clear hKx
  refine al_row (by rfl) 74 (by rfl) _ HZ97.out ?_
  refine st_new (by rfl) 74 (.tmp 5) (.tmp 20) (by rfl) (hcells H (pad64 buf) N true) (by rfl) (by rfl) _ _ (by rw [hcells_length _ _ _ _ HHL.out HPL.out]; exact Tryd.sizeHash) (by rw [List.size_toArray, hcells_length _ _ _ _ (zeros_length _) (zeros_length _), hcells_length _ _ _ _ HHL.out HPL.out]) (hcells_one _ _ _ _) ?_
  have s1 := HB1.out.size
  have s2 := HB2.out.size
  have HB12 := hid (HB1.out.trans (HB2.out.mono s1))
  have HB3 := hid (HB12.out.alloc (Nat.le_trans s1 s2) (.cells (hcells H (pad64 buf) N true).toArray 74))
  have HT3 := hid (HT.out.below HB3.out)
  have nk : 1 ≠ w2.heap.size := by
    have := World.block_lt_of_cell? wv _ (tab_cell HT.out.k 0 (by rw [Ks_length]; omega))
    intro e
    simp only [] at this
    omega
  have nh : 0 ≠ w2.heap.size := by
    have := World.block_lt_of_cell? wv _ (tab_cell HT.out.h 0 (by rw [Hs_length]; omega))
    intro e
    simp only [] at this
    omega
  have HST := hid (⟨⟨hp_new w2 _, HHL.out, HPL.out⟩, HG.out.len, nk, nh⟩ : Hst (w2.alloc (.cells (hcells H (pad64 buf) N true).toArray 74)) w2.heap.size H buf N)
  have HO3 := hid ((HO1.out.below HB2.out).below (below_walk w2 (.cells (hcells H (pad64 buf) N true).toArray 74)))
  have HNE := hid (show v1.ownBlock ≠ some w2.heap.size from fun e => by have := (HO1.out.lt _ e).2; omega)
  have HR3 := hid ((HB3.out.block w.heap.size (hp_lt HR0.out)).trans HR0.out)
  have hsz3 : wv.heap.size ≤ w2.heap.size := Nat.le_trans s1 s2
  clear nk nh HB HT HO1 HB1 HB2 HB12 s1 s2 HE1 HE2 HE3
  generalize w2.alloc (.cells (hcells H (pad64 buf) N true).toArray 74) = w3 at HST HO3 HR3 HB3 HT3 ⊢
  generalize w2.heap.size = b5 at HST HNE hsz3 ⊢
  go_wp2_with fail
  refine (take_any w3 b5 H buf N v1 (padB N) HT3.out HST.out (HO3.out.src (by have := padB_le N; omega)) (fun _ => HNE.out) (by have := padB_le N; omega)).mono ?_
  rintro e w4 ⟨rfl, hst4, hT4, hg4⟩
  have HS4 := hid hst4
  have HR4 := hid ((hg4.block w.heap.size (hp_lt HR3.out) (by have := hp_lt HR0.out; intro e; injection e; omega)).trans HR3.out)
  have HB4 := hid ((HB0.out.trans (HB3.out.mono HB0.out.size)).grown hg4 (Nat.le_trans HB0.out.size HB3.out.size) (by intro k hk; cases hk; have := HB0.out.size; omega))
  clear hst4 hT4 hg4 HST HO3 HR3 HB3 HT3 HNE
  go_upto_region 6 with fail
  refine wp_region_list ?_
  show wpList _ _ _ (_ :: _) _ _
  refine fa_row (by rfl) 74 (.tmp 5) 0 (by rfl) ⟨b5, 0, none⟩ ⟨b5, 0, none⟩ (by rfl) (field_words b5) ?_
  refine wpList_load_mid (by rfl) 23 (.tmp 23) (by rfl) b5 0 (by rfl) _ _ HS4.out.hb.words Tryd.underlying23 rfl (by rw [u32V_length, HS4.out.hb.hl]; kernel_rfl) ?_
  go_wp2_with fail
  refine (digest_any w4 _ HS4.out.hb.hl).mono ?_
  rintro e w5 ⟨rfl, hb5⟩
  have HR5 := hid ((hb5.block w.heap.size (hp_lt HR4.out)).trans HR4.out)
  have HB5 := hid (HB4.out.trans (hb5.mono HB4.out.size))
  clear hb5
  rename_i Kx hKx
  refine hKx _ _ ?_
  clear hKx
  have HL32 : Hid ((Tryd.prog.info? 53).map (·.size) = some (u8V (sumP H buf N)).length) := by unfold sumP; rw [u8V_length, dig_length]; exact HZ41.out
  refine st_row (by rfl) 53 (.tmp 2) (.tmp 25) (by rfl) w.heap.size (u8V (sumP H buf N)) (by rfl) (by rfl) 53 _ HR5.out HL32.out (by unfold sumP; simp [u8V_length, dig_length, zeros_length]) (u8V_one _) ?_
  intro w6 hw6
  have HW := hid hw6
  clear hw6
  go_wp2
  refine ret_row 2 53 rfl w.heap.size rfl _ 53 HW.out.blk _ Tryd.underlying53 rfl HL32.out rfl ⟨rfl, ?_⟩
  exact HB5.out.grown HW.out.grown HB5.out.size (by intro k hk; cases hk; exact Nat.le_refl _)

end Go.Proofs.YticmdmnjajjpbabDoor
