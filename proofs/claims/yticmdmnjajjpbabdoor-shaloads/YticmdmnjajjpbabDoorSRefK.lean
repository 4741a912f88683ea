/- The document's taken. -/
import Derived.Test.YticmdmnjajjpbabDoorSRefN
import Derived.Test.YticmdmnjajjpbabDoorSRefC
namespace Go.Proofs.YticmdmnjajjpbabDoor
open Go.RowKit

theorem wrap_u64x (n : Int) : IntKind.u64.wrap n = n % 18446744073709551616 := by simp [IntKind.wrap, IntKind.bits, IntKind.signed]
def z64 : List UInt8 := List.replicate 64 0
theorem z64_length : z64.length = 64 := rfl
/-- the state, as far as its bytes are taken -/
structure Tk (w : World) (B : Nat) (all : List Int × List UInt8) (M : Nat) (wr : World) (Hc : List Int) (vc : Value) (rest : List UInt8) : Prop where
  sb : Sb wr w.heap.size Hc vc M
  own : OwnB wr B vc rest
  z : wr.heap[w.heap.size + 1]? = some (.cells z10.toArray 27 (0, 0))
  bel : Below w.heap.size w wr
  ab : absorb (Hc, []) rest = all
  len : rest.length ≤ 140737488355327
section
variable {w wr w' : World} {B M : Nat} {all : List Int × List UInt8} {Hc : List Int} {vc : Value} {rest : List UInt8}
theorem Tk.below (h : Tk w B all M wr Hc vc rest) (hb : Below wr.heap.size wr w') : Tk w B all M w' Hc vc rest :=
  ⟨h.sb.below hb, h.own.below hb, (hb.block _ (hp_lt h.z)).trans h.z, h.bel.trans (hb.mono h.bel.size), h.ab, h.len⟩
theorem Tk.grown {row : Option Nat} (h : Tk w B all M wr Hc vc rest) (hg : wr.grownBy w' row) (h1 : row ≠ some w.heap.size) (h2 : row ≠ some (w.heap.size + 1)) (h3 : vc.ownBlock = none ∨ vc.ownBlock ≠ row) (h4 : ∀ k, row = some k → w.heap.size ≤ k) : Tk w B all M w' Hc vc rest :=
  ⟨h.sb.grown hg h1, h.own.kept hg h3, (hg.block _ (hp_lt h.z) (fun e => h2 e.symm)).trans h.z, h.bel.grown hg h.bel.size h4, h.ab, h.len⟩
end
theorem blk_cell {w : World} {g : Nat} {T : TypeId} {D : List UInt8} (h : w.heap[g]? = some (.cells (bytesV D).toArray T (0, 0))) (k : Nat) (x : UInt8) : (w.setCell ⟨g, k, none⟩ (.int .u8 ((x.toNat : Nat) : Int))).heap[g]? = some (.cells (bytesV (D.set k x)).toArray T (0, 0)) := by
  refine (blk_set (w := w) (i := k) h (.int .u8 ((x.toNat : Nat) : Int))).trans ?_
  simp [bytesV, List.map_set]
theorem row_fz' {w : World} {g : Nat} {T : TypeId} {cs : Array Value} (h : w.heap[g]? = some (.cells cs T (0, 0))) (k : Nat) : w.frozen? ⟨g, k, none⟩ = false := by simp [World.frozen?, h]
theorem absorb_block (H : List Int) (rest : List UInt8) (h : 64 ≤ rest.length) : absorb (H, []) rest = absorb (comp H (ints (rest.take 64)), []) (rest.drop 64) := by
  have e : rest = rest.take 64 ++ rest.drop 64 := (List.take_append_drop 64 rest).symm
  have hl : (rest.take 64).length = 64 := by simp; omega
  conv => lhs; rw [e]
  rw [absorb_append, absorb_full H (rest.take 64) [] (by simp; omega) (by omega)]
  rfl
theorem own_cell {w : World} {base : Nat} {bs : List UInt8} {ao : Option Addr} {cp : Nat} (h : OwnB w base (.slice ao bs.length cp) bs) (k : Nat) (hk : k < bs.length) : ∃ g, ao = some ⟨g, 0, none⟩ ∧ w.cell? ⟨g, k, none⟩ = some (.int .u8 ((bs.getD k 0).toNat : Nat)) := by
  rcases h.forms with ⟨_, rfl⟩ | ⟨g, cap, hv, _, _, _, _, _, hc⟩
  · simp at hk
  · injection hv with h1
    exact ⟨g, h1, hc k hk⟩
theorem own_ne {w : World} {base : Nat} {v : Value} {bs : List UInt8} (h : OwnB w base v bs) (g : Nat) (hg : g < base ∨ w.heap.size ≤ g) : v.ownBlock = none ∨ v.ownBlock ≠ some g := by
  cases e : v.ownBlock with
  | none => exact Or.inl rfl
  | some k =>
    have := h.lt k e
    refine Or.inr ?_
    simp only [ne_eq, Option.some.injEq]
    omega

set_option maxRecDepth 100000 in
set_option maxHeartbeats 2000000 in
theorem rtaken_any (w : World) (H : List Int) (vb : Value) (buf : List UInt8) (N : Nat) (vx : Value) (bs : List UInt8) (hH : H.length = 8) (hT : TabR w) (hs : Src w vb buf) (hx : Src w vx bs) (hl : buf.length + bs.length ≤ 140737488355327) (hN : N + bs.length < 18446744073709551616) :
    Calls Tryd.prog 48 #[.agg (scells H vb N).toArray, vx] w fun e w' => ∃ v', e = .returned (.agg (scells (absorb (H, []) (buf ++ bs)).1 v' ((N + bs.length : Nat) : Int)).toArray) ∧ OwnB w' w.heap.size v' (absorb (H, []) (buf ++ bs)).2 ∧ Below w.heap.size w w' := by
  obtain ⟨z, sz⟩ := zero_of_info (P := Tryd.prog) (t := 27) (v := .agg z10.toArray) (n := 10) (by kernel_rfl)
  clear sz
  obtain ⟨z', sz⟩ := zero_of_info (P := Tryd.prog) (t := 72) (v := .agg (bytesV z64).toArray) (n := 64) (by kernel_rfl)
  clear sz
  have HH := hid hH
  have HLL := hid hl
  have HNN := hid hN
  have HBW := hid (below_walk2 w (.cells (scells H vb N).toArray 27) (.cells z10.toArray 27))
  have H2 := hid (hp_two' w (.cells (scells H vb N).toArray 27) (.cells z10.toArray 27))
  have HSR := hid (hs.below HBW.out)
  have HX0 := hid hx
  have HT0 := hid hT
  obtain ⟨ax, cx, hvx⟩ := src_shape hx
  subst hvx
  obtain ⟨R, HR⟩ : ∃ l, Hid (l = absorb (H, []) (buf ++ bs)) := ⟨_, rfl⟩
  obtain ⟨M, HM⟩ : ∃ M, Hid (M = N + bs.length) := ⟨_, rfl⟩
  rw [← HR.out, ← HM.out]
  obtain ⟨all, HALL⟩ : ∃ l, Hid (l = buf ++ bs) := ⟨_, rfl⟩
  have HAL := hid (show all.length = buf.length + bs.length by rw [HALL.out, List.length_append])
  rw [← HALL.out] at HR
  clear hH hs hx hT hl hN
  go_enter Tryd.func48, Tryd.ntmps48
  go_upto_region 1 with fail
  generalize (w.alloc (.cells (scells H vb N).toArray 27)).alloc (.cells z10.toArray 27) = w2 at HBW H2 HSR ⊢
  have HSZ : Hid ((Tryd.prog.info? 27).map (·.size) = some (scells H vb N).length) := by rw [scells_length _ _ _ HH.out]; exact hid Tryd.sizeState
  obtain ⟨B, HBB⟩ : ∃ B, Hid (B = w2.heap.size) := ⟨_, rfl⟩
  have HB2 := hid (show w.heap.size + 2 ≤ B by have := hp_lt H2.out.2; rw [HBB.out]; omega)
  refine wp_region_list ?_
  show wpList _ _ _ (_ :: _) _ _
  refine ld_row (by rfl) 27 (.tmp 2) (by rfl) w.heap.size (by rfl) _ 27 H2.out.1 _ Tryd.underlying27 rfl HSZ.out ?_
  go_wp2_with fail
  refine (rcopy_any w2 H vb buf N HH.out HSR.out).mono ?_
  rintro e w3 ⟨v1, rfl, ho3, hb3⟩
  rw [← HBB.out] at ho3
  have HO3 := hid ho3
  have HBE3 := hid hb3
  have HR3 := hid ((hb3.block _ (hp_lt H2.out.1)).trans H2.out.1)
  have HZ3 := hid ((hb3.block _ (hp_lt H2.out.2)).trans H2.out.2)
  have HBW3 := hid (HBW.out.trans (hb3.mono HBW.out.size))
  clear ho3 hb3
  rename_i Kx hKx
  refine hKx _ _ ?_
  clear hKx
  obtain ⟨a1, k1, hv1⟩ := HO3.out.shape
  subst hv1
  have HSZ1 : Hid ((Tryd.prog.info? 27).map (·.size) = some (scells H (.slice a1 buf.length k1) N).length) := by rw [scells_length _ _ _ HH.out]; exact hid Tryd.sizeState
  refine st_row (by rfl) 27 (.tmp 2) (.tmp 9) (by rfl) w.heap.size (scells H (.slice a1 buf.length k1) N) (by rfl) (by rfl) 27 _ HR3.out HSZ1.out (by rw [List.size_toArray, scells_length _ _ _ HH.out, scells_length _ _ _ HH.out]) (scells_one _ _ _ rfl) ?_
  intro w4 hw4
  have HS4 := hid (⟨hw4.blk, HH.out⟩ : Sb w4 w.heap.size H (.slice a1 buf.length k1) N)
  have HO4 := hid (HO3.out.kept hw4.grown (own_ne HO3.out _ (Or.inl (by have := HB2.out; omega))))
  have HZ4 := hid ((hw4.grown.block _ (hp_lt HZ3.out) (by simp)).trans HZ3.out)
  have HB4 := hid (HBW3.out.grown hw4.grown HBW3.out.size (by intro k hk; cases hk; exact Nat.le_refl _))
  have HX4 := hid (HX0.out.below HB4.out)
  have HSB4 := hid (show B ≤ w4.heap.size by have h1 := HBE3.out.size; have h2 := hw4.grown.size; rw [HBB.out]; omega)
  clear hw4 HR3 HZ3 HBW3 HO3 HBE3
  have c8 := HS4.out.c8
  go_wp2_with (at_builtin; refine app_src rfl _ _ rfl B _ buf rfl HO4.out _ bs rfl HX4.out HLL.out HSB4.out ?_)
  intro v2 w5 ho5 hg5
  have HOB := hid (own_ne HO4.out w.heap.size (Or.inl (by have := HB2.out; omega)))
  have HOZ := hid (own_ne HO4.out (w.heap.size + 1) (Or.inl (by have := HB2.out; omega)))
  have HS5 := hid (HS4.out.grown hg5 (by rcases HOB.out with h | h <;> first | exact h | (rw [h]; simp)))
  have HZ5 := hid ((hg5.block _ (hp_lt HZ4.out) (fun e => by rcases HOZ.out with h | h <;> first | exact h e.symm | (rw [h] at e; cases e))).trans HZ4.out)
  have HB5 := hid (HB4.out.grown hg5 HB4.out.size (by intro k hk; have := (HO4.out.lt k hk).1; have := HB2.out; omega))
  have HO5 := hid ho5
  have HSB5 := hid (Nat.le_trans HSB4.out hg5.size)
  clear ho5 hg5 HS4 HZ4 HB4 HO4 HSB4 HX4 c8 HOB HOZ
  rw [← HALL.out] at HO5
  obtain ⟨a2, k2, hv2⟩ := HO5.out.shape
  subst hv2
  have f8 := HS5.out.fz 8
  have e8 := HS5.out.c8
  go_upto_region 3 with fail
  have HS6 := hid (HS5.out.set8 (.slice a2 all.length k2))
  have HG6 := hid (gb_set w5 ⟨w.heap.size, 8, none⟩ (.slice a2 all.length k2))
  have HO6 := hid (HO5.out.kept HG6.out (own_ne HO5.out _ (Or.inl (by have := HB2.out; show w.heap.size < B; omega))))
  have HZ6 := hid ((hp_set w5 (w.heap.size + 1) w.heap.size 8 (.slice a2 all.length k2) (by omega)).trans HZ5.out)
  have HB6 := hid (HB5.out.grown HG6.out HB5.out.size (by intro k hk; cases hk; exact Nat.le_refl _))
  have HSB6 := hid (Nat.le_trans HSB5.out HG6.out.size)
  generalize w5.setCell ⟨w.heap.size, 8, none⟩ (.slice a2 all.length k2) = w6 at HS6 HG6 HO6 HZ6 HB6 HSB6 ⊢
  clear HS5 HZ5 HB5 HSB5 HO5 f8 e8 HG6
  have c9 := HS6.out.c9
  have f9 := HS6.out.fz 9
  have hM : IntKind.u64.wrap ((N : Int) + (bs.length : Int)) = (M : Int) := by rw [wrap_u64x, HM.out]; have := HNN.out; omega
  have hbl : bs.length ≤ 140737488355327 := HX0.out.1
  go_upto_region 4 with fail
  have HS7 := hid (HS6.out.set9 (M : Int))
  have HG7 := hid (gb_set w6 ⟨w.heap.size, 9, none⟩ (.int .u64 (M : Int)))
  have HTK := hid (⟨HS7.out, HO6.out.kept HG7.out (own_ne HO6.out _ (Or.inl (by have := HB2.out; show w.heap.size < B; omega))),
    (hp_set w6 (w.heap.size + 1) w.heap.size 9 (.int .u64 (M : Int)) (by omega)).trans HZ6.out,
    HB6.out.grown HG7.out HB6.out.size (by intro k hk; cases hk; exact Nat.le_refl _), HR.out.symm, by rw [HAL.out]; exact HLL.out⟩ : Tk w B R M (w6.setCell ⟨w.heap.size, 9, none⟩ (.int .u64 (M : Int))) H (.slice a2 all.length k2) all)
  have HSB7 := hid (Nat.le_trans HSB6.out HG7.out.size)
  generalize w6.setCell ⟨w.heap.size, 9, none⟩ (.int .u64 (M : Int)) = w7 at HS7 HG7 HTK HSB7 ⊢
  clear HS6 HZ6 HB6 HSB6 HO6 c9 f9 HG7 HS7
  go_loopw [] (fun wr => ∃ (Hc : List Int) (vc : Value) (rest : List UInt8), Tk w B R M wr Hc vc rest ∧ B ≤ wr.heap.size) (fun wr => lenV ((wr.cell? ⟨w.heap.size, 8, none⟩).getD undef))
  case atStart => exact ⟨_, _, _, HTK.out, HSB7.out⟩
  case round =>
    obtain ⟨Hc, vc, rest, htk, hbw⟩ := hrel
    clear HTK HSB7
    have HTK := hid htk
    have HSBr := hid hbw
    obtain ⟨ac, kc, hvc⟩ := htk.own.shape
    subst hvc
    have c8 := htk.sb.c8
    have HRL := hid htk.len
    clear htk hbw
    obtain ⟨n, HNL⟩ : ∃ n, Hid (n = rest.length) := ⟨_, rfl⟩
    rw [← HNL.out] at c8 HTK HRL
    have hnl : n ≤ 140737488355327 := HRL.out
    by_cases h64 : 64 ≤ n
    · have hge : (64 : Int) ≤ (n : Int) := by omega
      have HTA := hid (HTK.out.below (below_walk wr (.cells (bytesV z64).toArray 72)))
      have HGA := hid (hp_new wr (.cells (bytesV z64).toArray 72))
      have HGN := hid (own_ne HTK.out.own wr.heap.size (Or.inr (Nat.le_refl _)))
      have HGB := hid (show w.heap.size + 2 ≤ wr.heap.size by have h1 := HB2.out; have h2 := HSBr.out; omega)
      have HGS := hid (show B ≤ (wr.alloc (.cells (bytesV z64).toArray 72)).heap.size by rw [hp_size]; have := HSBr.out; omega)
      have HC0 := hid c8
      go_upto_region 6 with fail
      generalize wr.alloc (.cells (bytesV z64).toArray 72) = wa at HTA HGA HGS ⊢
      obtain ⟨g, HG⟩ : ∃ g, Hid (g = wr.heap.size) := ⟨_, rfl⟩
      rw [← HG.out] at HGA HGN HGB ⊢
      clear HTK HSBr c8 HG
      go_upto_region 7 with fail
      go_loopw [6] (fun vi wi => ∃ k : Nat, k ≤ 64 ∧ vi = .int .i64 k ∧ Tk w B R M wi Hc (.slice ac n kc) rest ∧ B ≤ wi.heap.size ∧ wi.heap[g]? = some (.cells (bytesV (rest.take k ++ List.replicate (64 - k) 0)).toArray 72 (0, 0))) (fun vi _ => 64 - (intOf vi).toNat)
      case atStart => exact ⟨0, by omega, rfl, HTA.out, HGS.out, HGA.out⟩
      case round =>
        obtain ⟨k, hk, rfl, ht, hbs, hgb⟩ := hrel
        clear HTA HGA HGS
        have HTA := hid ht
        have HGS := hid hbs
        have HGA := hid hgb
        clear ht hbs hgb
        by_cases hk64 : k < 64
        · have c8 := HTA.out.sb.c8
          obtain ⟨q, rfl, ck⟩ := own_cell (by rw [← HNL.out]; exact HTA.out.own) k (by rw [← HNL.out]; omega)
          obtain ⟨x, HX⟩ : ∃ x : UInt8, Hid (x = rest.getD k 0) := ⟨_, rfl⟩
          rw [← HX.out] at ck
          have HKL := hid (show (rest.take k).length = k by rw [List.length_take, ← HNL.out]; omega)
          have cg := bytes_row_cell HGA.out k (by rw [List.length_append, HKL.out, List.length_replicate]; omega)
          have fg := row_fz' HGA.out k
          obtain ⟨y, HY⟩ : ∃ y : UInt8, Hid (y = (rest.take k ++ List.replicate (64 - k) (0 : UInt8)).getD k 0) := ⟨_, rfl⟩
          rw [← HY.out] at cg
          have HNB := hid (blk_cell HGA.out k x)
          rw [set_next _ k 64 HKL.out hk64, HX.out, show rest.take k ++ [rest.getD k 0] = rest.take (k + 1) by
            rw [List.take_succ_eq_append_getElem (by rw [← HNL.out]; omega)]
            simp [List.getD_eq_getElem?_getD, List.getElem?_eq_getElem (show k < rest.length by rw [← HNL.out]; omega)], ← HX.out] at HNB
          have HGW := hid (gb_set wr ⟨g, k, none⟩ (.int .u8 ((x.toNat : Nat) : Int)))
          have HNT := hid (HTA.out.grown HGW.out (by have := HGB.out; simp; omega) (by have := HGB.out; simp; omega) HGN.out (by intro j hj; have := HGB.out; simp at hj; omega))
          have HNS := hid (Nat.le_trans HGS.out HGW.out.size)
          go_wp2
          exact ⟨⟨k + 1, by omega, by simp, HNT.out, HNS.out, HNB.out⟩, by simp [intOf]; omega⟩
        · obtain rfl : k = 64 := by omega
          have HBK := hid (show wr.heap[g]? = some (.cells (u8V (ints (rest.take 64))).toArray 72 (0, 0)) by rw [u8V_ints]; simpa using HGA.out)
          have HBL := hid (show (ints (rest.take 64)).length = 64 by rw [ints_length, List.length_take, ← HNL.out]; omega)
          have HCM := hid (fun (W : World) (h : TabR W) => rcompress_any Hc (ints (rest.take 64)) HTA.out.sb.hl HBL.out W h)
          obtain ⟨Hn, HHN⟩ : ∃ Hn, Hid (Hn = comp Hc (ints (rest.take 64))) := ⟨_, rfl⟩
          have HHNL := hid (show Hn.length = 8 by rw [HHN.out]; exact comp_length _ _ HTA.out.sb.hl)
          rw [← HHN.out] at HCM
          have HHS : Hid ((Tryd.prog.info? 23).map (·.size) = some (u32V Hc).length) := by rw [u32V_length, HTA.out.sb.hl]; exact hid (by kernel_rfl)
          have HBS2 : Hid ((Tryd.prog.info? 72).map (·.size) = some (u8V (ints (rest.take 64))).length) := by rw [u8V_length, HBL.out]; exact hid (by kernel_rfl)
          clear HGA
          go_upto_region 10 with fail
          refine wp_region_list ?_
          show wpList _ _ _ (_ :: _) _ _
          refine fa_row (by rfl) 27 (.tmp 2) 0 (by rfl) ⟨w.heap.size, 0, none⟩ ⟨w.heap.size, 0, none⟩ (by rfl) (field_sH w.heap.size) ?_
          refine wpList_load_mid (by rfl) 23 (.tmp 37) (by rfl) w.heap.size 0 (by rfl) (u32V Hc) _ HTA.out.sb.words Tryd.underlying23 rfl HHS.out ?_
          refine ld_row (by rfl) 72 (.tmp 5) (by rfl) g (by rfl) _ 72 HBK.out _ Tryd.underlying72 rfl HBS2.out ?_
          go_wp2_with fail
          refine (HCM.out wr (HT0.out.below HTA.out.bel)).mono ?_
          rintro e wj ⟨rfl, hbj⟩
          have HTJ := hid (HTA.out.below hbj)
          have HJS := hid (Nat.le_trans HGS.out hbj.size)
          clear hbj
          rename_i Kx hKx
          refine hKx _ _ ?_
          clear hKx
          refine fa_row (by rfl) 27 (.tmp 2) 0 (by rfl) ⟨w.heap.size, 0, none⟩ ⟨w.heap.size, 0, none⟩ (by rfl) (field_sH w.heap.size) ?_
          refine wpList_store_mid (by rfl) 23 (.tmp 41) (.tmp 40) (by rfl) w.heap.size 0 (u32V Hn).toArray (by rfl) (by rfl) (HTJ.out.sb.there _ _ (by rw [List.size_toArray, u32V_length, HHNL.out]; omega)) (by rw [List.size_toArray, u32V_length, HHNL.out]; kernel_rfl) (all_oneCell_toArray (u32V_one _)) ?_
          rw [List.toList_toArray]
          have HNW := hid (HTJ.out.sb.newWords Hn HHNL.out)
          have HOJ := hid (HTJ.out.own.kept HNW.out.2 (own_ne HTJ.out.own _ (Or.inl (by have := HB2.out; omega))))
          have HZJ := hid ((HNW.out.2.block _ (hp_lt HTJ.out.z) (by simp)).trans HTJ.out.z)
          have HBJ := hid (HTJ.out.bel.grown HNW.out.2 HTJ.out.bel.size (by intro k hk; cases hk; exact Nat.le_refl _))
          have HJS2 := hid (Nat.le_trans HJS.out HNW.out.2.size)
          have HAB := hid HTJ.out.ab
          generalize wj.setCells w.heap.size 0 (u32V Hn) = wk at HNW HOJ HZJ HBJ HJS2 ⊢
          clear HTA HGS HBK HTJ HJS HCM
          have HSK := hid HNW.out.1
          clear HNW
          obtain ⟨vd, hsd, hod, hcd⟩ := cut_end (HOJ.out.src (by rw [← HNL.out]; exact hnl)) 64 (by rw [← HNL.out]; exact h64)
          have HSD := hid hsd
          have c8 := HSK.out.c8
          have HLD := hid (show ([] : List UInt8).length + (rest.drop 64).length ≤ 140737488355327 by rw [List.length_drop, ← HNL.out]; simp; omega)
          have HOND := hid (OwnB.nil wk B)
          clear hsd hod
          rw [show ((64 : Nat) : Int) = 64 from rfl] at hcd
          go_wp2_with (at_builtin; refine app_src rfl _ _ rfl B _ [] rfl HOND.out _ (rest.drop 64) rfl HSD.out HLD.out HJS2.out ?_)
          intro v9 w9 ho9 hg9
          obtain ⟨a9, k9, hv9⟩ := ho9.shape
          obtain ⟨m9, HM9⟩ : ∃ m : Nat, Hid (m = (rest.drop 64).length) := ⟨_, rfl⟩
          rw [← HM9.out] at hv9
          subst hv9
          have HG9 := hid (show wk.grownBy w9 none from hg9)
          have HO9 := hid (show OwnB w9 B (.slice a9 m9 k9) (rest.drop 64) from ho9)
          have HS9 := hid (HSK.out.grown HG9.out (by simp))
          have HZ9 := hid ((HG9.out.block _ (hp_lt HZJ.out) (by simp)).trans HZJ.out)
          have HB9 := hid (HBJ.out.grown HG9.out HBJ.out.size (by intro k hk; cases hk))
          have HJ9 := hid (Nat.le_trans HJS2.out HG9.out.size)
          clear ho9 hg9 c8 hcd
          have f8 := HS9.out.fz 8
          have e8 := HS9.out.c8
          have HG10 := hid (gb_set w9 ⟨w.heap.size, 8, none⟩ (.slice a9 m9 k9))
          have HTN := hid (⟨HS9.out.set8 (.slice a9 m9 k9), HO9.out.kept HG10.out (own_ne HO9.out _ (Or.inl (by have := HB2.out; show w.heap.size < B; omega))),
            (hp_set w9 (w.heap.size + 1) w.heap.size 8 (.slice a9 m9 k9) (by omega)).trans HZ9.out,
            HB9.out.grown HG10.out HB9.out.size (by intro k hk; cases hk; exact Nat.le_refl _), by rw [HHN.out, ← absorb_block Hc rest (by rw [← HNL.out]; exact h64)]; exact HAB.out, by rw [List.length_drop, ← HNL.out]; omega⟩ : Tk w B R M (w9.setCell ⟨w.heap.size, 8, none⟩ (.slice a9 m9 k9)) Hn (.slice a9 m9 k9) (rest.drop 64))
          have HJN := hid (Nat.le_trans HJ9.out HG10.out.size)
          have HC8 := hid HTN.out.sb.c8
          go_wp2
          refine ⟨⟨_, _, _, HTN.out, HJN.out⟩, ?_⟩
          rw [HC8.out, HC0.out]
          show m9 < n
          rw [HM9.out, List.length_drop, ← HNL.out]
          omega
    · have hge : ¬ (64 : Int) ≤ (n : Int) := by omega
      have HAB := hid (show R = (Hc, rest) by rw [← HTK.out.ab, absorb_short Hc rest [] (by rw [← HNL.out]; simp; omega)]; rfl)
      have HSZ2 : Hid ((Tryd.prog.info? 27).map (·.size) = some (scells Hc (.slice ac n kc) M).length) := by rw [scells_length _ _ _ HTK.out.sb.hl]; exact hid Tryd.sizeState
      go_upto_region 14 with fail
      refine wp_region_list ?_
      show wpList _ _ _ (_ :: _) _ _
      refine ld_row (by rfl) 27 (.tmp 2) (by rfl) w.heap.size (by rfl) _ 27 HTK.out.sb.blk _ Tryd.underlying27 rfl HSZ2.out ?_
      refine st_row (by rfl) 27 (.tmp 4) (.tmp 49) (by rfl) (w.heap.size + 1) (scells Hc (.slice ac n kc) M) (by rfl) (by rfl) 27 _ HTK.out.z HSZ2.out (by rw [List.size_toArray, scells_length _ _ _ HTK.out.sb.hl]; rfl) (scells_one _ _ _ rfl) ?_
      intro w9 hw9
      have HW := hid hw9
      clear hw9
      go_wp2
      refine ret_row 4 27 rfl (w.heap.size + 1) rfl _ 27 HW.out.blk _ Tryd.underlying27 rfl HSZ2.out rfl ⟨.slice ac n kc, ?_, ?_, ?_⟩
      · rw [HAB.out]
      · rw [HAB.out]
        exact (HTK.out.own.kept HW.out.grown (own_ne HTK.out.own _ (Or.inl (by have := HB2.out; omega)))).le (by have := HB2.out; omega)
      · exact HTK.out.bel.grown HW.out.grown HTK.out.bel.size (by intro k hk; cases hk; omega)

end Go.Proofs.YticmdmnjajjpbabDoor
