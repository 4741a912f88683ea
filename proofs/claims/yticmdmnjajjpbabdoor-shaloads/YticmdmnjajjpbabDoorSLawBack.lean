/- ShaBack answers true. -/
import Derived.Test.YticmdmnjajjpbabDoorSAwake
import Derived.Test.YticmdmnjajjpbabDoorSUnhex
import Derived.Test.YticmdmnjajjpbabDoorSClone
namespace Go.Proofs.YticmdmnjajjpbabDoor
open Go.RowKit

theorem four_ne (bs : List UInt8) (h : bs.length = 32) (W : World) : (binOp .neq 53 (.agg (bytesV bs).toArray) (.agg (bytesV bs).toArray)).run Tryd.prog W = .ok (.bool false) W := by
  have e : bytesV bs = (bs.map fun c => (c.toNat : Int)).map (Value.int .u8) := by simp [bytesV]
  rw [e]
  exact neq_row W 53 5 32 .u8 Tryd.underlying53 Tryd.underlying5 (by kernel_rfl) _ (by simpa using h)
theorem four_eq (bs : List UInt8) (h : bs.length = 32) (W : World) : (binOp .eql 53 (.agg (bytesV bs).toArray) (.agg (bytesV bs).toArray)).run Tryd.prog W = .ok (.bool true) W := by
  have e : bytesV bs = (bs.map fun c => (c.toNat : Int)).map (Value.int .u8) := by simp [bytesV]
  rw [e]
  exact eql_row W 53 5 32 .u8 Tryd.underlying53 Tryd.underlying5 (by kernel_rfl) _ (by simpa using h)
theorem uh_hex (bs : List UInt8) (h : bs.length = 32) : uhB (hexT bs) = bs ∧ uhE (hexT bs) = 0 := by
  have h1 := unh_hexT bs
  have h2 : (hexT bs).length = 64 ∧ okT (hexT bs) = true := ⟨by rw [hexT_length, h], h1.2⟩
  unfold uhB uhE
  rw [if_pos h2, if_pos h2]
  exact ⟨h1.1, rfl⟩
theorem ex_row {P : Program} {w : World} {ops : Array Oper} {rest : List Oper} {o : Oper} {a : Act} {Q : Exit → Act → World → Prop} (hgd : o.guard = none) (x : Operand) (i : Nat) (ho : o.op = .extract x i) (vs : Array Value) (hx : a.eval x = .tuple vs) (v : Value) (hv : vs[i]? = some v)
    (h : wpList P ops Q rest (a.put o.dst v) w) : wpList P ops Q (o :: rest) a w := by
  refine wpList_plain hgd fun K hK => ?_
  unfold Oper.wp execOp
  simp [ho, hx, hv, Instr.extract]
  exact hK _ _ h
theorem unguard {P : Program} {ops : Array Oper} {Q : Exit → Act → World → Prop} {a : Act} {w : World} {rest : List Oper} {d : Option Tmp} {op : Op} {ty : TypeId} {pos : String} {af : Array Edge} {g : Option (Nat × Bool)}
    (hw : Region.wanted ⟨d, op, ty, pos, af, g⟩ (yielded ops a.tmps) = true) (h : wpList P ops Q (⟨d, op, ty, pos, af, none⟩ :: rest) a w) : wpList P ops Q (⟨d, op, ty, pos, af, g⟩ :: rest) a w := by
  have hn : Region.wanted ⟨d, op, ty, pos, af, none⟩ (yielded ops a.tmps) = true := by simp [Region.wanted]
  simp only [wpList] at h ⊢
  rw [if_pos hn] at h
  rw [if_pos hw]
  exact h
theorem arr_list (l : List UInt8) : (⟨l.toArray⟩ : ByteArray).data.toList = l := by simp

set_option maxRecDepth 100000 in
set_option maxHeartbeats 2000000 in
theorem back_any (w : World) (bs : List UInt8) (s : ByteArray) (hT : Tabs w) (h32 : bs.length = 32) :
    Calls Tryd.prog 8 #[.agg (bytesV bs).toArray, .string s] w fun e w' => e = .returned (.bool true) ∧ Below w.heap.size w w' := by
  have HT := hid hT
  have HBX := hid (below_walk w (.cells (bytesV bs).toArray 53))
  have HN := hid (hp_new w (.cells (bytesV bs).toArray 53))
  have H32 := hid h32
  have HSZ : Hid ((Tryd.prog.info? 53).map (·.size) = some (bytesV bs).length) := by rw [bytesV_length, h32]; exact hid (by kernel_rfl)
  obtain ⟨l, HL⟩ : ∃ l, Hid (s.data.toList = l) := ⟨_, rfl⟩
  have HH := hid (uh_hex bs h32)
  have nq := four_ne bs h32
  clear h32 hT
  go_enter Tryd.func8, Tryd.ntmps8
  go_upto_region 1 with fail
  generalize w.alloc (.cells (bytesV bs).toArray 53) = w1 at HBX HN ⊢
  refine wp_region_list ?_
  show wpList _ _ _ (_ :: _) _ _
  refine ld_row (by rfl) 53 (.tmp 2) (by rfl) w.heap.size (by rfl) _ 53 HN.out _ Tryd.underlying53 rfl HSZ.out ?_
  go_wp2_with fail
  refine (hex_any w1 bs H32.out).mono ?_
  rintro e w2 ⟨rfl, hb2⟩
  have HB2 := hid (HBX.out.trans (hb2.mono HBX.out.size))
  have HN2 := hid ((hb2.block w.heap.size (hp_lt HN.out)).trans HN.out)
  clear hb2 HBX HN
  go_wp2_with fail
  refine (unhex_any w2 _ (hexT bs) (arr_list _)).mono ?_
  rintro e w3 ⟨rfl, hb3⟩
  rw [HH.out.1, HH.out.2]
  have HB3 := hid (HB2.out.trans (hb3.mono HB2.out.size))
  have HN3 := hid ((hb3.block w.heap.size (hp_lt HN2.out)).trans HN2.out)
  clear hb3 HB2 HN2
  rename_i Kx hKx
  refine hKx _ _ ?_
  clear hKx
  obtain ⟨z, sz⟩ := zero_of_info (P := Tryd.prog) (t := 53) (v := .agg (bytesV z32).toArray) (n := 32) (by kernel_rfl)
  have HZ := hid z
  clear z sz
  refine mv_row (by rfl) (.tmp 12) (by rfl) (.tuple #[.agg (bytesV bs).toArray, .int .i64 0]) (by rfl) ?_
  refine ex_row (by rfl) (.tmp 9) 0 (by rfl) _ (by rfl) (.agg (bytesV bs).toArray) rfl ?_
  refine ex_row (by rfl) (.tmp 9) 1 (by rfl) _ (by rfl) (.int .i64 0) rfl ?_
  refine al_row (by rfl) 53 (by rfl) _ HZ.out ?_
  refine st_new (by rfl) 53 (.tmp 5) (.tmp 13) (by rfl) (bytesV bs) (by rfl) (by rfl) _ _ HSZ.out (by rw [List.size_toArray, bytesV_length, bytesV_length, H32.out]; rfl) (bytesV_one _) ?_
  have HN4 := hid (hp_new w3 (.cells (bytesV bs).toArray 53))
  have HB4 := hid (HB3.out.alloc HB3.out.size (.cells (bytesV bs).toArray 53))
  have HO4 := hid ((hp_old w3 (.cells (bytesV bs).toArray 53) _ (hp_lt HN3.out)).trans HN3.out)
  generalize w3.alloc (.cells (bytesV bs).toArray 53) = w4 at HN4 HB4 HO4 ⊢
  clear HN3 HB3
  go_upto_region 2 with fail
  go_wp2_with (first
    | (refine unguard (by rfl) ?_; refine ld_row (by rfl) 53 (.tmp 5) (by rfl) w3.heap.size (by rfl) _ 53 HN4.out _ Tryd.underlying53 rfl HSZ.out ?_)
    | (refine unguard (by rfl) ?_; refine ld_row (by rfl) 53 (.tmp 2) (by rfl) w.heap.size (by rfl) _ 53 HO4.out _ Tryd.underlying53 rfl HSZ.out ?_))
  refine (hex_any w4 bs H32.out).mono ?_
  rintro e w5 ⟨rfl, hb5⟩
  have HB5 := hid (HB4.out.trans (hb5.mono HB4.out.size))
  clear hb5 HN4 HB4 HO4
  have hl64 : (hexT bs).length = 64 := by rw [hexT_length, H32.out]
  go_wp2_with fail
  refine (unhex_any w5 s l HL.out).mono ?_
  rintro e w6 ⟨rfl, hb6⟩
  have HB6 := hid (HB5.out.trans (hb6.mono HB5.out.size))
  clear hb6 HB5
  have HUL : Hid ((Tryd.prog.info? 53).map (·.size) = some (bytesV (uhB l)).length) := by rw [bytesV_length, uhB_length]; exact hid (by kernel_rfl)
  rename_i Kx hKx
  refine hKx _ _ ?_
  clear hKx
  refine mv_row (by rfl) (.tmp 30) (by rfl) (.tuple #[.agg (bytesV (uhB l)).toArray, .int .i64 (uhE l)]) (by rfl) ?_
  refine ex_row (by rfl) (.tmp 28) 0 (by rfl) _ (by rfl) (.agg (bytesV (uhB l)).toArray) rfl ?_
  refine ex_row (by rfl) (.tmp 28) 1 (by rfl) _ (by rfl) (.int .i64 (uhE l)) rfl ?_
  refine al_row (by rfl) 53 (by rfl) _ HZ.out ?_
  refine st_new (by rfl) 53 (.tmp 7) (.tmp 31) (by rfl) (bytesV (uhB l)) (by rfl) (by rfl) _ _ HUL.out (by rw [List.size_toArray, bytesV_length, bytesV_length, uhB_length]; rfl) (bytesV_one _) ?_
  have HN7 := hid (hp_new w6 (.cells (bytesV (uhB l)).toArray 53))
  have HB7 := hid (HB6.out.alloc HB6.out.size (.cells (bytesV (uhB l)).toArray 53))
  generalize w6.alloc (.cells (bytesV (uhB l)).toArray 53) = w7 at HN7 HB7 ⊢
  clear HB6
  by_cases hok : l.length = 64 ∧ okT l = true
  · have HE := hid (show uhE l = 0 by unfold uhE; rw [if_pos hok])
    have HX := hid (show (⟨(hexT (uhB l)).toArray⟩ : ByteArray) = s by
      unfold uhB
      rw [if_pos hok, hexT_unh l 32 (by omega) hok.2, ← HL.out])
    clear hok
    rw [HE.out]
    go_wp2_with (first
      | (refine ld_row (by rfl) 53 (.tmp 7) (by rfl) w6.heap.size (by rfl) _ 53 HN7.out _ Tryd.underlying53 rfl HUL.out ?_))
    refine (hex_any w7 (uhB l) (uhB_length l)).mono ?_
    rintro e w8 ⟨rfl, hb8⟩
    have HB8 := hid (HB7.out.trans (hb8.mono HB7.out.size))
    clear hb8
    rw [HX.out]
    go_wp2_with fail
    refine (awake_any _ (HT.out.below HB8.out)).mono ?_
    rintro e w9 ⟨rfl, hb9⟩
    have HB9 := hid (HB8.out.trans (hb9.mono HB8.out.size))
    clear hb9
    go_wp2
    go_ret
    exact ⟨rfl, HB9.out⟩
  · have HE := hid (show uhE l = 23 by unfold uhE; rw [if_neg hok])
    have HX := hid (show uhB l = z32 by unfold uhB; rw [if_neg hok])
    clear hok
    rw [HE.out]
    rw [HX.out] at HN7 HUL
    have eq := four_eq z32 rfl
    have HBU := hid (show Tryd.prog.built 53 [] = some (bytesV z32).toArray by kernel_rfl)
    go_wp2_with (first
      | (refine unguard (by rfl) ?_; refine ld_row (by rfl) 53 (.tmp 7) (by rfl) w6.heap.size (by rfl) _ 53 HN7.out _ Tryd.underlying53 rfl HUL.out ?_)
      | (refine unguard (by rfl) ?_; refine bd_row (by rfl) 53 _ (by rfl) [] (by simp) _ HBU.out ?_))
    refine (awake_any _ (HT.out.below HB7.out)).mono ?_
    rintro e w9 ⟨rfl, hb9⟩
    have HB9 := hid (HB7.out.trans (hb9.mono HB7.out.size))
    clear hb9
    go_wp2
    go_ret
    exact ⟨rfl, HB9.out⟩

end Go.Proofs.YticmdmnjajjpbabDoor
