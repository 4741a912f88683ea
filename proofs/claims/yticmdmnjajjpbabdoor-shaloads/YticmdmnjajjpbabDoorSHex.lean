/- Hex and Unhex. -/
import Derived.Test.YticmdmnjajjpbabDoorSEq
import Derived.Test.YticmdmnjajjpbabDoorSPad
import Derived.Deep.RegionLaw
import Derived.Laws.BitsAllLaws
namespace Go.Proofs.YticmdmnjajjpbabDoor
open Go.RowKit

theorem index_row {P : Program} (w : World) (t e : TypeId) (n : Nat) (k : IntKind) (ht : P.underlying t = some (.array n e)) (he : P.underlying e = some (.int k)) (hs : (P.info? e).map (·.size) = some 1)
    (cs : Array Value) (i : Nat) (hi : i < n) (v : Value) (hc : cs[i]? = some v) : (Instr.index t (.agg cs) (.int .i64 (i : Int))).run P w = .ok v w := by
  have hsz : (sizeOf e).run P w = .ok 1 w := by
    cases hq : P.info? e with
    | none => rw [hq] at hs; cases hs
    | some i => rw [hq] at hs; simp at hs; simp [sizeOf, typeInfo, hq, hs]
  have hin : (0 : Int) ≤ (i : Int) ∧ (i : Int) < (n : Int) := by omega
  simp only [Instr.index, asIntOf, Sem.run_bind, Sem.run_pure, Result.andThen_ok, run_underlying ht, hin, if_true, hsz, and_self, Int.toNat_natCast, Nat.mul_one]
  exact run_part_int w e k he cs i v hc

/-- a digit -/
def hexd (q : Nat) : UInt8 := if q < 10 then (48 + q).toUInt8 else (87 + q).toUInt8
/-- bytes as text -/
def hexT : List UInt8 → List UInt8
  | [] => []
  | b :: r => hexd (b.toNat / 16) :: hexd (b.toNat % 16) :: hexT r
theorem hexT_length (bs : List UInt8) : (hexT bs).length = 2 * bs.length := by
  induction bs with
  | nil => rfl
  | cons b r ih => simp [hexT, ih]; omega
theorem hexT_append (a b : List UInt8) : hexT (a ++ b) = hexT a ++ hexT b := by
  induction a with
  | nil => rfl
  | cons c r ih => simp [hexT, ih]
theorem hexT_take (bs : List UInt8) (k : Nat) (hk : k < bs.length) : hexT (bs.take (k + 1)) = hexT (bs.take k) ++ [hexd ((bs.getD k 0).toNat / 16), hexd ((bs.getD k 0).toNat % 16)] := by
  rw [List.take_succ_eq_append_getElem hk, hexT_append]
  simp [hexT, List.getD_eq_getElem?_getD, List.getElem?_eq_getElem hk]
theorem index_digit (W : World) : ∀ q : Nat, q < 16 → (Instr.index 9 (.string ⟨#[48, 49, 50, 51, 52, 53, 54, 55, 56, 57, 97, 98, 99, 100, 101, 102]⟩) (.int .u8 (q : Int))).run Tryd.prog W = .ok (.int .u8 ((hexd q).toNat : Nat)) W
  | 0, _ => by kernel_rfl
  | 1, _ => by kernel_rfl
  | 2, _ => by kernel_rfl
  | 3, _ => by kernel_rfl
  | 4, _ => by kernel_rfl
  | 5, _ => by kernel_rfl
  | 6, _ => by kernel_rfl
  | 7, _ => by kernel_rfl
  | 8, _ => by kernel_rfl
  | 9, _ => by kernel_rfl
  | 10, _ => by kernel_rfl
  | 11, _ => by kernel_rfl
  | 12, _ => by kernel_rfl
  | 13, _ => by kernel_rfl
  | 14, _ => by kernel_rfl
  | 15, _ => by kernel_rfl
  | n + 16, h => absurd h (by omega)
theorem src_two (w : World) (x y : UInt8) : Src (w.alloc (.cells #[.int .u8 (x.toNat : Nat), .int .u8 (y.toNat : Nat)] 5)) (.slice (some ⟨w.heap.size, 0, none⟩) 2 2) [x, y] := by
  refine ⟨by simp, Or.inr ⟨⟨w.heap.size, 0, none⟩, 2, rfl, by simp, by unfold maxLen; omega, fun _ => by simp, fun j hj => ?_⟩⟩
  have hb := hp_new w (.cells #[.int .u8 (x.toNat : Nat), .int .u8 (y.toNat : Nat)] 5)
  rw [addr_add, cell_of_row _ _ _ _ _ _ hb]
  match j, hj with
  | 0, _ => rfl
  | 1, _ => rfl
theorem dig_at (bs : List UInt8) (h : bs.length = 32) (k : Nat) (hk : k < 32) (W : World) : (Instr.index 53 (.agg (bytesV bs).toArray) (.int .i64 (k : Int))).run Tryd.prog W = .ok (.int .u8 ((bs.getD k 0).toNat : Nat)) W := by
  refine index_row W 53 5 32 .u8 Tryd.underlying53 Tryd.underlying5 (by kernel_rfl) _ k hk _ ?_
  rw [List.getElem?_toArray, bytesV_get, List.getElem?_eq_getElem (by omega)]
  simp [List.getD_eq_getElem?_getD, List.getElem?_eq_getElem (show k < bs.length by omega)]

/-- append(own, bytes...), as one step of a region that draws its order -/
theorem step_app_src {ops : Array Oper} {o : Oper} {act : Act} {w : World} {K : Act → World → Prop} {Q : Exit → Act → World → Prop} {E : Prop} (hgd : o.guard = none) (s x : Operand)
    (ho : o.op = .call { callee := .builtin .append, args := #[s, x], argTypes := #[24, 24] })
    (base : Nat) (v : Value) (bs : List UInt8) (hs : act.eval s = v) (hown : OwnB w base v bs) (vx : Value) (cs : List UInt8) (hx : act.eval x = vx) (hsrc : Src w vx cs)
    (hlen : bs.length + cs.length ≤ 140737488355327) (hbase : base ≤ w.heap.size)
    (h : ∀ v' w', OwnB w' base v' (bs ++ cs) → w.grownBy w' v.ownBlock → K (act.put o.dst v') w') :
    if Region.wanted o (yielded ops act.tmps) = true then Oper.wp Tryd.prog o act w K Q else E := by
  have hw : Region.wanted o (yielded ops act.tmps) = true := by simp [Region.wanted, hgd]
  rw [if_pos hw]
  obtain ⟨i0, hi, hz0, hz1, hz2⟩ := info_parts Tryd.infoU8
  obtain ⟨_, ⟨rfl, rfl⟩ | ⟨ad, cap, rfl, h1, h2, hlt, hc⟩⟩ := hsrc
  · have hrun := run_append_owned_none (P := Tryd.prog) (w := w) base 24 o.type 5 i0 1 Tryd.underlying24 hi v bs.length (bytesV bs) hown
    unfold Oper.wp
    simp [execOp, ho, resolve, invoke, builtin, hs, hx, hrun, Result.andThen]
    exact h v w (by simpa using hown) (gb_refl _ _)
  · obtain ⟨v', w', hrun, r1, r2, _⟩ := run_append_own (P := Tryd.prog) w base 24 o.type 5 i0 (.int .u8 0) 1 1 Tryd.underlying24 hi hz0 hz1 hz2 rfl (by decide) v bs.length (bytesV bs) hown ad cs.length cap (bytesV cs) (by simp [bytesV]) (src_cells hc) (bytesV_one cs) (by unfold maxLen; omega) (by omega) hbase
    unfold Oper.wp
    simp [execOp, ho, resolve, invoke, builtin, hs, hx, hrun, Result.andThen]
    exact h v' w' (by unfold OwnB; rw [bytesV_append, List.length_append]; exact r1) r2

/-- while Hex goes on -/
structure Hx (w : World) (bs : List UInt8) (v : Value) (wr : World) : Prop where
  own : OwnB wr w.heap.size v (hexT bs)
  bel : Below w.heap.size w wr

set_option maxRecDepth 100000 in
set_option maxHeartbeats 1000000 in
theorem hex_any (w : World) (bs : List UInt8) (h32 : bs.length = 32) :
    Calls Tryd.prog 32 #[.agg (bytesV bs).toArray] w fun e w' => e = .returned (.string ⟨(hexT bs).toArray⟩) ∧ Below w.heap.size w w' := by
  have HBX := hid (below_walk w (.cells (bytesV bs).toArray 53))
  have HN := hid (hp_new w (.cells (bytesV bs).toArray 53))
  have H32 := hid h32
  have HSZ : Hid ((Tryd.prog.info? 53).map (·.size) = some (bytesV bs).length) := by rw [bytesV_length, h32]; exact hid (by kernel_rfl)
  clear h32
  go_enter Tryd.func32, Tryd.ntmps32
  go_upto_region 1 with fail
  generalize w.alloc (.cells (bytesV bs).toArray 53) = w1 at HBX HN ⊢
  go_wp2_with (at_make; refine make_own rfl _ _ rfl _ 64 rfl rfl ?m1 ?m2 ?_)
  case m1 => rfl
  case m2 => omega
  intro v2 w2 ho2 hb2
  have HX := hid (Hx.mk (show OwnB w2 w.heap.size v2 (hexT (bs.take 0)) from ho2.le HBX.out.size) (HBX.out.trans (hb2.mono HBX.out.size)) : Hx w (bs.take 0) v2 w2)
  have HN2 := hid ((hb2.block w.heap.size (hp_lt HN.out)).trans HN.out)
  clear ho2 hb2
  go_upto_region 2 with fail
  refine wp_region_list ?_
  show wpList _ _ _ (_ :: _) _ _
  refine ld_row (by rfl) 53 (.tmp 1) (by rfl) w.heap.size (by rfl) _ 53 HN2.out _ Tryd.underlying53 rfl HSZ.out ?_
  clear HN HN2 HBX
  obtain ⟨D, HD⟩ : ∃ D, Hid (D = (bytesV bs).toArray) := ⟨_, rfl⟩
  have hix := fun (k : Nat) (hk : k < 32) (W : World) => dig_at bs H32.out k hk W
  rw [← HD.out] at hix ⊢
  have HIX := hid hix
  clear hix
  go_wp2
  go_loopw [3, 8] (fun v vi wr => ∃ k : Nat, k ≤ 32 ∧ vi = .int .i64 k ∧ Hx w (bs.take k) v wr) (fun _ vi _ => 32 - (intOf vi).toNat)
  case atStart => exact ⟨0, by omega, rfl, HX.out⟩
  case round =>
    obtain ⟨k, hk, rfl, hx⟩ := hrel
    clear HX
    have HX := hid hx
    clear hx
    by_cases hlt : k < 32
    · have hix := HIX.out k hlt
      have HT := hid (hexT_take bs k (by rw [H32.out]; exact hlt))
      obtain ⟨c, HC⟩ : ∃ c : UInt8, Hid (c = bs.getD k 0) := ⟨_, rfl⟩
      rw [← HC.out] at hix HT
      obtain ⟨q, HQ⟩ : ∃ q, Hid (q = c.toNat / 16) := ⟨_, rfl⟩
      obtain ⟨r, HR⟩ : ∃ r, Hid (r = c.toNat % 16) := ⟨_, rfl⟩
      have hc := c.toNat_lt
      have hq : q < 16 := by rw [HQ.out]; omega
      have hr : r < 16 := by rw [HR.out]; omega
      have e1 : ((c.toNat : Nat) : Int) / 2 ^ 4 = (q : Int) := by rw [HQ.out]; omega
      have e1' : ((c.toNat : Nat) : Int) / 16 = (q : Int) := by rw [HQ.out]; omega
      have e2 : bits .and .u8 ((c.toNat : Nat) : Int) 15 = (r : Int) := by
        have := u8_and_nat c.toNat 15 (by omega) (by omega)
        rw [show (15 : Nat) = 2 ^ 4 - 1 from rfl, Nat.and_two_pow_sub_one_eq_mod, ← show (15 : Nat) = 2 ^ 4 - 1 from rfl] at this
        rw [HR.out]
        exact this
      have i1 := fun W => index_digit W q hq
      have i2 := fun W => index_digit W r hr
      go_upto_region 5 with fail
      have HOX := hid (fun (W : World) (o : Obj) (hW : W.heap = wr.heap) => ((show OwnB W w.heap.size u3 (hexT (bs.take k)) by have := HX.out.own; unfold OwnB World.ownsRow at this ⊢; rw [hW]; exact this).below (below_walk W o) : OwnB (W.alloc o) w.heap.size u3 (hexT (bs.take k))))
      have HSZ2 := hid (show w.heap.size ≤ wr.heap.size + 1 from Nat.le_succ_of_le HX.out.bel.size)
      have HLN := hid (show (hexT (bs.take k)).length + [hexd q, hexd r].length ≤ 140737488355327 by rw [hexT_length, List.length_take]; simp; omega)
      go_region_law ((refine step_app_src (by rfl) (.tmp 11) (.tmp 18) (by rfl) w.heap.size _ (hexT (bs.take k)) (by rfl) (by exact HOX.out _ _ rfl) _ [hexd q, hexd r] (by rfl) (by exact src_two _ _ _) HLN.out (by show w.heap.size ≤ (wr.alloc _).heap.size; rw [hp_size]; exact HSZ2.out) ?_; intro v5 w5 ho5 hg5; have HO5 := hid ho5; have HG5 := hid hg5; clear ho5 hg5))
      all_goals
        have HN : Hid (Hx w (bs.take (k + 1)) v5 w5) := by
          have ho5 := HO5.out
          rw [HQ.out, HR.out, ← HT.out] at ho5
          refine hid ⟨ho5, ?_⟩
          have hb := HX.out.bel
          exact (((show Below w.heap.size w wr.drew from ⟨hb.os, hb.tape, hb.output, hb.size, hb.block⟩).alloc hb.size _).grown HG5.out (by rw [hp_size]; exact HSZ2.out) (fun j hj => (HX.out.own.lt j hj).1))
        clear HO5 HG5
        go_wp2
        exact ⟨⟨k + 1, by omega, by simp, HN.out⟩, by simp [intOf]; omega⟩
    · have hge : ¬ (k : Int) < 32 := by omega
      have HE := hid (show hexT (bs.take k) = hexT bs by rw [List.take_of_length_le (by rw [H32.out]; omega)])
      have HL := hid (show (hexT bs).length ≤ 140737488355327 by rw [hexT_length, H32.out]; omega)
      have ks := run_str (HX.out.own.src (by rw [HE.out]; exact HL.out))
      rw [HE.out] at ks
      clear hlt
      go_wp2
      go_ret
      exact ⟨rfl, HX.out.bel⟩

end Go.Proofs.YticmdmnjajjpbabDoor
