/- The law WireOwn, walked: it answers true, and only makes memory. -/
import Derived.Test.YtggmgbdofjhkdaaOwnA
import Derived.Deep.RegionHeldLaw
import Derived.Deep.RegionHeld3
namespace Go.Proofs.Ytggmgbdofjhkdaa
open Go.RowKit

def eight : List UInt8 := [1, 2, 3, 4, 5, 6, 7, 8]
theorem own_eight (w : World) : OwnB (w.alloc (.cells #[.int .u8 1, .int .u8 2, .int .u8 3, .int .u8 4, .int .u8 5, .int .u8 6, .int .u8 7, .int .u8 8] 5)) w.heap.size (.slice (some ⟨w.heap.size, 0, none⟩) 8 8) eight :=
  ⟨rfl, Or.inr ⟨w.heap.size, 8, #[.int .u8 1, .int .u8 2, .int .u8 3, .int .u8 4, .int .u8 5, .int .u8 6, .int .u8 7, .int .u8 8], rfl, Nat.le_refl _, heap_alloc_new w _, Nat.le_refl _, by unfold maxLen; omega, rfl, rfl⟩⟩
theorem own_two (w : World) : OwnB (w.alloc (.cells #[.int .u8 171, .int .u8 171] 5)) w.heap.size (.slice (some ⟨w.heap.size, 0, none⟩) 2 2) [171, 171] :=
  ⟨rfl, Or.inr ⟨w.heap.size, 2, #[.int .u8 171, .int .u8 171], rfl, Nat.le_refl _, heap_alloc_new w _, Nat.le_refl _, by unfold maxLen; omega, rfl, rfl⟩⟩
theorem own_threes (w : World) : OwnB (w.alloc (.cells #[.int .u8 174, .int .u8 174, .int .u8 174] 5)) w.heap.size (.slice (some ⟨w.heap.size, 0, none⟩) 3 3) [174, 174, 174] :=
  ⟨rfl, Or.inr ⟨w.heap.size, 3, #[.int .u8 174, .int .u8 174, .int .u8 174], rfl, Nat.le_refl _, heap_alloc_new w _, Nat.le_refl _, by unfold maxLen; omega, rfl, rfl⟩⟩

/-- append(own, bytes...), as one step of a region that draws its order -/
theorem step_app_src {ops : Array Oper} {o : Oper} {act : Act} {w : World} {K : Act → World → Prop} {Q : Exit → Act → World → Prop} {E : Prop} (hgd : o.guard = none) (s x : Operand)
    (ho : o.op = .call { callee := .builtin .append, args := #[s, x], argTypes := #[23, 23] })
    (base : Nat) (v : Value) (bs : List UInt8) (hs : act.eval s = v) (hown : OwnB w base v bs) (vx : Value) (cs : List UInt8) (hx : act.eval x = vx) (hsrc : Src w vx cs)
    (hlen : bs.length + cs.length ≤ 140737488355327) (hbase : base ≤ w.heap.size)
    (h : ∀ v' w', OwnB w' base v' (bs ++ cs) → w.grownBy w' v.ownBlock → K (act.put o.dst v') w') :
    if Region.wanted o (yielded ops act.tmps) = true then Oper.wp Try.prog o act w K Q else E := by
  have hw : Region.wanted o (yielded ops act.tmps) = true := by simp [Region.wanted, hgd]
  rw [if_pos hw]
  obtain ⟨i0, hi, hz0, hz1, hz2⟩ := info_parts Try.infoU8
  obtain ⟨_, ⟨rfl, rfl⟩ | ⟨ad, cap, rfl, h1, h2, hlt, hc⟩⟩ := hsrc
  · have hrun := run_append_owned_none (P := Try.prog) (w := w) base 23 o.type 5 i0 1 Try.underlying23 hi v bs.length (bytesV bs) hown
    unfold Oper.wp
    simp [execOp, ho, resolve, invoke, builtin, hs, hx, hrun, Result.andThen]
    exact h v w (by simpa using hown) (gb_refl _ _)
  · obtain ⟨v', w', hrun, r1, r2, _⟩ := run_append_own (P := Try.prog) w base 23 o.type 5 i0 (.int .u8 0) 1 1 Try.underlying23 hi hz0 hz1 hz2 rfl (by decide) v bs.length (bytesV bs) hown ad cs.length cap (bytesV cs) (by simp [bytesV]) (src_cells hc) (bytesV_one cs) (by unfold maxLen; omega) (by omega) hbase
    unfold Oper.wp
    simp [execOp, ho, resolve, invoke, builtin, hs, hx, hrun, Result.andThen]
    exact h v' w' (by unfold OwnB; rw [bytesV_append, List.length_append]; exact r1) r2

set_option maxRecDepth 100000 in
set_option maxHeartbeats 4000000 in
theorem lawOwn_any (v0 : Value) (bs : List UInt8) (x : PutD) (n : Int) (w : World) (hs : Src w v0 bs) (hbl : bs.length ≤ 1048576) (hok : PutOk w x.u x.i x.tv x.ss) (hxl : x.bytes.length ≤ 11534336) (_ : -9223372036854775808 ≤ n) (_ : n ≤ 9223372036854775807) :
    Calls Try.prog 8 #[v0, .agg #[.int .i64 x.k, .int .u64 x.u, .int .i64 x.i, x.tv], .int .i64 n] w fun e w' => e = .returned (.bool true) ∧ Below w.heap.size w w' := by
  obtain ⟨K, U, I, tv, ss⟩ := x
  simp only [PutD.bytes] at hok hxl ⊢
  have HS := hid hs
  obtain ⟨av, cv, hv1⟩ : ∃ a0 c0, v0 = .slice a0 bs.length c0 := by
    obtain ⟨_, ⟨h1, h2⟩ | ⟨ad, cp, h1, _⟩⟩ := hs
    · exact ⟨none, 0, by rw [h1, h2]; rfl⟩
    · exact ⟨_, _, h1⟩
  subst hv1
  obtain ⟨at', ct, htv⟩ : ∃ a0 c0, tv = .slice a0 ss.length c0 := hok.strs.shape
  have HA := hid (below_walk w (.cells #[.int .i64 K, .int .u64 U, .int .i64 I, tv] 27))
  have HOK := hid (hok.below HA.out)
  clear hs hok
  subst htv
  go_enter Try.func8, Try.ntmps8
  go_wp2_with fail
  refine (alive_true _).mono ?_
  rintro e w1 ⟨rfl, hb1⟩
  have HOK1 := hid (HOK.out.below hb1)
  have HB1 := hid (HA.out.trans (hb1.mono (by simp)))
  have hz1 := hb1.size
  simp at hz1
  have hld : w1.cell? ⟨w.heap.size, 0, none⟩ = some (.int .i64 K) ∧ w1.cell? ⟨w.heap.size, 1, none⟩ = some (.int .u64 U) ∧ w1.cell? ⟨w.heap.size, 2, none⟩ = some (.int .i64 I) ∧ w1.cell? ⟨w.heap.size, 3, none⟩ = some (.slice at' ss.length ct) := by
    refine ⟨?_, ?_, ?_, ?_⟩ <;> (rw [hb1.cell (by simp)]; simp)
  have HLD := hid hld
  clear hb1 hld HOK HA
  go_wp2_with (at_make; refine make_own rfl _ _ rfl _ (bs.length + 32) rfl rfl ?m1 ?m2 ?_)
  case m1 => simp
  case m2 => omega
  intro v2 w2 ho2 hb2
  have HO2 := hid ho2
  have HB2 := hid hb2
  have hz2 := hb2.size
  clear ho2 hb2
  go_wp2_with (at_builtin; refine app_src rfl _ _ rfl w1.heap.size _ _ rfl HO2.out _ _ rfl (HS.out.below (HB1.out.trans (HB2.out.mono (by omega)))) ?c1 hz2 ?_)
  case c1 => simp; omega
  intro v3 w3 ho3 hg3
  have HO3 := hid (by simpa using ho3 : OwnB w3 w1.heap.size v3 bs)
  have HB3 := hid (HB2.out.grown hg3 (by omega) (fun j e => (HO2.out.lt j e).1))
  have hz3 : w2.heap.size ≤ w3.heap.size := hg3.size
  clear ho3 hg3 HO2 HB2
  go_wp2_with (at_builtin; refine app_src rfl _ _ rfl w1.heap.size _ _ rfl (own_alloc HO3.out _) _ eight rfl ((own_eight w3).src (by decide)) ?d1 ?d2 ?_)
  case d1 => show bs.length + 8 ≤ _; omega
  case d2 => simp; omega
  intro v4 w4 ho4 hg4
  have hz4 : w3.heap.size + 1 ≤ w4.heap.size := by have := hg4.size; simpa using this
  have HB4 := hid ((HB3.out.alloc (by omega) _).grown hg4 (by simp; omega) (fun j e => (HO3.out.lt j e).1))
  obtain ⟨g, cap, rfl, hgl, hgh, hcap⟩ : ∃ g cap, v4 = .slice (some ⟨g, 0, none⟩) (bs.length + 8) cap ∧ w1.heap.size ≤ g ∧ g < w4.heap.size ∧ bs.length + 8 ≤ cap := by
    rcases ho4.forms with ⟨_, h0⟩ | ⟨g, cap, hv, h1, h2, h3, _⟩
    · have := congrArg List.length h0
      simp [eight] at this
    · rw [List.length_append] at hv h3
      exact ⟨g, cap, hv, h1, h2, h3⟩
  have HO4 := hid ho4
  clear ho4 hg4 HO3 HB3
  have HM4 := hid HO4.out.begin
  have HBW := hid (HB1.out.trans (HB4.out.mono (by omega)))
  have HOK4 := hid (HOK1.out.below (HB4.out.mono (Nat.le_refl _)))
  have hld : w4.cell? ⟨w.heap.size, 0, none⟩ = some (.int .i64 K) ∧ w4.cell? ⟨w.heap.size, 1, none⟩ = some (.int .u64 U) ∧ w4.cell? ⟨w.heap.size, 2, none⟩ = some (.int .i64 I) ∧ w4.cell? ⟨w.heap.size, 3, none⟩ = some (.slice at' ss.length ct) := by
    obtain ⟨l0, l1, l2, l3⟩ := HLD.out
    refine ⟨?_, ?_, ?_, ?_⟩ <;> (rw [HB4.out.cell (by show w.heap.size < _; omega)]; assumption)
  have HL4 := hid hld
  obtain ⟨l0, l1, l2, l3⟩ := hld
  clear HLD HOK1 HB1 HB4
  have hcap' : (bs.length : Int) ≤ (cap : Int) := by omega
  go_wp2_with fail
  refine (lay_any _ _ _ _ _ _ _ _ (HM4.out.src (by omega)) HOK4.out (by omega)).mono ?_
  rintro e wa ⟨va, rfl, hoa, hba⟩
  have HOa := hid hoa
  have HBa := hid hba
  have hza := hba.size
  have hla : wa.cell? ⟨w.heap.size, 0, none⟩ = some (.int .i64 K) ∧ wa.cell? ⟨w.heap.size, 1, none⟩ = some (.int .u64 U) ∧ wa.cell? ⟨w.heap.size, 2, none⟩ = some (.int .i64 I) ∧ wa.cell? ⟨w.heap.size, 3, none⟩ = some (.slice at' ss.length ct) := by
    refine ⟨?_, ?_, ?_, ?_⟩ <;> (rw [hba.cell (by show w.heap.size < _; omega)]; assumption)
  clear hoa hba l0 l1 l2 l3 HL4
  obtain ⟨l0, l1, l2, l3⟩ := hla
  go_wp2_with fail
  refine (lay_any _ _ _ _ _ _ _ _ ((HM4.out.below HBa.out).src (by omega)) (HOK4.out.below HBa.out) (by omega)).mono ?_
  rintro e wc ⟨vc, rfl, hoc, hbc⟩
  have HOc := hid hoc
  have HBc := hid hbc
  have hzc := hbc.size
  have hlc : wc.cell? ⟨w.heap.size, 0, none⟩ = some (.int .i64 K) ∧ wc.cell? ⟨w.heap.size, 1, none⟩ = some (.int .u64 U) ∧ wc.cell? ⟨w.heap.size, 2, none⟩ = some (.int .i64 I) ∧ wc.cell? ⟨w.heap.size, 3, none⟩ = some (.slice at' ss.length ct) := by
    refine ⟨?_, ?_, ?_, ?_⟩ <;> (rw [hbc.cell (by show w.heap.size < _; omega)]; assumption)
  have HLC := hid hlc
  clear hoc hbc l0 l1 l2 l3
  have HBWC := hid ((HBW.out.trans (HBa.out.mono (by omega))).trans (HBc.out.mono (by omega)))
  have hpc := HOK4.out.below HBa.out |>.below HBc.out
  have S0 := hid (fun W hW => (HS.out.below HBWC.out).below hW : ∀ W, Below wc.heap.size wc W → Src W (.slice av bs.length cv) bs)
  have S1 := hid (fun W hW => hpc.below hW : ∀ W, Below wc.heap.size wc W → PutOk W U I (.slice at' ss.length ct) ss)
  have S2 := hid (fun W hW => by
    obtain ⟨l0, l1, l2, l3⟩ := HLC.out
    refine ⟨?_, ?_, ?_, ?_⟩ <;> (rw [hW.cell (by show w.heap.size < _; omega)]; assumption) : ∀ W, Below wc.heap.size wc W → W.cell? ⟨w.heap.size, 0, none⟩ = some (.int .i64 K) ∧ W.cell? ⟨w.heap.size, 1, none⟩ = some (.int .u64 U) ∧ W.cell? ⟨w.heap.size, 2, none⟩ = some (.int .i64 I) ∧ W.cell? ⟨w.heap.size, 3, none⟩ = some (.slice at' ss.length ct))
  clear hpc HOK4
  go_wp2_with fail
  obtain ⟨l0, l1, l2, l3⟩ := hlc
  go_region_held_law (fun w' => w'.cell? ⟨w.heap.size, 0, none⟩ = some (.int .i64 K) ∧ w'.cell? ⟨w.heap.size, 1, none⟩ = some (.int .u64 U) ∧ w'.cell? ⟨w.heap.size, 2, none⟩ = some (.int .i64 I) ∧ w'.cell? ⟨w.heap.size, 3, none⟩ = some (.slice at' ss.length ct)) (first | go_keep | exact n5 | exact n6 | exact n7) (first
    | (go_at_call 10; refine (told_any _ _ _ _ _ _ (S1.out _ HB5.out)).mono ?_; rintro e w6 ⟨v6, rfl, ho6, hb6⟩; have HO6 := hid ho6; have HB6 := hid (HB5.out.trans (hb6.mono HB5.out.size)); have HO56 := hid (HO5.out.below hb6); have n6 := S2.out _ HB6.out; have hz6 := hb6.size; clear ho6 hb6)
    | (refine step_app_src rfl _ _ rfl wc.heap.size _ _ rfl HO56.out _ _ rfl (HO6.out.src (by omega)) (by omega) (by have := HB6.out.size; omega) ?_; intro v7 w7 ho7 hg7; have HO7 := hid ho7; have HB7 := hid (HB6.out.grown hg7 HB6.out.size (fun j e => (HO56.out.lt j e).1)); have n7 := S2.out _ HB7.out; clear ho7 hg7)
    | (refine step_app_src rfl _ _ rfl wc.heap.size (.slice none 0 0) [] rfl (OwnB.nil _ _) _ bs rfl (S0.out _ (by exact (Below.refl _ _).drew)) (by simp; omega) (by simp) ?_; intro v5 w5 ho5 hg5; have HO5 := hid (by simpa using ho5 : OwnB w5 wc.heap.size v5 bs); have HB5 := hid (((Below.refl wc.heap.size wc).drew).trans (gb_below hg5) : Below wc.heap.size wc w5); have n5 := S2.out _ HB5.out; have hz5 := hg5.size; clear ho5 hg5))
  have hz7 := HB7.out.size
  have HOa7 := hid ((HOa.out.below HBc.out).below HB7.out)
  have HOc7 := hid (HOc.out.below HB7.out)
  have HO47 := hid (((HO4.out.below HBa.out).below HBc.out).below HB7.out)
  have HBW7 := hid (HBWC.out.trans (HB7.out.mono (by omega)))
  have HLa := hid HOa.out.lt
  clear HO5 HB5 HO6 HB6 HO56 n5 n6 n7 S0 S1 S2 HLC l0 l1 l2 l3 HBWC HB7 HOc HOa HO4 HM4 HBa HBc HBW hz5 hz6
  have hpl : (bs ++ putB K U I ss).length ≤ 140737488355327 := by rw [List.length_append]; omega
  go_wp2_with fail
  refine (equal_true _ _ _ _ (HOa7.out.src hpl) (HO7.out.src hpl)).mono ?_
  rintro e wz ⟨rfl, hh⟩
  replace hh := hh.symm
  subst hh
  go_wp2_with fail
  refine (equal_true _ _ _ _ (HOc7.out.src hpl) (HO7.out.src hpl)).mono ?_
  rintro e wz ⟨rfl, hh⟩
  replace hh := hh.symm
  subst hh
  go_wp2_with fail
  refine (mark_at 170 170 rfl _ _ _ _ HOa7.out).mono ?_
  rintro e w8 ⟨rfl, ⟨ba, hbal, hoa8⟩, hg8⟩
  have HOa8 := hid hoa8
  have HOc8 := hid (HOc7.out.far hg8 (fun j e => (HLa.out j e).2))
  have HO78 := hid (HO7.out.far hg8 (fun j e => by have := (HLa.out j e).2; omega))
  have HO48 := hid (HO47.out.off w4.heap.size hg8 (fun j e => by cases e; exact hgh) (fun j e => (HLa.out j e).1))
  have HBW8 := hid (HBW7.out.grown hg8 (by omega) (fun j e => by have := (HLa.out j e).1; omega))
  have hz8 : w7.heap.size ≤ w8.heap.size := hg8.size
  have hba : ba.length ≤ 140737488355327 - 2 := by rw [hbal, List.length_append]; omega
  clear hoa8 hg8 HOa7 HOc7 HO7 HO47 HBW7 hbal
  go_wp2_with (at_builtin; refine app_src rfl _ _ rfl w4.heap.size _ _ rfl (own_alloc HOa8.out _) _ [171, 171] rfl ((own_two w8).src (by decide)) ?e1 ?e2 ?_)
  case e1 => show ba.length + 2 ≤ _; omega
  case e2 => simp; omega
  intro v9 w9 ho9 hg9
  have HOc9 := hid ((own_alloc HOc8.out _).far hg9 (fun j e => (HLa.out j e).2))
  have HO79 := hid ((own_alloc HO78.out _).far hg9 (fun j e => by have := (HLa.out j e).2; omega))
  have HO49 := hid ((own_alloc HO48.out _).off w4.heap.size hg9 (fun j e => by cases e; exact hgh) (fun j e => (HLa.out j e).1))
  have HBW9 := hid ((HBW8.out.alloc (by omega) _).grown hg9 (by simp; omega) (fun j e => by have := (HLa.out j e).1; omega))
  have hz9 : w8.heap.size + 1 ≤ w9.heap.size := by have := hg9.size; simpa using this
  clear ho9 hg9 HOa8 HOc8 HO78 HO48 HBW8 HLa hba
  have HM9 := hid HO49.out.begin
  have h48 : (bs ++ eight).length ≤ 140737488355327 := by rw [List.length_append]; show bs.length + 8 ≤ _; omega
  obtain ⟨vt, hvt, _, hcut⟩ := cut_end (HO49.out.src h48) bs.length (by simp)
  have HVT := hid (by simpa using hvt : Src w9 vt eight)
  clear hvt
  go_wp2_with fail
  refine (equal_true _ _ _ _ (HOc9.out.src hpl) (HO79.out.src hpl)).mono ?_
  rintro e wz ⟨rfl, hh⟩
  replace hh := hh.symm
  subst hh
  go_wp2_with fail
  refine (equal_true _ _ _ _ (HM9.out.src (by omega)) (HS.out.below HBW9.out)).mono ?_
  rintro e wz ⟨rfl, hh⟩
  replace hh := hh.symm
  subst hh
  go_wp2_with fail
  refine (equal_true _ _ _ _ (HVT.out.below (below_walk _ _)) ((own_eight w9).src (by decide))).mono ?_
  rintro e wz ⟨rfl, hh⟩
  replace hh := hh.symm
  subst hh
  have HM10 := hid (own_alloc HM9.out (.cells #[.int .u8 1, .int .u8 2, .int .u8 3, .int .u8 4, .int .u8 5, .int .u8 6, .int .u8 7, .int .u8 8] 5))
  have HBW10 := hid (HBW9.out.alloc (by omega) (.cells #[.int .u8 1, .int .u8 2, .int .u8 3, .int .u8 4, .int .u8 5, .int .u8 6, .int .u8 7, .int .u8 8] 5))
  clear HVT HM9 HO49 HOc9 HO79 HBW9 hcut
  go_wp2_with fail
  refine (newReader_any _ _ _ (HM10.out.src (by omega))).mono ?_
  rintro e w11 ⟨b, u, rfl, hR11, hb11⟩
  have HR11 := hid hR11
  have HM11 := hid (HM10.out.below hb11)
  have HBW11 := hid (HBW10.out.trans (hb11.mono (by simp; omega)))
  have hbb : w9.heap.size + 1 ≤ b := by have := hR11.lo; simpa using this
  have hub : ∀ j, u.ownBlock = some j → w9.heap.size + 1 ≤ j := fun j e => by have := (hR11.own.lt j e).1; simpa using this
  have HUB := hid hub
  have hz11 : w9.heap.size + 1 ≤ w11.heap.size := by have := hb11.size; simpa using this
  clear hR11 hb11 HM10 HBW10 hub
  go_wp2_with fail
  refine (mark_at 172 172 rfl _ _ _ _ HM11.out).mono ?_
  rintro e w12 ⟨rfl, _, hg12⟩
  have HR12 := hid (HR11.out.grown hg12 (by simp [Value.ownBlock]; omega) (by
    cases e : u.ownBlock with
    | none => exact Or.inl rfl
    | some j => have := HUB.out j e; exact Or.inr (by simp [Value.ownBlock]; omega)))
  have HBW12 := hid (HBW11.out.grown hg12 (by omega) (fun j e => by cases e; show w.heap.size ≤ g; omega))
  have hz12 : w11.heap.size ≤ w12.heap.size := hg12.size
  clear hg12 HM11 HBW11 HR11 HUB
  obtain ⟨k, hkl, hk⟩ := clamp n bs.length
  obtain ⟨vx, hvx, hcut⟩ := cut_begin' HS.out k hkl
  have HVX := hid hvx
  obtain ⟨vy, hvy, _, hcut2⟩ := cut_end HS.out k hkl
  have HVY := hid hvy
  clear hvx hvy
  have hki : (k : Int) ≤ (bs.length : Int) := by omega
  have hki0 : (0 : Int) ≤ (k : Int) := by omega
  have HC13 := hid (rawr_ok _ _ _ _ _ _ _ k HR12.out (by omega) (by omega))
  go_wp2_with fail
  refine Calls.mono HC13.out ?_
  rintro e w13 ⟨x, rfl, ho13, hR13, hg13⟩
  rw [Nat.zero_add] at hR13
  have HO13 := hid (by simpa using ho13 : OwnB w13 w12.heap.size x (bs.take k))
  have HR13 := hid hR13
  have HBW13 := hid (Below.of_gb HBW12.out hg13 (by omega))
  have hz13 : w12.heap.size ≤ w13.heap.size := hg13.size
  have hblt : b < w12.heap.size := HR12.out.lt
  have hult := HR12.out.own.lt
  have HUL := hid (fun j e => (hult j e).2 : ∀ j, u.ownBlock = some j → j < w12.heap.size)
  clear ho13 hR13 hg13 HC13 HR12 HBW12 hult
  have htl : (bs.take k).length ≤ 140737488355327 := by rw [List.length_take]; omega
  go_wp2_with fail
  refine (equal_true _ _ _ _ (HO13.out.src htl) (HVX.out.below HBW13.out)).mono ?_
  rintro e wz ⟨rfl, hh⟩
  replace hh := hh.symm
  subst hh
  go_wp2_with fail
  refine (mark_at 173 173 rfl _ _ _ _ HO13.out).mono ?_
  rintro e w14 ⟨rfl, ⟨bx, hbxl, hox⟩, hg14⟩
  have HXL := hid (fun j e => (HO13.out.lt j e).1 : ∀ j, x.ownBlock = some j → w12.heap.size ≤ j)
  have HOX := hid hox
  have HR14 := hid (HR13.out.far hg14 hblt HUL.out HXL.out)
  have HBW14 := hid (HBW13.out.grown hg14 (by omega) (fun j e => by have := HXL.out j e; omega))
  have hz14 : w13.heap.size ≤ w14.heap.size := hg14.size
  have hbx : bx.length ≤ 140737488355327 - 3 := by rw [hbxl, List.length_take]; omega
  clear hox hg14 hbxl HO13 HR13 HBW13 hcut HVX
  go_wp2_with (at_builtin; refine app_src rfl _ _ rfl w12.heap.size _ _ rfl (own_alloc HOX.out _) _ [174, 174, 174] rfl ((own_threes w14).src (by decide)) ?f1 ?f2 ?_)
  case f1 => show bx.length + 3 ≤ _; omega
  case f2 => simp; omega
  intro v15 w15 ho15 hg15
  have HR15 := hid ((HR14.out.below (below_walk w14 _)).far hg15 hblt HUL.out HXL.out)
  have HBW15 := hid ((HBW14.out.alloc (by omega) _).grown hg15 (by simp; omega) (fun j e => by have := HXL.out j e; omega))
  have hz15 : w14.heap.size + 1 ≤ w15.heap.size := by have := hg15.size; simpa using this
  clear ho15 hg15 HOX HR14 HBW14 HXL hbx
  have hsub : (bs.length : Int) - (k : Int) = ((bs.length - k : Nat) : Int) := by omega
  have HC16 := hid (rawr_ok _ _ _ _ _ _ _ (bs.length - k) HR15.out.drew (by omega) (by omega))
  rw [← hsub] at HC16
  have hwr : IntKind.i64.wrap ((bs.length : Int) - (k : Int)) = (bs.length : Int) - (k : Int) := by rw [IntKind.wrap_i64]; omega
  have HKA := hid (by omega : k + (bs.length - k) = bs.length)
  have HDT := hid (List.take_of_length_le (by rw [List.length_drop]; exact Nat.le_refl _) : (bs.drop k).take (bs.length - k) = bs.drop k)
  have hdl : (bs.drop k).length ≤ 140737488355327 := by rw [List.length_drop]; omega
  have hbw : w.heap.size ≤ b := by omega
  clear hsub
  go_wp2_with fail
  go_region_held3 (fun _ => True) (first | go_keep | trivial) (first
    | (go_at_call 36; with_reducible refine Calls.mono HC16.out ?_; rintro e w16 ⟨x16, rfl, ho16, hR16, hg16⟩; rw [HKA.out] at hR16; rw [HDT.out] at ho16; have HO16 := hid ho16; have HR16 := hid hR16; have HBW16 := hid (Below.of_gb HBW15.out.drew hg16 hbw); clear ho16 hR16 hg16)
    | (go_at_call 11; refine (equal_true _ _ _ _ (HO16.out.src hdl) (HVY.out.below HBW16.out)).mono ?_; rintro e wz ⟨rfl, hh⟩; replace hh := hh.symm; subst hh)
    | (go_at_call 29; refine (rleft_any _ _ _ _ _ _ _ _ HR16.out).mono ?_; rintro e w17 ⟨rfl, q17, hh⟩; have HH := hid hh; clear hh))
  go_wp2_with fail
  go_ret
  exact ⟨rfl, by rw [HH.out]; exact below_drewN HBW16.out _⟩

end Go.Proofs.Ytggmgbdofjhkdaa
