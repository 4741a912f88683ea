/- withRoom, addUint, Size, folded, and the document's Uint: what each answers. -/
import Derived.Test.YtggmgbdofjhkdaaApp
import Derived.Test.YtggmgbdofjhkdaaLen64
namespace Go.Proofs.Ytggmgbdofjhkdaa
open Go.RowKit

set_option maxHeartbeats 400000 in
theorem withRoom_any (v0 : Value) (bs : List UInt8) (m : Nat) (w : World) (hs : Src w v0 bs) (hm : bs.length + m ≤ 70368744177664) :
    Calls Try.prog 43 #[v0, .int .i64 m] w fun e w' => ∃ v, e = .returned v ∧ OwnB w' w.heap.size v bs ∧ Below w.heap.size w w' := by
  have HS : Hid (Src w v0 bs) := hs
  obtain ⟨ao, cap, rfl⟩ : ∃ ao cap, v0 = .slice ao bs.length cap := by
    obtain ⟨_, ⟨rfl, rfl⟩ | ⟨ad, cap, rfl, _⟩⟩ := hs
    · exact ⟨none, 0, rfl⟩
    · exact ⟨_, _, rfl⟩
  clear hs
  go_enter Try.func43, Try.ntmps43
  go_wp2_with (at_make; refine make_own rfl _ _ rfl _ (bs.length + m) rfl rfl ?c1 ?c2 ?_)
  case c1 => omega
  case c2 => omega
  intro v1 w1 hown hb
  have HO : Hid (OwnB w1 w.heap.size v1 []) := hown
  have HB : Hid (Below w.heap.size w w1) := hb
  clear hown hb
  go_wp2_with (at_builtin; refine app_src rfl _ _ rfl w.heap.size _ _ rfl HO.out _ _ rfl (HS.out.below HB.out) ?c1 HB.out.size ?_)
  case c1 => simp; omega
  intro v2 w2 hown2 hg
  have HO2 : Hid (OwnB w2 w.heap.size v2 bs) := (by simpa using hown2 : OwnB w2 w.heap.size v2 bs)
  have HB2 : Hid (Below w.heap.size w w2) := HB.out.grown hg HB.out.size (fun k hk => (HO.out.lt k hk).1)
  clear hown2 hg
  go_wp2
  go_ret
  exact ⟨_, rfl, HO2.out, HB2.out⟩

theorem own_alloc {w : World} {base : Nat} {v : Value} {bs : List UInt8} (h : OwnB w base v bs) (o : Obj) : OwnB (w.alloc o) base v bs := h.below (below_walk _ _)

theorem byte_of (n : Nat) : (n.toUInt8).toNat = n % 256 := by simp
theorem bits_or_128_all : ∀ a : Fin 256, bits BinOp.or IntKind.u8 (a.val : Int) 128 = ((a.val % 128 + 128 : Nat) : Int) := by decide +kernel
theorem bits_or_128 (m : Nat) : bits BinOp.or IntKind.u8 ((m : Int) % 256) 128 = ((m % 128 + 128 : Nat) : Int) := by
  have h := bits_or_128_all ⟨m % 256, Nat.mod_lt _ (by decide)⟩
  have e1 : (((⟨m % 256, Nat.mod_lt _ (by decide)⟩ : Fin 256).val : Nat) : Int) = (m : Int) % 256 := by simp
  rw [e1] at h
  rw [h]
  simp

/-- what a round of a loop that lays a number down keeps -/
structure Lays (w : World) (base : Nat) (bs : List UInt8) (wr : World) (v : Value) (m : Nat) (cs ds : List UInt8) : Prop where
  own : OwnB wr base v cs
  eq : cs ++ sn m = bs ++ ds
  lt : m < 18446744073709551616
  kept : Below base w wr
  size : base ≤ wr.heap.size

theorem Lays.cs_len {w wr : World} {base m : Nat} {bs cs ds : List UInt8} {v : Value} (h : Lays w base bs wr v m cs ds) (hd : ds.length ≤ 10) : cs.length ≤ bs.length + 9 := by
  have e := congrArg List.length h.eq
  simp at e
  have := sn_length_pos m
  omega

theorem Lays.step {w wr w1 : World} {base m : Nat} {bs cs ds : List UInt8} {v v1 : Value} (h : Lays w base bs wr v m cs ds) (hm : 128 ≤ m) (o : Obj)
    (hown : OwnB w1 base v1 (cs ++ [(m % 128 + 128).toUInt8])) (hg : (wr.alloc o).grownBy w1 v.ownBlock) : Lays w base bs w1 v1 (m / 128) (cs ++ [(m % 128 + 128).toUInt8]) ds := by
  have hk : Below base w (wr.alloc o) := h.kept.trans ((Below.refl _ _).alloc (by exact h.size) _)
  refine ⟨hown, ?_, by have := h.lt; omega, hk.grown hg (by have := h.size; simp; omega) (fun k e => (h.own.lt k e).1), ?_⟩
  · rw [← h.eq, sn_ge hm h.lt]; simp
  · have := hg.size; have := h.size; simp at *; omega

theorem Lays.last {w wr w1 : World} {base m : Nat} {bs cs ds : List UInt8} {v v1 : Value} (h : Lays w base bs wr v m cs ds) (hm : m < 128) (o : Obj)
    (hown : OwnB w1 base v1 (cs ++ [m.toUInt8])) (hg : (wr.alloc o).grownBy w1 v.ownBlock) : OwnB w1 base v1 (bs ++ ds) ∧ Below base w w1 := by
  have hk : Below base w (wr.alloc o) := h.kept.trans ((Below.refl _ _).alloc (by exact h.size) _)
  refine ⟨?_, hk.grown hg (by have := h.size; simp; omega) (fun k e => (h.own.lt k e).1)⟩
  rw [← h.eq, sn_lt hm]
  exact hown

set_option maxRecDepth 100000 in
set_option maxHeartbeats 400000 in
/-- the program's number, laid behind bytes of the call's own -/
theorem addUint_any (base : Nat) (v0 : Value) (bs : List UInt8) (n : Nat) (w : World) (hown : OwnB w base v0 bs) (hb : base ≤ w.heap.size) (hn : n < 18446744073709551616) (hl : bs.length ≤ 70368744177664) :
    Calls Try.prog 42 #[v0, .int .u64 n] w fun e w' => ∃ v, e = .returned v ∧ OwnB w' base v (bs ++ sn n) ∧ Below base w w' := by
  have HL : Hid (Lays w base bs w v0 n bs (sn n)) := ⟨hown, rfl, hn, Below.refl _ _, hb⟩
  have HD : Hid ((sn n).length ≤ 10) := sn_length_le n
  clear hown hb
  generalize sn n = ds at *
  go_enter Try.func42, Try.ntmps42
  go_wp2
  go_loopw [0, 1] (fun v x wr => ∃ (m : Nat) (cs : List UInt8), x = .int .u64 m ∧ Lays w base bs wr v m cs ds) (fun _ x _ => (intOf x).toNat)
  case atStart => exact ⟨n, bs, rfl, HL.out⟩
  case round =>
    obtain ⟨m, cs, rfl, hLr⟩ := hrel
    have HR : Hid _ := hLr
    have hm := hLr.lt
    have hcl := hLr.cs_len HD.out
    clear hLr HL
    by_cases hlt : m < 128
    · go_wp2_with (at_builtin; refine app_src rfl _ _ rfl base _ _ rfl (own_alloc HR.out.own _) _ [m.toUInt8] rfl (src_one _ _ _ ?c0) ?c1 ?c2 ?_)
      case c0 => rw [byte_of]; omega
      case c1 => simp; omega
      case c2 => have := HR.out.size; simp; omega
      intro v' w1 hown hg
      have HF := HR.out.last hlt _ hown hg
      have HF : Hid _ := HF
      clear hown hg HR
      go_wp2
      go_ret
      exact ⟨_, rfl, HF.out.1, HF.out.2⟩
    · obtain ⟨c, HC⟩ : ∃ c : UInt8, Hid (c = (m % 128 + 128).toUInt8) := ⟨_, rfl⟩
      go_wp2_with (at_builtin; refine app_src rfl _ _ rfl base _ _ rfl (own_alloc HR.out.own _) _ [c] rfl (src_one _ _ _ ?d0) ?d1 ?d2 ?_)
      case d0 => rw [HC.out, byte_of]; exact (bits_or_128 m).trans (by omega)
      case d1 => simp; omega
      case d2 => have := HR.out.size; simp; omega
      intro v' w1 hown hg
      have HF := HR.out.step (by omega) _ (HC.out ▸ hown) hg
      have HF : Hid _ := HF
      clear hown hg HR
      go_wp2
      go_roundw
      case rel => exact ⟨m / 128, _, by go_num, HF.out⟩
      case measure => simp [intOf]; omega

end Go.Proofs.Ytggmgbdofjhkdaa
