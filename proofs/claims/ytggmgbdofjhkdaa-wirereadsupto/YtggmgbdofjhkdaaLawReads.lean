/- The law WireReads, walked: it answers true, and only makes memory. -/
import Derived.Test.YtggmgbdofjhkdaaStandA
import Derived.Test.YtggmgbdofjhkdaaLawBegins
namespace Go.Proofs.Ytggmgbdofjhkdaa
open Go.RowKit

theorem pair_new {w3 w4 : World} {base1 b1 : Nat} {u1 v : Value} {bs : List UInt8} (hR : Rd w3 base1 b1 u1 bs 0 0 0) (ho : OwnB w4 w3.heap.size v bs) (hb : Below w3.heap.size w3 w4) :
    Pair (w4.alloc (.cells #[v, .int .i64 0, .int .i64 0, .int .i64 0] 40)) base1 b1 u1 w3.heap.size w4.heap.size v bs 0 0 0 :=
  ⟨(hR.below hb).below (below_walk _ _), ⟨hb.size, by show (w4.heap.push _)[w4.heap.size]? = _; simp, ho.below (below_walk _ _), fun e => Nat.lt_irrefl _ (ho.lt _ e).2, Nat.zero_le _⟩, hR.lt, fun k e => (hR.own.lt k e).2⟩

set_option maxRecDepth 100000 in
set_option maxHeartbeats 4000000 in
theorem lawReads_some (g o c : Nat) (cs : List (Int × Int × Int)) (v0 : Value) (bs : List UInt8) (w : World) (hn : cs.length ≤ 1048576) (hlt : g < w.heap.size) (hs : Src w v0 bs) (hbl : bs.length ≤ 1048576)
    (hp : ∀ j d, cs[j]? = some d → w.cell? ⟨g, o + j * 3, none⟩ = some (.int .i64 d.1) ∧ w.cell? ⟨g, o + j * 3 + 1, none⟩ = some (.int .i64 d.2.1) ∧ w.cell? ⟨g, o + j * 3 + 2, none⟩ = some (.int .i64 d.2.2) ∧ d.2.1 ≤ 9223372036854775807 ∧ d.2.2 ≤ 9223372036854775807) :
    Calls Try.prog 4 #[v0, .slice (some ⟨g, o, none⟩) cs.length c] w fun e w' => e = .returned (.bool true) ∧ Below w.heap.size w w' := by
  have HP := hid hp
  have HS := hid hs
  clear hp hs
  go_enter Try.func4, Try.ntmps4
  go_wp2_with (at_builtin; refine app_src rfl _ _ rfl w.heap.size _ _ rfl (OwnB.nil _ _) _ _ rfl HS.out ?c1 (Nat.le_refl _) ?_)
  case c1 => simp; omega
  intro v1 w1 ho1 hg1
  have HO1 := hid (by simpa using ho1 : OwnB w1 w.heap.size v1 bs)
  have HB1 := hid (gb_below hg1)
  clear ho1 hg1
  go_wp2_with fail
  refine (newReader_any _ _ _ (HO1.out.src (by omega))).mono ?_
  rintro e w2 ⟨b1, u1, rfl, hR2, hb2⟩
  have HR2 := hid hR2
  have HB2 := hid (HB1.out.trans (hb2.mono HB1.out.size))
  have hbw1 : w.heap.size ≤ b1 := Nat.le_trans HB1.out.size hR2.lo
  clear hR2 hb2 HO1
  go_wp2_with fail
  refine (alive_true _).mono ?_
  rintro e w3 ⟨rfl, hb3⟩
  have HR3 := hid (HR2.out.below hb3)
  have HB3 := hid (HB2.out.trans (hb3.mono HB2.out.size))
  clear hb3 HR2 HB2 HB1
  go_wp2_with fail
  refine (qnew_any _ _ _ (HS.out.below HB3.out)).mono ?_
  rintro e w4 ⟨v4, rfl, ho4, hb4⟩
  have HB4 := hid (HB3.out.trans (hb4.mono HB3.out.size))
  have hbw2 : w.heap.size ≤ w4.heap.size := HB4.out.size
  have HP5 := hid (pair_new HR3.out ho4 hb4)
  have HB5 := hid (HB4.out.trans ((below_walk w4 (.cells #[v4, .int .i64 0, .int .i64 0, .int .i64 0] 40)).mono HB4.out.size))
  obtain ⟨ad4, cap4, rfl⟩ := ho4.shape
  clear ho4 hb4 HB3 HR3 HB4
  go_wp2_with fail
  generalize w1.heap.size = base1 at *
  generalize w3.heap.size = base2 at *
  go_loopw [22] (fun i wq => ∃ (j a : Nat) (why wat : Int), j ≤ cs.length ∧ i = .int .i64 j ∧ Pair wq base1 b1 u1 base2 w4.heap.size (.slice ad4 bs.length cap4) bs a why wat ∧ Below w.heap.size w wq) (fun i _ => cs.length - (intOf i).toNat)
  case atStart => exact ⟨0, 0, 0, 0, Nat.zero_le _, rfl, HP5.out, HB5.out⟩
  case round =>
    obtain ⟨j, a, why, wat, hj, rfl, hT, hB⟩ := hrel
    have HT := hid hT
    have HB := hid hB
    have hsz := hB.size
    clear hT hB HP5 HB5
    by_cases hjn : j < cs.length
    · obtain ⟨d, hd⟩ : ∃ d, cs[j]? = some d := ⟨_, List.getElem?_eq_getElem hjn⟩
      obtain ⟨pK, pA, pB, hA, hB⟩ := HP.out j d hd
      have cK := (HB.out.cell (p := ⟨g, o + j * 3, none⟩) hlt).trans pK
      have cA := (HB.out.cell (p := ⟨g, o + j * 3 + 1, none⟩) hlt).trans pA
      have cB := (HB.out.cell (p := ⟨g, o + j * 3 + 2, none⟩) hlt).trans pB
      clear pK pA pB hd
      obtain ⟨K, A, B⟩ := d
      simp only at cK cA cB hA hB
      have HX := hid (below_walk wr (.cells #[.int .i64 K, .int .i64 A, .int .i64 B] 43))
      have HTX := hid (HT.out.below HX.out)
      have HBX := hid (HB.out.trans (HX.out.mono hsz))
      clear HX HT
      go_wp2_with fail
      refine (step_any K A B _ hA hB (by omega) HTX.out).mono ?_
      rintro e w6 ⟨rfl, ⟨a', why', wat', hp6⟩, _, hb6⟩
      have HP6 := hid hp6
      have HB6 := hid (hb6 w HBX.out hbw1 hbw2)
      clear hp6 hb6 HTX HBX cK cA cB
      go_wp2_with fail
      refine (stands_any _ HP6.out).mono ?_
      rintro e w7 ⟨rfl, hb7⟩
      have HP7 := hid (HP6.out.below hb7)
      have HB7 := hid (HB6.out.trans (hb7.mono HB6.out.size))
      clear hb7 HP6 HB6
      go_wp2_with fail
      go_roundw
      case rel => exact ⟨j + 1, a', why', wat', by omega, by go_num, HP7.out, HB7.out⟩
      case measure => simp [intOf]; omega
    · go_wp2_with fail
      refine (stands_any _ HT.out).mono ?_
      rintro e w7 ⟨rfl, hb7⟩
      have HB7 := hid (HB.out.trans (hb7.mono HB.out.size))
      clear hb7
      go_wp2_with fail
      go_ret
      exact ⟨rfl, HB7.out⟩

set_option maxRecDepth 100000 in
set_option maxHeartbeats 2000000 in
theorem lawReads_none (ao : Option Addr) (c : Nat) (v0 : Value) (bs : List UInt8) (w : World) (hs : Src w v0 bs) (hbl : bs.length ≤ 1048576) :
    Calls Try.prog 4 #[v0, .slice ao 0 c] w fun e w' => e = .returned (.bool true) ∧ Below w.heap.size w w' := by
  have HS := hid hs
  clear hs
  go_enter Try.func4, Try.ntmps4
  go_wp2_with (at_builtin; refine app_src rfl _ _ rfl w.heap.size _ _ rfl (OwnB.nil _ _) _ _ rfl HS.out ?c1 (Nat.le_refl _) ?_)
  case c1 => simp; omega
  intro v1 w1 ho1 hg1
  have HO1 := hid (by simpa using ho1 : OwnB w1 w.heap.size v1 bs)
  have HB1 := hid (gb_below hg1)
  clear ho1 hg1
  go_wp2_with fail
  refine (newReader_any _ _ _ (HO1.out.src (by omega))).mono ?_
  rintro e w2 ⟨b1, u1, rfl, hR2, hb2⟩
  have HR2 := hid hR2
  have HB2 := hid (HB1.out.trans (hb2.mono HB1.out.size))
  clear hR2 hb2 HO1
  go_wp2_with fail
  refine (alive_true _).mono ?_
  rintro e w3 ⟨rfl, hb3⟩
  have HR3 := hid (HR2.out.below hb3)
  have HB3 := hid (HB2.out.trans (hb3.mono HB2.out.size))
  clear hb3 HR2 HB2 HB1
  go_wp2_with fail
  refine (qnew_any _ _ _ (HS.out.below HB3.out)).mono ?_
  rintro e w4 ⟨v4, rfl, ho4, hb4⟩
  have HB4 := hid (HB3.out.trans (hb4.mono HB3.out.size))
  have HP5 := hid (pair_new HR3.out ho4 hb4)
  have HB5 := hid (HB4.out.trans ((below_walk w4 (.cells #[v4, .int .i64 0, .int .i64 0, .int .i64 0] 40)).mono HB4.out.size))
  obtain ⟨ad4, cap4, rfl⟩ := ho4.shape
  clear ho4 hb4 HB3 HR3 HB4
  go_wp2_with fail
  go_loop [22] (fun i => i = .int .i64 0) (fun _ => 0)
  case atStart => rfl
  case round =>
    subst hrel
    go_wp2_with fail
    refine (stands_any _ HP5.out).mono ?_
    rintro e w7 ⟨rfl, hb7⟩
    have HB7 := hid (HB5.out.trans (hb7.mono HB5.out.size))
    clear hb7
    go_wp2_with fail
    go_ret
    exact ⟨rfl, HB7.out⟩

theorem lawReads_any (v0 : Value) (bs : List UInt8) (v2 : Value) (cs : List (Int × Int × Int)) (w : World) (hs : Src w v0 bs) (hbl : bs.length ≤ 1048576) (h : CallsL w v2 cs) (hn : cs.length ≤ 1048576) :
    Calls Try.prog 4 #[v0, v2] w fun e w' => e = .returned (.bool true) ∧ Below w.heap.size w w' := by
  rcases h with ⟨ao, c, rfl, rfl⟩ | ⟨g, o, c, rfl, hlt, hp⟩
  · exact lawReads_none ao c v0 bs w hs hbl
  · exact lawReads_some g o c cs v0 bs w hn hlt hs hbl fun j d hd => ⟨(hp j d hd).1, (hp j d hd).2.1, (hp j d hd).2.2.1, (hp j d hd).2.2.2.1.2, (hp j d hd).2.2.2.2.2⟩

end Go.Proofs.Ytggmgbdofjhkdaa
