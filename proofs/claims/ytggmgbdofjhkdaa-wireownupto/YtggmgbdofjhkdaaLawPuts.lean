/- The law WirePuts, walked: it answers true, and only makes memory. -/
import Derived.Test.YtggmgbdofjhkdaaLay
import Derived.Deep.RegionWith
namespace Go.Proofs.Ytggmgbdofjhkdaa
open Go.RowKit

/-- one thing laid down, as it is read -/
structure PutD where
  k : Int
  u : Nat
  i : Int
  tv : Value
  ss : List ByteArray
def PutD.bytes (d : PutD) : List UInt8 := putB d.k d.u d.i d.ss
def allB (ps : List PutD) : List UInt8 := ps.flatMap PutD.bytes
/-- v is a slice that holds the things ps, wherever they lie -/
def PutsAt (w : World) (v : Value) (ps : List PutD) : Prop :=
  (∃ ao c, v = .slice ao 0 c ∧ ps = []) ∨ ∃ g o c, v = .slice (some ⟨g, o, none⟩) ps.length c ∧ g < w.heap.size ∧ ∀ j d, ps[j]? = some d →
    w.cell? ⟨g, o + j * 4, none⟩ = some (.int .i64 d.k) ∧ w.cell? ⟨g, o + j * 4 + 1, none⟩ = some (.int .u64 d.u) ∧ w.cell? ⟨g, o + j * 4 + 2, none⟩ = some (.int .i64 d.i) ∧ w.cell? ⟨g, o + j * 4 + 3, none⟩ = some d.tv ∧ PutOk w d.u d.i d.tv d.ss

theorem allB_snoc {ps : List PutD} {k : Nat} {d : PutD} (h : ps[k]? = some d) : allB (ps.take (k + 1)) = allB (ps.take k) ++ d.bytes := by
  obtain ⟨hk, he⟩ := List.getElem?_eq_some_iff.1 h
  rw [List.take_succ_eq_append_getElem hk, he]
  simp [allB]
theorem allB_append (a b : List PutD) : allB (a ++ b) = allB a ++ allB b := by simp [allB]
theorem allB_take_le (ps : List PutD) (k : Nat) : (allB (ps.take k)).length ≤ (allB ps).length := by
  have e := allB_append (ps.take k) (ps.drop k)
  rw [List.take_append_drop] at e
  rw [e]; simp

theorem OwnB.far {w w' : World} {base : Nat} {v : Value} {bs : List UInt8} {row : Option Nat} (h : OwnB w base v bs) (hg : w.grownBy w' row) (hr : ∀ j, row = some j → j < base) : OwnB w' base v bs := by
  refine h.kept hg ?_
  cases e : v.ownBlock with
  | none => exact Or.inl rfl
  | some j =>
    refine Or.inr (fun e2 => ?_)
    have h1 := (h.lt j e).1
    have h2 := hr j e2.symm
    omega

theorem refUint_len (n : Nat) (w : World) (hn : n < 18446744073709551616) :
    Calls Try.prog 13 #[.int .u64 n] w fun e w' => ∃ ao c, e = .returned (.slice ao (sn n).length c) ∧ Below w.heap.size w w' := by
  refine (refUint_any n w hn).mono ?_
  rintro e w' ⟨v, rfl, ho, hb⟩
  obtain ⟨ao, c, rfl⟩ := ho.shape
  exact ⟨ao, c, rfl, hb⟩

theorem sn_300 : sn 300 = [172, 2] := by decide
theorem size_300 (w : World) : Calls Try.prog 12 #[.int .u64 300] w fun e w' => e = .returned (.int .i64 2) ∧ w' = w := by
  have h := size_any 300 w (by omega)
  rw [sn_300] at h
  exact h
theorem put_300 (v0 : Value) (w : World) (hs : Src w v0 [7]) : Calls Try.prog 14 #[v0, .int .u64 300] w fun e w' => ∃ v, e = .returned v ∧ OwnB w' w.heap.size v [7, 172, 2] ∧ Below w.heap.size w w' := by
  have h := putUint_any v0 [7] 300 w hs (by omega) (by simp)
  rw [sn_300] at h
  exact h

theorem own_three (w : World) : OwnB (w.alloc (.cells #[.int .u8 7, .int .u8 172, .int .u8 2] 5)) w.heap.size (.slice (some ⟨w.heap.size, 0, none⟩) 3 3) [7, 172, 2] :=
  ⟨rfl, Or.inr ⟨w.heap.size, 3, #[.int .u8 7, .int .u8 172, .int .u8 2], rfl, Nat.le_refl _, heap_alloc_new w _, Nat.le_refl _, by unfold maxLen; omega, rfl, rfl⟩⟩

set_option maxRecDepth 100000 in
set_option maxHeartbeats 2000000 in
theorem lawPuts_none (ao : Option Addr) (c : Nat) (w : World) :
    Calls Try.prog 3 #[.slice ao 0 c] w fun e w' => e = .returned (.bool true) ∧ Below w.heap.size w w' := by
  go_enter Try.func3, Try.ntmps3
  go_wp2
  go_loop [3, 4, 9] (fun x y i => x = .slice none 0 0 ∧ y = .slice none 0 0 ∧ i = .int .i64 0) (fun _ _ _ => 0)
  case atStart => exact ⟨rfl, rfl, rfl⟩
  case round =>
    obtain ⟨rfl, rfl, rfl⟩ := hrel
    go_wp2_with fail
    refine (size_300 _).mono ?_
    rintro e w' ⟨rfl, rfl⟩
    go_wp2_with fail
    refine (put_300 _ _ (src_one _ 7 7 rfl)).mono ?_
    rintro e w1 ⟨v1, rfl, ho1, hb1⟩
    have HO1 := hid ho1
    have HB1 := hid hb1
    clear ho1 hb1
    go_wp2_with fail
    refine (equal_true _ _ [7, 172, 2] _ ((HO1.out.below (below_walk _ _)).src (by simp)) ((own_three w1).src (by simp))).mono ?_
    rintro e w2 ⟨rfl, rfl⟩
    go_wp2
    go_ret
    refine ⟨rfl, ?_⟩
    have h1 := HB1.out.size
    simp at h1
    exact ((below_walk _ _).trans (HB1.out.mono (by simp))).alloc (by omega) _

set_option maxRecDepth 100000 in
set_option maxHeartbeats 2000000 in
theorem lawPuts_some (g o c : Nat) (ps : List PutD) (w : World) (hn : ps.length ≤ 1099511627776) (hlt : g < w.heap.size) (hl : (allB ps).length ≤ 274877906944)
    (hp : ∀ j d, ps[j]? = some d →
      w.cell? ⟨g, o + j * 4, none⟩ = some (.int .i64 d.k) ∧ w.cell? ⟨g, o + j * 4 + 1, none⟩ = some (.int .u64 d.u) ∧ w.cell? ⟨g, o + j * 4 + 2, none⟩ = some (.int .i64 d.i) ∧ w.cell? ⟨g, o + j * 4 + 3, none⟩ = some d.tv ∧ PutOk w d.u d.i d.tv d.ss) :
    Calls Try.prog 3 #[.slice (some ⟨g, o, none⟩) ps.length c] w fun e w' => e = .returned (.bool true) ∧ Below w.heap.size w w' := by
  have HP := hid hp
  clear hp
  go_enter Try.func3, Try.ntmps3
  go_wp2
  go_loopw [3, 4, 9] (fun x y i wr => ∃ k : Nat, k ≤ ps.length ∧ i = .int .i64 k ∧ OwnB wr w.heap.size x (allB (ps.take k)) ∧ OwnB wr w.heap.size y (allB (ps.take k)) ∧ Below w.heap.size w wr) (fun _ _ i _ => ps.length - (intOf i).toNat)
  case atStart => exact ⟨0, Nat.zero_le _, rfl, OwnB.nil _ _, OwnB.nil _ _, Below.refl _ _⟩
  case round =>
    obtain ⟨k, hk, rfl, hgo, hwa, hbl⟩ := hrel
    have HG := hid hgo
    have HW := hid hwa
    have HB := hid hbl
    have hsz := hbl.size
    clear hgo hwa hbl
    by_cases hkn : k < ps.length
    · obtain ⟨d, hd⟩ : ∃ d, ps[k]? = some d := ⟨_, List.getElem?_eq_getElem hkn⟩
      have HE := hid (allB_snoc hd)
      have h3 := allB_take_le ps k
      have h4 := allB_take_le ps (k + 1)
      rw [allB_snoc hd, List.length_append] at h4
      obtain ⟨pK, pU, pI, pT, hok⟩ := HP.out k d hd
      have cK := (HB.out.cell (p := ⟨g, o + k * 4, none⟩) hlt).trans pK
      have cU := (HB.out.cell (p := ⟨g, o + k * 4 + 1, none⟩) hlt).trans pU
      have cI := (HB.out.cell (p := ⟨g, o + k * 4 + 2, none⟩) hlt).trans pI
      have cT := (HB.out.cell (p := ⟨g, o + k * 4 + 3, none⟩) hlt).trans pT
      have HOK := hid (hok.below HB.out)
      clear pK pU pI pT hok hd
      obtain ⟨dk, du, di, dtv, dss⟩ := d
      simp only [PutD.bytes] at cK cU cI cT HE HOK h4
      have hdu := HOK.out.u
      obtain ⟨ao, cp, rfl⟩ := HOK.out.strs.shape
      go_wp2_with fail
      have HA := hid (below_walk wr (.cells #[.int .i64 dk, .int .u64 du, .int .i64 di, .slice ao dss.length cp] 27))
      refine (lay_any _ _ _ _ _ _ _ _ ((HG.out.below HA.out).src (by omega)) (HOK.out.below HA.out) (by omega)).mono ?_
      rintro e w1 ⟨v1, rfl, ho1, hb1⟩
      have HO1 := hid ho1
      have HB1 := hid hb1
      have hs1 := hb1.size
      simp at hs1
      have hld : w1.cell? ⟨wr.heap.size, 0, none⟩ = some (.int .i64 dk) ∧ w1.cell? ⟨wr.heap.size, 1, none⟩ = some (.int .u64 du) ∧ w1.cell? ⟨wr.heap.size, 2, none⟩ = some (.int .i64 di) ∧ w1.cell? ⟨wr.heap.size, 3, none⟩ = some (.slice ao dss.length cp) := by
        refine ⟨?_, ?_, ?_, ?_⟩ <;> (rw [HB1.out.cell (by simp)]; simp)
      obtain ⟨l0, l1, l2, l3⟩ := hld
      clear ho1 hb1 cK cU cI cT
      go_wp2_with fail
      refine (told_any _ _ _ _ _ _ ((HOK.out.below HA.out).below HB1.out)).mono ?_
      rintro e w2 ⟨v2, rfl, ho2, hb2⟩
      have HO2 := hid ho2
      have HB2 := hid hb2
      have hs2 := hb2.size
      have m1 : w2.cell? ⟨wr.heap.size, 1, none⟩ = some (.int .u64 du) := (HB2.out.cell (p := ⟨wr.heap.size, 1, none⟩) (by show wr.heap.size < w1.heap.size; omega)).trans l1
      clear ho2 hb2 l0 l1 l2 l3
      go_wp2_with (at_builtin; refine app_src rfl _ _ rfl w.heap.size _ _ rfl (((HW.out.below HA.out).below HB1.out).below HB2.out) _ _ rfl (HO2.out.src (by omega)) ?c1 ?c2 ?_)
      case c1 => omega
      case c2 => omega
      intro v3 w3 ho3 hg3
      have HO3 := hid (HE.out ▸ ho3 : OwnB w3 w.heap.size v3 (allB (ps.take (k + 1))))
      have HG3 := hid hg3
      have hyb : ∀ j, u4.ownBlock = some j → j < wr.heap.size := fun j e => (HW.out.lt j e).2
      have HV1 := hid ((HE.out ▸ ((HO1.out.below HB2.out).far HG3.out (fun j e => by have := hyb j e; simp; omega)).le (by simp; omega)) : OwnB w3 w.heap.size v1 (allB (ps.take (k + 1))))
      have n1 : w3.cell? ⟨wr.heap.size, 1, none⟩ = some (.int .u64 du) := (World.cell?_of_block (HG3.out.block wr.heap.size (by omega) (fun e => by have := hyb _ e.symm; omega))).trans m1
      have HBL := hid ((((HB.out.trans (HA.out.mono hsz)).trans (HB1.out.mono (by simp; omega))).trans (HB2.out.mono (by omega))).grown hg3 (by omega) (fun j e => (HW.out.lt j e).1) : Below w.heap.size w w3)
      have hs3 : w2.heap.size ≤ w3.heap.size := hg3.size
      clear ho3 hg3 m1 hyb
      have h5 : (allB (ps.take (k + 1))).length ≤ 274877906944 := by rw [HE.out, List.length_append]; omega
      clear h4 h3 HO1 HB1 HO2 HB2 HA HG HW HB HG3 HOK HP
      have S1 := hid ((fun W hW => (HV1.out.below hW).src (by omega)) : ∀ W, Below w3.heap.size w3 W → Src W v1 (allB (ps.take (k + 1))))
      have S2 := hid ((fun W hW => (HO3.out.below hW).src (by omega)) : ∀ W, Below w3.heap.size w3 W → Src W v3 (allB (ps.take (k + 1))))
      go_wp2_with fail
      go_region_with (first
        | (go_at_call 11; go_must (refine (equal_true _ _ (allB (ps.take (k + 1))) _ (S1.out _ (by exact (Below.refl _ _).drew)) (S2.out _ (by exact (Below.refl _ _).drew))).mono ?_); rintro e w' ⟨rfl, rfl⟩)
        | (go_at_call 12; go_must (refine (size_any _ _ (by omega)).mono ?_); rintro e w' ⟨rfl, rfl⟩)
        | (go_at_call 13; go_must (refine (refUint_len _ _ (by omega)).mono ?_); rintro e w5 ⟨a5, c5, rfl, hb5⟩; have n5 : w5.cell? ⟨wr.heap.size, 1, none⟩ = some (.int .u64 du) := (hb5.cell (p := ⟨wr.heap.size, 1, none⟩) (by show wr.heap.size < w3.heap.size; omega)).trans (by exact n1); have H5 := hid hb5; clear hb5))
      all_goals
        have HF := hid (((Below.refl w3.heap.size w3).drew).trans H5.out : Below w3.heap.size w3 w5)
        have HR := hid ((⟨(HV1.out.below HF.out), (HO3.out.below HF.out), HBL.out.trans (HF.out.mono (by omega))⟩ : OwnB w5 w.heap.size v1 (allB (ps.take (k + 1))) ∧ OwnB w5 w.heap.size v3 (allB (ps.take (k + 1))) ∧ Below w.heap.size w w5))
        clear n5 H5 n1 S1 S2 HV1 HO3 HF HBL h5
        go_wp2
        go_roundw
        case rel => exact ⟨k + 1, by omega, by go_num, HR.out.1, HR.out.2.1, HR.out.2.2⟩
        case measure => simp [intOf]; omega
    · clear HP HG HW
      go_wp2_with fail
      refine (size_300 _).mono ?_
      rintro e w' ⟨rfl, rfl⟩
      go_wp2_with fail
      refine (put_300 _ _ (src_one _ 7 7 rfl)).mono ?_
      rintro e w1 ⟨v1, rfl, ho1, hb1⟩
      have HO1 := hid ho1
      have HB1 := hid hb1
      clear ho1 hb1
      go_wp2_with fail
      refine (equal_true _ _ [7, 172, 2] _ ((HO1.out.below (below_walk _ _)).src (by simp)) ((own_three w1).src (by simp))).mono ?_
      rintro e w' ⟨rfl, rfl⟩
      go_wp2
      go_ret
      refine ⟨rfl, ?_⟩
      have h1 := HB1.out.size
      simp at h1
      exact ((HB.out.alloc hsz _).trans (HB1.out.mono (by simp; omega))).alloc (by omega) _

theorem lawPuts_any (v : Value) (ps : List PutD) (w : World) (h : PutsAt w v ps) (hn : ps.length ≤ 1099511627776) (hl : (allB ps).length ≤ 274877906944) :
    Calls Try.prog 3 #[v] w fun e w' => e = .returned (.bool true) ∧ Below w.heap.size w w' := by
  rcases h with ⟨ao, c, rfl, rfl⟩ | ⟨g, o, c, rfl, hlt, hp⟩
  · exact lawPuts_none ao c w
  · exact lawPuts_some g o c ps w hn hlt hl hp

end Go.Proofs.Ytggmgbdofjhkdaa
