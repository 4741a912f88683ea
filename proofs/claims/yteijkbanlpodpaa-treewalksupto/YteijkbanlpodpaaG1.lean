/- Contracts and pure facts that the proof needs, joined. -/
import Derived.Shelf.Small.Bits
import Derived.Shelf.Small.Strs
import Derived.Shelf.Strconv.Itoa0
import Derived.Shelf.Strconv.Clone
import Derived.Shelf.Strings.Search1
import Derived.Shelf.Strings.Search2
import Derived.Shelf.Strings.Cut
import Derived.Shelf.Strings.LastIndex
import Derived.Shelf.Strings.Prefix
import Derived.Test.YteijkbanlpodpaaProg
import Derived.Shelf.LaysM
import Derived.Shelf.SlGeneric
import Derived.Shelf.SlSortCmp.WholeK
import Derived.Shelf.SlSortCmp.NoneTotal
import Derived.Ground.SlsfProg
import Derived.Ground.NamesProg
import Derived.Ground.Names8Prog
import Derived.Shelf.Spec.SlicesGrow
import Derived.WalkKit
import Derived.WalkSpells
import Derived.WalkLawsBesides
import Derived.BigQuiet
import Derived.Deep.QuietTactic
import Derived.Laws.AppendOwnNone
import Derived.Laws.OwnMore
import Derived.Lib.AppendStr
import Derived.Laws.BytesString
import Derived.Laws.IdiomStrings
import Derived.Deep.WholeRow
import Derived.Lib.Join
import Derived.Lib.Index
import Derived.Test.YteijkbanlpodpaaRows
import Derived.ProofKit
import Derived.OpenShut
import Derived.SliceStrings
import Derived.ChangeMaps5
import Derived.SizedLaws
import Derived.JoinedCond
import Derived.LaidLaws
import Derived.Lib.Bytealg
import Derived.Lib.SplitLaws
import Derived.Lib.IndexLaws
import Derived.Lib.LastIndexByte
import Derived.Deep.Light

/- The contracts of strings.Join, Compare, Index, Count, LastIndex, HasPrefix and bits.Mul of the library, laid over this dump. -/
namespace Go.Proofs
open Go.Shelf
def Try.lays106_ren : Go.Shelf.Ren := ⟨fun | 106 => 88 | 213 => 99 | 265 => 103 | n => n, fun | 9 => 9 | 3 => 3 | n => n, fun | n => n⟩
theorem Try.lays106 : Go.Proofs.Lays.n106 Try.prog Try.lays106_ren := {
  mixed := by kernel_rfl
  f106 := Try.func88.trans (congrArg some (by kernel_rfl))
  f213 := Try.func99.trans (congrArg some (by kernel_rfl))
  f265 := Try.func103.trans (congrArg some (by kernel_rfl))
  t3 := Try.underlying3
  a3 := Try.isAgg3
  z3 := Try.sizeOf3
  v3 := Try.zeroValue3
  t9 := Try.underlying9
  a9 := Try.isAgg9
  z9 := Try.sizeOf9
  v9 := Try.zeroValue9 }
open Go.RowKit in
theorem Try.strings_Compare (a b : ByteArray) (w : World) :
    Calls Try.prog 88 #[.string a, .string b] w fun e w' => e = .returned (.int .i64 (Lib.compareBytes a.data.toList b.data.toList)) ∧ w' = w := Any.strings_Compare Try.lays106 a b w
def Try.lays219_ren : Go.Shelf.Ren := ⟨fun | 219 => 74 | 217 => 89 | 225 => 90 | 224 => 91 | 267 => 92 | 266 => 100 | 314 => 101 | n => n, fun | 9 => 9 | 3 => 3 | 4 => 4 | 5 => 5 | 46 => 94 | 146 => 112 | 51 => 108 | n => n, fun | 1 => 0 | n => n⟩
theorem Try.lays219 : Go.Proofs.Lays.n219 Try.prog Try.lays219_ren := {
  mixed := by kernel_rfl
  f217 := Try.func89.trans (congrArg some (by kernel_rfl))
  f219 := Try.func74.trans (congrArg some (by kernel_rfl))
  f224 := Try.func91.trans (congrArg some (by kernel_rfl))
  f225 := Try.func90.trans (congrArg some (by kernel_rfl))
  f266 := Try.func100.trans (congrArg some (by kernel_rfl))
  f267 := Try.func92.trans (congrArg some (by kernel_rfl))
  f314 := Try.func101.trans (congrArg some (by kernel_rfl))
  t3 := Try.underlying3
  a3 := Try.isAgg3
  z3 := Try.sizeOf3
  v3 := Try.zeroValue3
  t4 := Try.underlying4
  a4 := Try.isAgg4
  z4 := Try.sizeOf4
  v4 := Try.zeroValue4
  t5 := Try.underlying5
  a5 := Try.isAgg5
  z5 := Try.sizeOf5
  v5 := Try.zeroValue5
  t9 := Try.underlying9
  a9 := Try.isAgg9
  z9 := Try.sizeOf9
  v9 := Try.zeroValue9
  t46 := Try.underlying94
  a46 := Try.isAgg94
  z46 := Try.sizeOf94
  v46 := Try.zeroValue94
  t51 := Try.underlying108
  a51 := Try.isAgg108
  z51 := Try.sizeOf108
  v51 := Try.zeroValue108
  t146 := Try.underlying112
  a146 := Try.isAgg112
  z146 := Try.sizeOf112
  v146 := Try.zeroValue112
  g1 := by kernel_rfl }
open Go.RowKit Go.Lib in
theorem Try.stringslite_Index_one (s : ByteArray) (c : UInt8) (w : World) :
    Calls Try.prog 74 #[.string s, .string ⟨#[c]⟩] w fun e w' => e = .returned (.int .i64 (Lib.indexByte s.data.toList c)) ∧ w' = w := Any.stringslite_Index_one Try.lays219 s c w
def Try.lays148_ren : Go.Shelf.Ren := ⟨fun | 148 => 63 | 222 => 76 | 223 => 77 | 269 => 93 | n => n, fun | 9 => 9 | 3 => 3 | 4 => 4 | 5 => 5 | 146 => 112 | 51 => 108 | 46 => 94 | n => n, fun | n => n⟩
theorem Try.lays148 : Go.Proofs.Lays.n148 Try.prog Try.lays148_ren := {
  mixed := by kernel_rfl
  f148 := Try.func63.trans (congrArg some (by kernel_rfl))
  f222 := Try.func76.trans (congrArg some (by kernel_rfl))
  f223 := Try.func77.trans (congrArg some (by kernel_rfl))
  f269 := Try.func93.trans (congrArg some (by kernel_rfl))
  t3 := Try.underlying3
  a3 := Try.isAgg3
  z3 := Try.sizeOf3
  v3 := Try.zeroValue3
  t4 := Try.underlying4
  a4 := Try.isAgg4
  z4 := Try.sizeOf4
  v4 := Try.zeroValue4
  t5 := Try.underlying5
  a5 := Try.isAgg5
  z5 := Try.sizeOf5
  v5 := Try.zeroValue5
  t9 := Try.underlying9
  a9 := Try.isAgg9
  z9 := Try.sizeOf9
  v9 := Try.zeroValue9
  t46 := Try.underlying94
  a46 := Try.isAgg94
  z46 := Try.sizeOf94
  v46 := Try.zeroValue94
  t51 := Try.underlying108
  a51 := Try.isAgg108
  z51 := Try.sizeOf108
  v51 := Try.zeroValue108
  t146 := Try.underlying112
  a146 := Try.isAgg112
  z146 := Try.sizeOf112
  v146 := Try.zeroValue112 }
open Go.RowKit Go.Lib in
theorem Try.strings_LastIndex_one (s sub : ByteArray) (h1 : sub.size = 1) (hs : s.size < 4611686018427387904) (w : World) :
    Calls Try.prog 63 #[.string s, .string sub] w fun e w' => e = .returned (.int .i64 (Lib.lastIndexByte s ((sub[0]'(by omega)).toNat : Int))) ∧ w' = w := Any.strings_LastIndex_one Try.lays148 s sub h1 hs w
def Try.lays99_ren : Go.Shelf.Ren := ⟨fun | 99 => 62 | 206 => 75 | n => n, fun | 9 => 9 | 4 => 4 | 3 => 3 | n => n, fun | n => n⟩
theorem Try.lays99 : Go.Proofs.Lays.n99 Try.prog Try.lays99_ren := {
  mixed := by kernel_rfl
  f99 := Try.func62.trans (congrArg some (by kernel_rfl))
  f206 := Try.func75.trans (congrArg some (by kernel_rfl))
  t3 := Try.underlying3
  a3 := Try.isAgg3
  z3 := Try.sizeOf3
  v3 := Try.zeroValue3
  t4 := Try.underlying4
  a4 := Try.isAgg4
  z4 := Try.sizeOf4
  v4 := Try.zeroValue4
  t9 := Try.underlying9
  a9 := Try.isAgg9
  z9 := Try.sizeOf9
  v9 := Try.zeroValue9 }
open Go.RowKit Go.Lib in
theorem Try.strings_HasPrefix (s p : ByteArray) (w : World) :
    Calls Try.prog 62 #[.string s, .string p] w fun e w' => e = .returned (.bool (Lib.hasPrefix s.data.toList p.data.toList)) ∧ w' = w := Any.strings_HasPrefix Try.lays99 s p w
end Go.Proofs

/- The contracts of strings.Clone and slices.SortFunc of the library, laid over this dump. -/
namespace Go.Proofs
open Go.Shelf
def Try.lays316_ren : Go.Shelf.Ren := ⟨fun | 316 => 43 | n => n, fun | 9 => 9 | 3 => 3 | 4 => 4 | 37 => 88 | 0 => 0 | 127 => 89 | 5 => 5 | n => n, fun | n => n⟩
theorem Try.lays316 : Go.Proofs.LaysM.n316 Try.prog Try.lays316_ren := {
  mixed := by kernel_rfl
  f316 := Try.func43.trans (congrArg some (by kernel_rfl))
  t0 := Try.underlying0
  a0 := Try.isAgg0
  z0 := Try.sizeOf0
  v0 := Try.zeroValue0
  t3 := Try.underlying3
  a3 := Try.isAgg3
  z3 := Try.sizeOf3
  v3 := Try.zeroValue3
  t4 := Try.underlying4
  a4 := Try.isAgg4
  z4 := Try.sizeOf4
  v4 := Try.zeroValue4
  t9 := Try.underlying9
  a9 := Try.isAgg9
  z9 := Try.sizeOf9
  v9 := Try.zeroValue9
  t37 := Try.underlying88
  a37 := Try.isAgg88
  z37 := Try.sizeOf88
  v37 := Try.zeroValue88
  t127 := Try.underlying89
  a127 := Try.isAgg89
  z127 := Try.sizeOf89
  v127 := Try.zeroValue89
  t5 := Try.underlying5
  a5 := Try.isAgg5
  z5 := Try.sizeOf5
  v5 := Try.zeroValue5
  i0 := by kernel_rfl
  i3 := by kernel_rfl
  i4 := by kernel_rfl
  i5 := by kernel_rfl
  i9 := by kernel_rfl
  i37 := by kernel_rfl
  i127 := by kernel_rfl }
open Go.RowKit in
theorem Try.stringslite_Clone (s : ByteArray) (w : World) (hlim : s.size ≤ 281474976710656) :
    Calls Try.prog 43 #[.string s] w fun e w' => e = .returned (.string s) ∧ Below w.heap.size w w' := Any.stringslite_Clone Try.lays316 s w hlim
def Try.laysSort_ren : Go.Shelf.Ren := ⟨fun | 6 => 50 | 15 => 68 | 14 => 67 | 28 => 86 | 29 => 87 | 20 => 78 | 21 => 79 | 22 => 80 | 23 => 81 | 24 => 82 | 25 => 83 | 26 => 84 | 27 => 85 | 46 => 94 | 47 => 95 | 48 => 96 | 49 => 97 | 50 => 98 | 57 => 102 | n => n, fun | 22 => 22 | 24 => 25 | 25 => 78 | 3 => 3 | 39 => 94 | 0 => 0 | 53 => 108 | 55 => 110 | 4 => 4 | 46 => 102 | 45 => 101 | 50 => 63 | 5 => 5 | 9 => 9 | 66 => 114 | 70 => 118 | 76 => 120 | 77 => 44 | n => n, fun | n => n⟩
theorem Try.laysSort : Go.Proofs.SlLaysF0.n6 Try.prog Try.laysSort_ren := {
  mixed := by kernel_rfl
  f6 := ⟨Try.f50.name, by decide, Try.func50.trans (congrArg some (by kernel_rfl))⟩
  f14 := ⟨Try.f67.name, by decide, Try.func67.trans (congrArg some (by kernel_rfl))⟩
  f15 := Try.func68.trans (congrArg some (by kernel_rfl))
  f20 := ⟨Try.f78.name, by decide, Try.func78.trans (congrArg some (by kernel_rfl))⟩
  f21 := ⟨Try.f79.name, by decide, Try.func79.trans (congrArg some (by kernel_rfl))⟩
  f22 := ⟨Try.f80.name, by decide, Try.func80.trans (congrArg some (by kernel_rfl))⟩
  f23 := ⟨Try.f81.name, by decide, Try.func81.trans (congrArg some (by kernel_rfl))⟩
  f24 := ⟨Try.f82.name, by decide, Try.func82.trans (congrArg some (by kernel_rfl))⟩
  f25 := ⟨Try.f83.name, by decide, Try.func83.trans (congrArg some (by kernel_rfl))⟩
  f26 := ⟨Try.f84.name, by decide, Try.func84.trans (congrArg some (by kernel_rfl))⟩
  f27 := ⟨Try.f85.name, by decide, Try.func85.trans (congrArg some (by kernel_rfl))⟩
  f28 := Try.func86.trans (congrArg some (by kernel_rfl))
  f29 := Try.func87.trans (congrArg some (by kernel_rfl))
  f46 := ⟨Try.f94.name, by decide, Try.func94.trans (congrArg some (by kernel_rfl))⟩
  f47 := Try.func95.trans (congrArg some (by kernel_rfl))
  f48 := Try.func96.trans (congrArg some (by kernel_rfl))
  f49 := ⟨Try.f97.name, by decide, Try.func97.trans (congrArg some (by kernel_rfl))⟩
  f50 := ⟨Try.f98.name, by decide, Try.func98.trans (congrArg some (by kernel_rfl))⟩
  f57 := ⟨Try.f102.name, by decide, Try.func102.trans (congrArg some (by kernel_rfl))⟩
  t0 := Try.underlying0
  a0 := Try.isAgg0
  z0 := Try.sizeOf0
  v0 := Try.zeroValue0
  t3 := Try.underlying3
  a3 := Try.isAgg3
  z3 := Try.sizeOf3
  v3 := Try.zeroValue3
  t4 := Try.underlying4
  a4 := Try.isAgg4
  z4 := Try.sizeOf4
  v4 := Try.zeroValue4
  t5 := Try.underlying5
  a5 := Try.isAgg5
  z5 := Try.sizeOf5
  v5 := Try.zeroValue5
  t9 := Try.underlying9
  a9 := Try.isAgg9
  z9 := Try.sizeOf9
  v9 := Try.zeroValue9
  t22 := Try.underlying22
  a22 := Try.isAgg22
  z22 := Try.sizeOf22
  v22 := Try.zeroValue22
  t25 := Try.underlying78
  a25 := Try.isAgg78
  z25 := Try.sizeOf78
  v25 := Try.zeroValue78
  t39 := Try.underlying94
  a39 := Try.isAgg94
  z39 := Try.sizeOf94
  v39 := Try.zeroValue94
  t45 := Try.underlying101
  a45 := Try.isAgg101
  z45 := Try.sizeOf101
  v45 := Try.zeroValue101
  t46 := Try.underlying102
  a46 := Try.isAgg102
  z46 := Try.sizeOf102
  v46 := Try.zeroValue102
  t50 := Try.underlying63
  a50 := Try.isAgg63
  z50 := Try.sizeOf63
  v50 := Try.zeroValue63
  t53 := Try.underlying108
  a53 := Try.isAgg108
  z53 := Try.sizeOf108
  v53 := Try.zeroValue108
  t55 := Try.underlying110
  a55 := Try.isAgg110
  z55 := Try.sizeOf110
  v55 := Try.zeroValue110
  t66 := Try.underlying114
  a66 := Try.isAgg114
  z66 := Try.sizeOf114
  v66 := Try.zeroValue114
  t70 := Try.underlying118
  a70 := Try.isAgg118
  z70 := Try.sizeOf118
  v70 := Try.zeroValue118
  t76 := Try.underlying120
  a76 := Try.isAgg120
  z76 := Try.sizeOf120
  v76 := Try.zeroValue120
  t77 := Try.underlying44
  a77 := Try.isAgg44
  z77 := Try.sizeOf44
  v77 := Try.zeroValue44 }
def Try.laysGrow_ren : Go.Shelf.Ren := ⟨fun | 4 => 66 | n => n, fun | 22 => 22 | 25 => 25 | 3 => 3 | 4 => 4 | 9 => 9 | 20 => 20 | 0 => 0 | n => n, fun | n => n⟩
theorem Try.laysGrow : Go.Proofs.Lays8.n4 Try.prog Try.laysGrow_ren := {
  mixed := by kernel_rfl
  f4 := ⟨Try.f66.name, by decide, Try.func66.trans (congrArg some (by kernel_rfl))⟩
  t0 := Try.underlying0
  a0 := Try.isAgg0
  z0 := Try.sizeOf0
  v0 := Try.zeroValue0
  t3 := Try.underlying3
  a3 := Try.isAgg3
  z3 := Try.sizeOf3
  v3 := Try.zeroValue3
  t4 := Try.underlying4
  a4 := Try.isAgg4
  z4 := Try.sizeOf4
  v4 := Try.zeroValue4
  t9 := Try.underlying9
  a9 := Try.isAgg9
  z9 := Try.sizeOf9
  v9 := Try.zeroValue9
  t20 := Try.underlying20
  a20 := Try.isAgg20
  z20 := Try.sizeOf20
  v20 := Try.zeroValue20
  t22 := Try.underlying22
  a22 := Try.isAgg22
  z22 := Try.sizeOf22
  v22 := Try.zeroValue22 }
end Go.Proofs

/- Small laws on worlds that only grew; bytes of one's own, bytes that lie somewhere; append and make. -/
namespace Go.Proofs.Yteijkbanlpodpaa
open Go.RowKit

theorem Try.infoU8 : (Try.prog.info? 5).map (fun i => (i.zero, i.size, i.bytes)) = some (some (.int .u8 0), 1, 1) := by kernel_rfl

theorem gb_refl (w : World) (row : Option Nat) : w.grownBy w row := ⟨rfl, rfl, rfl, Nat.le_refl _, fun _ _ _ => rfl⟩
theorem gb_trans {a b c : World} {row : Option Nat} (h : a.grownBy b row) (k : b.grownBy c row) : a.grownBy c row :=
  ⟨k.os.trans h.os, k.tape.trans h.tape, k.output.trans h.output, Nat.le_trans h.size k.size,
    fun i hi hne => (k.block i (Nat.lt_of_lt_of_le hi h.size) hne).trans (h.block i hi hne)⟩
/-- a second growth may write what is new since the first world -/
theorem gb_then {a b c : World} {row row' : Option Nat} (h : a.grownBy b row) (k : b.grownBy c row') (hr : ∀ j, row' = some j → a.heap.size ≤ j ∨ row = some j) : a.grownBy c row :=
  ⟨k.os.trans h.os, k.tape.trans h.tape, k.output.trans h.output, Nat.le_trans h.size k.size,
    fun i hi hne => (k.block i (Nat.lt_of_lt_of_le hi h.size) (fun e => by
      rcases hr i e.symm with h1 | h1
      · omega
      · exact hne h1.symm)).trans (h.block i hi hne)⟩
theorem gb_drewN (w : World) (n : Nat) (row : Option Nat) : w.grownBy (w.drewN n) row := ⟨rfl, rfl, rfl, Nat.le_refl _, fun _ _ _ => rfl⟩
theorem gb_drew (w : World) (row : Option Nat) : w.grownBy w.drew row := ⟨rfl, rfl, rfl, Nat.le_refl _, fun _ _ _ => rfl⟩
theorem gb_alloc (w : World) (o : Obj) (row : Option Nat) : w.grownBy (w.alloc o) row :=
  ⟨rfl, rfl, rfl, by simp, fun k hk _ => Below.heap_alloc w o k hk⟩
theorem gb_set (w : World) (a : Addr) (u : Value) : w.grownBy (w.setCell a u) (some a.block) :=
  ⟨rfl, rfl, rfl, by simp, fun k _ hk => Below.heap_setCell w a u k (fun e => hk (by rw [e]))⟩
theorem gb_below {w w' : World} (h : w.grownBy w' none) : Below w.heap.size w w' := ⟨h.os, h.tape, h.output, h.size, fun k hk => h.block k hk (by simp)⟩
theorem below_gb {w w' : World} (h : Below w.heap.size w w') (row : Option Nat) : w.grownBy w' row := ⟨h.os, h.tape, h.output, h.size, fun k hk _ => h.block k hk⟩
theorem gb_any {w w' : World} (h : w.grownBy w' none) (row : Option Nat) : w.grownBy w' row := ⟨h.os, h.tape, h.output, h.size, fun k hk _ => h.block k hk (by simp)⟩
theorem below_walk (w : World) (o : Obj) : Below w.heap.size w (w.alloc o) := (Below.refl _ _).alloc (Nat.le_refl _) _
theorem below_walk2 (w : World) (o p : Obj) : Below w.heap.size w ((w.alloc o).alloc p) := (below_walk w o).alloc (by simp) _

/-- bytes, as cells -/
def bytesV (bs : List UInt8) : List Value := bs.map fun c => Value.int .u8 c.toNat
theorem bytesV_length (bs : List UInt8) : (bytesV bs).length = bs.length := by simp [bytesV]
theorem bytesV_append (a b : List UInt8) : bytesV (a ++ b) = bytesV a ++ bytesV b := by simp [bytesV]
theorem bytesV_get (bs : List UInt8) (j : Nat) : (bytesV bs)[j]? = (bs[j]?).map (fun c => Value.int .u8 c.toNat) := by simp [bytesV]
theorem bytesV_one (bs : List UInt8) : ∀ u ∈ bytesV bs, u.oneCell' = true := by
  intro u hu
  simp only [bytesV, List.mem_map] at hu
  obtain ⟨c, _, rfl⟩ := hu
  rfl
theorem bytesV_inj {a b : List UInt8} (h : bytesV a = bytesV b) : a = b := by
  unfold bytesV at h
  refine (List.map_inj_right ?_).1 h
  intro x y hxy
  simp only [Value.int.injEq, true_and] at hxy
  exact UInt8.toNat_inj.1 (by omega)

theorem addr_add (g j : Nat) : (⟨g, 0, none⟩ : Addr).add j = ⟨g, j, none⟩ := by
  by_cases h : j = 0
  · subst h; simp [Addr.add]
  · simp [Addr.add, h]

/-- v owns the bytes bs, in memory from block 'base' on -/
def OwnB (w : World) (base : Nat) (v : Value) (bs : List UInt8) : Prop := w.ownsRow base 5 1 v bs.length (bytesV bs)
theorem OwnB.kept {w w' : World} {base : Nat} {v : Value} {bs : List UInt8} {row : Option Nat} (h : OwnB w base v bs) (hg : w.grownBy w' row) (hne : v.ownBlock = none ∨ v.ownBlock ≠ row) : OwnB w' base v bs := World.ownsRow.kept h hg hne
theorem OwnB.below {w w' : World} {base : Nat} {v : Value} {bs : List UInt8} (h : OwnB w base v bs) (hb : Below w.heap.size w w') : OwnB w' base v bs :=
  World.ownsRow.kept h (below_gb hb none) (by cases e : v.ownBlock <;> simp)
theorem OwnB.le {w : World} {base base' : Nat} {v : Value} {bs : List UInt8} (h : OwnB w base v bs) (hb : base' ≤ base) : OwnB w base' v bs :=
  ⟨h.1, h.2.elim Or.inl (fun ⟨g, cap, cur, hv, hg, r⟩ => Or.inr ⟨g, cap, cur, hv, Nat.le_trans hb hg, r⟩)⟩
theorem OwnB.forms {w : World} {base : Nat} {v : Value} {bs : List UInt8} (h : OwnB w base v bs) :
    (v = .slice none 0 0 ∧ bs = []) ∨ ∃ g cap, v = .slice (some ⟨g, 0, none⟩) bs.length cap ∧ base ≤ g ∧ g < w.heap.size ∧ bs.length ≤ cap ∧ cap ≤ maxLen ∧ (∀ j, w.frozen? ⟨g, j, none⟩ = false) ∧ ∀ j, j < bs.length → w.cell? ⟨g, j, none⟩ = some (.int .u8 (bs.getD j 0).toNat) := by
  have h' := h
  rcases h.2 with ⟨h0, h1⟩ | ⟨g, cap, cur, hv, hb, hh, h1, h2, _, _⟩
  · exact Or.inl ⟨h0, List.length_eq_zero_iff.1 h1⟩
  · refine Or.inr ⟨g, cap, hv, hb, ?_, h1, h2, ?_, ?_⟩
    · exact (World.ownsRow.lt h' g (by rw [hv]; rfl)).2
    · intro j; simp [World.frozen?, hh]
    · intro j hj
      have := World.ownsRow.cells h' (g := g) (by rw [hv]; rfl) j (.int .u8 (bs.getD j 0).toNat) (by rw [bytesV_get]; simp [List.getElem?_eq_getElem hj, List.getD_eq_getElem?_getD])
      rw [addr_add] at this
      exact this
theorem OwnB.len {w : World} {base : Nat} {v : Value} {bs : List UInt8} (h : OwnB w base v bs) : bs.length ≤ maxLen := by
  rcases h.forms with ⟨_, rfl⟩ | ⟨g, cap, _, _, _, h1, h2, _⟩
  · simp
  · omega
theorem OwnB.shape {w : World} {base : Nat} {v : Value} {bs : List UInt8} (h : OwnB w base v bs) : ∃ a cap, v = .slice a bs.length cap := by
  rcases h.forms with ⟨h1, rfl⟩ | ⟨g, cap, h1, _⟩
  · exact ⟨none, 0, h1⟩
  · exact ⟨_, _, h1⟩
theorem OwnB.lt {w : World} {base : Nat} {v : Value} {bs : List UInt8} (h : OwnB w base v bs) : ∀ k, v.ownBlock = some k → base ≤ k ∧ k < w.heap.size := World.ownsRow.lt h
theorem OwnB.nil (w : World) (base : Nat) : OwnB w base (.slice none 0 0) [] := World.ownsRow_nil _ _ _ _

/-- v is a slice that holds the bytes bs, wherever they lie -/
def Src (w : World) (v : Value) (bs : List UInt8) : Prop :=
  bs.length ≤ 140737488355327 ∧ ((v = .slice none 0 0 ∧ bs = []) ∨ ∃ ad cap, v = .slice (some ad) bs.length cap ∧ bs.length ≤ cap ∧ cap ≤ maxLen ∧ (0 < bs.length → ad.block < w.heap.size) ∧ ∀ j, j < bs.length → w.cell? (ad.add j) = some (.int .u8 (bs.getD j 0).toNat))
theorem addr_block (ad : Addr) (j : Nat) : (ad.add j).block = ad.block := by unfold Addr.add; split <;> rfl
theorem Src.below {w w' : World} {v : Value} {bs : List UInt8} (h : Src w v bs) (hb : Below w.heap.size w w') : Src w' v bs := by
  obtain ⟨h0, h | ⟨ad, cap, rfl, h1, h2, hlt, h3⟩⟩ := h
  · exact ⟨h0, Or.inl h⟩
  · exact ⟨h0, Or.inr ⟨ad, cap, rfl, h1, h2, fun h => Nat.lt_of_lt_of_le (hlt h) hb.size, fun j hj => by rw [hb.cell (p := ad.add j) (by rw [addr_block]; exact hlt (by omega))]; exact h3 j hj⟩⟩
theorem Src.grown {w w' : World} {v : Value} {bs : List UInt8} {row : Option Nat} (h : Src w v bs) (hg : w.grownBy w' row) (hne : v.ownBlock = none ∨ v.ownBlock ≠ row) : Src w' v bs := by
  obtain ⟨h0, h | ⟨ad, cap, rfl, h1, h2, hlt, h3⟩⟩ := h
  · exact ⟨h0, Or.inl h⟩
  · refine ⟨h0, Or.inr ⟨ad, cap, rfl, h1, h2, fun h => Nat.lt_of_lt_of_le (hlt h) hg.size, fun j hj => ?_⟩⟩
    rw [World.cell?_of_block (hg.block (ad.add j).block (by rw [addr_block]; exact hlt (by omega)) (by rw [addr_block]; simpa [Value.ownBlock] using hne))]
    exact h3 j hj
theorem OwnB.src {w : World} {base : Nat} {v : Value} {bs : List UInt8} (h : OwnB w base v bs) (hl : bs.length ≤ 140737488355327) : Src w v bs := by
  refine ⟨hl, ?_⟩
  rcases h.forms with h0 | ⟨g, cap, hv, _, hlt, h1, h2, _, hc⟩
  · exact Or.inl h0
  · exact Or.inr ⟨⟨g, 0, none⟩, cap, hv, h1, h2, fun _ => hlt, fun j hj => by rw [addr_add]; exact hc j hj⟩

section
variable {w : World} {b : Nat}
theorem blk_set {cs : Array Value} {T : TypeId} {i : Nat} (hb : w.heap[b]? = some (.cells cs T (0, 0))) (u : Value) :
    (w.setCell ⟨b, i, none⟩ u).heap[b]? = some (.cells (cs.setIfInBounds i u) T (0, 0)) := by
  simp [World.setCell, Array.getElem?_modify, hb]
end

theorem hid {p : Prop} (h : p) : Hid p := h

theorem src_cells {w : World} {ad : Addr} {bs : List UInt8} (hc : ∀ j, j < bs.length → w.cell? (ad.add j) = some (.int .u8 (bs.getD j 0).toNat)) :
    ∀ j u, (bytesV bs)[j]? = some u → w.cell? (ad.add j) = some u := by
  intro j u hj
  rw [bytesV_get] at hj
  have hjl : j < bs.length := by
    rcases Nat.lt_or_ge j bs.length with h | h
    · exact h
    · rw [List.getElem?_eq_none h] at hj; cases hj
  rw [hc j hjl, ← hj]
  simp [List.getElem?_eq_getElem hjl, List.getD_eq_getElem?_getD]

/-- append(own, bytes...) -/
theorem app_src {w : World} {ops : Array Oper} {rest : List Oper} {o : Oper} {a : Act} {Q : Exit → Act → World → Prop} (hgd : o.guard = none) (s x : Operand)
    (ho : o.op = .call { callee := .builtin .append, args := #[s, x], argTypes := #[88, 88] })
    (base : Nat) (v : Value) (bs : List UInt8) (hs : a.eval s = v) (hown : OwnB w base v bs) (vx : Value) (cs : List UInt8) (hx : a.eval x = vx) (hsrc : Src w vx cs)
    (hlen : bs.length + cs.length ≤ 140737488355327) (hbase : base ≤ w.heap.size)
    (h : ∀ v' w', OwnB w' base v' (bs ++ cs) → w.grownBy w' v.ownBlock → wpList Try.prog ops Q rest (a.put o.dst v') w') : wpList Try.prog ops Q (o :: rest) a w := by
  obtain ⟨i0, hi, hz0, hz1, hz2⟩ := info_parts Try.infoU8
  obtain ⟨_, ⟨rfl, rfl⟩ | ⟨ad, cap, rfl, h1, h2, hlt, hc⟩⟩ := hsrc
  · refine wpList_append_own_none hgd s x 88 ho base 5 i0 1 Try.underlying88 hi v bs.length (bytesV bs) hs hown hx ?_
    exact h v w (by simpa using hown) (gb_refl _ _)
  · refine wpList_append_own w hgd s x 88 ho base 5 i0 (.int .u8 0) 1 1 Try.underlying88 hi hz0 hz1 hz2 rfl (by decide) v bs.length (bytesV bs) hs hown ad cs.length cap (bytesV cs) hx (by simp [bytesV]) (src_cells hc) (bytesV_one cs) (by unfold maxLen; omega) (by omega) hbase ?_
    intro v' w' h3 h4 _
    exact h v' w' (by unfold OwnB; rw [bytesV_append, List.length_append]; exact h3) h4

/-- append(own, text...) -/
theorem app_str {w : World} {ops : Array Oper} {rest : List Oper} {o : Oper} {a : Act} {Q : Exit → Act → World → Prop} (hgd : o.guard = none) (s x : Operand)
    (ho : o.op = .call { callee := .builtin .append, args := #[s, x], argTypes := #[88, 9] })
    (base : Nat) (v : Value) (bs : List UInt8) (hs : a.eval s = v) (hown : OwnB w base v bs) (t : ByteArray) (hx : a.eval x = .string t)
    (hlen : bs.length + t.size ≤ 140737488355327) (hbase : base ≤ w.heap.size)
    (h : ∀ v' w', OwnB w' base v' (bs ++ t.data.toList) → w.grownBy w' v.ownBlock → wpList Try.prog ops Q rest (a.put o.dst v') w') : wpList Try.prog ops Q (o :: rest) a w := by
  obtain ⟨i0, hi, hz0, hz1, hz2⟩ := info_parts Try.infoU8
  refine Lib.wpList_append_own_string w hgd s x 88 9 ho base 5 i0 Try.underlying88 Try.underlying9 hi hz0 hz1 hz2 v bs.length (bytesV bs) hs hown t hx (by unfold maxLen; omega) (by omega) hbase ?_
  intro v' w' h3 h4 _
  refine h v' w' ?_ h4
  unfold OwnB
  rw [bytesV_append, List.length_append]
  exact h3

/-- make([]byte, 0, n) -/
theorem make_own {w : World} {ops : Array Oper} {rest : List Oper} {o : Oper} {a : Act} {Q : Exit → Act → World → Prop} (hgd : o.guard = none) (l c : Operand) (ho : o.op = Op.makeSlice 88 l c)
    (C : Int) (n : Nat) (hl : a.eval l = .int .i64 0) (hc : a.eval c = .int .i64 C) (hC : C = (n : Int)) (hn : n ≤ 140737488355327)
    (h : ∀ v' w', OwnB w' w.heap.size v' [] → Below w.heap.size w w' → wpList Try.prog ops Q rest (a.put o.dst v') w') : wpList Try.prog ops Q (o :: rest) a w := by
  obtain ⟨i0, hi, hz0, hz1, hz2⟩ := info_parts Try.infoU8
  refine wpList_make_own w hgd l c 88 ho w.heap.size 5 i0 (.int .u8 0) 1 Try.underlying88 hi hz0 hz1 .i64 .i64 C n hl hc hC (by rw [hz2]; omega) (by unfold maxLen; omega) (Nat.le_refl _) ?_
  intro w' h1 h2
  exact h _ w' h1 (gb_below h2)

/-- string(bytes) -/
theorem run_str {w : World} {v : Value} {bs : List UInt8} (h : Src w v bs) : (convert 88 9 v).run Try.prog w = .ok (.string ⟨bs.toArray⟩) w := by
  obtain ⟨_, ⟨rfl, rfl⟩ | ⟨ad, cap, rfl, h1, h2, hlt, hc⟩⟩ := h
  · rw [run_convert_bytes_string w 88 9 5 none 0 0 Try.underlying88 Try.underlying5 Try.underlying9]
    rfl
  · refine run_convert_bytes_back w 88 9 5 ad cap bs Try.underlying88 Try.underlying5 Try.underlying9 ?_
    intro j hj
    rw [hc j hj]
    simp [List.getElem?_eq_getElem hj, List.getD_eq_getElem?_getD]


end Go.Proofs.Yteijkbanlpodpaa

/- Paths, plainly: names, pieces, the text of pieces; walking by a written path. -/
namespace Go.Proofs.Yteijkbanlpodpaa

/-- a sign that a name may have -/
def nbI (c : Int) : Bool := decide ((65 ≤ c ∧ c ≤ 90) ∨ (97 ≤ c ∧ c ≤ 122) ∨ (48 ≤ c ∧ c ≤ 57) ∨ c = 46 ∨ c = 95 ∨ c = 45)
/-- a name -/
def nmP (l : List UInt8) : Bool := decide (1 ≤ l.length ∧ l.length ≤ 64 ∧ l ≠ [46] ∧ l ≠ [46, 46]) && l.all (fun c => nbI c.toNat)
/-- what stands between the slashes -/
def pcs : List UInt8 → List (List UInt8)
  | [] => [[]]
  | c :: r => if c = 47 then [] :: pcs r else
    match pcs r with
    | [] => [[c]]
    | h :: t => (c :: h) :: t
/-- pieces with slashes between -/
def txt : List (List UInt8) → List UInt8
  | [] => []
  | x :: r => x ++ (r.map ((47 : UInt8) :: ·)).flatten

theorem txt_join (l : List (List UInt8)) : Lib.join l [47] = txt l := by
  cases l with
  | nil => rfl
  | cons x r => rw [Lib.join_cons]; rfl
theorem txt_one (x : List UInt8) : txt [x] = x := by simp [txt]
theorem txt_two (x y : List UInt8) (r : List (List UInt8)) : txt (x :: y :: r) = x ++ 47 :: txt (y :: r) := by simp [txt]

theorem pcs_ne (s : List UInt8) : pcs s ≠ [] := by
  cases s with
  | nil => simp [pcs]
  | cons c r =>
    unfold pcs
    split
    · simp
    · split <;> simp
theorem pcs_slash (r : List UInt8) : pcs (47 :: r) = [] :: pcs r := by simp [pcs]
theorem pcs_cons (c : UInt8) (r : List UInt8) (h : c ≠ 47) : ∃ x t, pcs r = x :: t ∧ pcs (c :: r) = (c :: x) :: t := by
  cases e : pcs r with
  | nil => exact absurd e (pcs_ne r)
  | cons x t => exact ⟨x, t, rfl, by simp [pcs, h, e]⟩
theorem pcs_append (a b : List UInt8) : pcs (a ++ 47 :: b) = pcs a ++ pcs b := by
  induction a with
  | nil => simp [pcs]
  | cons c a ih =>
    by_cases h : c = 47
    · subst h; rw [List.cons_append, pcs_slash, pcs_slash, ih]; rfl
    · obtain ⟨x, t, e1, e2⟩ := pcs_cons c a h
      obtain ⟨y, u, f1, f2⟩ := pcs_cons c (a ++ 47 :: b) h
      rw [List.cons_append, f2, e2]
      rw [ih, e1] at f1
      simp only [List.cons_append, List.cons.injEq] at f1
      obtain ⟨rfl, rfl⟩ := f1
      rfl
theorem pcs_whole {s : List UInt8} (h : (47 : UInt8) ∉ s) : pcs s = [s] := by
  induction s with
  | nil => rfl
  | cons c r ih =>
    simp only [List.mem_cons, not_or] at h
    obtain ⟨x, t, e1, e2⟩ := pcs_cons c r (fun e => h.1 e.symm)
    rw [ih h.2] at e1
    simp only [List.cons.injEq] at e1
    obtain ⟨rfl, rfl⟩ := e1
    exact e2
theorem pcs_mem (s : List UInt8) : ∀ p ∈ pcs s, (47 : UInt8) ∉ p := by
  induction s with
  | nil => simp [pcs]
  | cons c r ih =>
    by_cases h : c = 47
    · subst h; rw [pcs_slash]; intro p hp
      simp only [List.mem_cons] at hp
      rcases hp with rfl | hp
      · simp
      · exact ih p hp
    · obtain ⟨x, t, e1, e2⟩ := pcs_cons c r h
      rw [e2]; rw [e1] at ih
      intro p hp
      simp only [List.mem_cons] at hp
      rcases hp with rfl | hp
      · simp only [List.mem_cons, not_or]
        exact ⟨fun e => h e.symm, ih x (by simp)⟩
      · exact ih p (by simp [hp])
theorem txt_pcs (s : List UInt8) : txt (pcs s) = s := by
  induction s with
  | nil => rfl
  | cons c r ih =>
    by_cases h : c = 47
    · subst h; rw [pcs_slash]
      cases e : pcs r with
      | nil => exact absurd e (pcs_ne r)
      | cons x t => rw [txt_two, ← e, ih]; rfl
    · obtain ⟨x, t, e1, e2⟩ := pcs_cons c r h
      rw [e2]; rw [e1] at ih
      simp only [txt] at ih ⊢
      rw [← ih]; rfl
theorem pcs_txt : ∀ (l : List (List UInt8)), l ≠ [] → (∀ p ∈ l, (47 : UInt8) ∉ p) → pcs (txt l) = l
  | [], h, _ => absurd rfl h
  | [x], _, h => by rw [txt_one]; exact pcs_whole (h x (by simp))
  | x :: y :: r, _, h => by
    rw [txt_two, pcs_append, pcs_whole (h x (by simp)), pcs_txt (y :: r) (by simp) (fun p hp => h p (List.mem_cons_of_mem _ hp))]
    rfl

theorem nmP_slash {p : List UInt8} (h : nmP p = true) : (47 : UInt8) ∉ p := by
  unfold nmP at h
  rw [Bool.and_eq_true, List.all_eq_true] at h
  intro hm
  have := h.2 47 hm
  revert this; decide
theorem nmP_ne {p : List UInt8} (h : nmP p = true) : p ≠ [] ∧ p ≠ [46] ∧ p ≠ [46, 46] := by
  unfold nmP at h
  rw [Bool.and_eq_true, decide_eq_true_iff] at h
  obtain ⟨⟨h1, _, h2, h3⟩, _⟩ := h
  refine ⟨?_, h2, h3⟩
  rintro rfl; simp at h1
theorem nmP_len {p : List UInt8} (h : nmP p = true) : p.length ≤ 64 := by
  unfold nmP at h
  rw [Bool.and_eq_true, decide_eq_true_iff] at h
  exact h.1.2.1

/-- so many names, and no more, make a path -/
def pathL (l : List (List UInt8)) : Prop := (∀ p ∈ l, nmP p = true) ∧ l.length ≤ 32
/-- a path's names -/
def nms (s : List UInt8) : List (List UInt8) := if s = [] then [] else pcs s
/-- is it a path? -/
def okP (s : List UInt8) : Bool := (nms s).all nmP && decide ((nms s).length ≤ 32)
theorem okP_iff (s : List UInt8) : okP s = true ↔ pathL (nms s) := by
  unfold okP pathL
  rw [Bool.and_eq_true, List.all_eq_true, decide_eq_true_iff]
theorem txt_nms (s : List UInt8) : txt (nms s) = s := by
  unfold nms
  split
  · rename_i h; rw [h]; rfl
  · exact txt_pcs s
theorem txt_ne {l : List (List UInt8)} (h : ∀ p ∈ l, nmP p = true) (hl : l ≠ []) : txt l ≠ [] := by
  cases l with
  | nil => exact absurd rfl hl
  | cons x r =>
    have := (nmP_ne (h x (by simp))).1
    simp only [txt]
    intro e
    exact this (List.append_eq_nil_iff.1 e).1
theorem nms_txt {l : List (List UInt8)} (h : ∀ p ∈ l, nmP p = true) : nms (txt l) = l := by
  unfold nms
  by_cases hl : l = []
  · subst hl; rfl
  · rw [if_neg (txt_ne h hl)]
    exact pcs_txt l hl (fun p hp => nmP_slash (h p hp))
theorem okP_txt {l : List (List UInt8)} (h : pathL l) : okP (txt l) = true := by
  rw [okP_iff, nms_txt h.1]; exact h
theorem okP_nil : okP [] = true := by decide

/-- one piece of a written path -/
def stepP (l : List (List UInt8)) (p : List UInt8) : Except Int (List (List UInt8)) :=
  if p = [] ∨ p = [46] then .ok l
  else if p = [46, 46] then (if l = [] then .error 43 else .ok l.dropLast)
  else if nmP p = true then .ok (l ++ [p]) else .error 42
/-- pieces, one behind the other -/
def stepsP : List (List UInt8) → List (List UInt8) → Except Int (List (List UInt8))
  | l, [] => .ok l
  | l, p :: r => match stepP l p with
    | .ok m => stepsP m r
    | .error e => .error e
/-- a written path -/
def walkP (l : List (List UInt8)) (s : List UInt8) : Except Int (List (List UInt8)) :=
  if 4096 < s.length then .error 40 else if s.head? = some 47 then .error 41 else stepsP l (pcs s)
def walksP : List (List UInt8) → List (List UInt8) → Except Int (List (List UInt8))
  | l, [] => .ok l
  | l, s :: r => match walkP l s with
    | .ok m => walksP m r
    | .error e => .error e
/-- the path of names that are names -/
def endP (l : List (List UInt8)) : Except Int (List UInt8) := if 32 < l.length then .error 44 else .ok (txt l)
def finP (r : Except Int (List (List UInt8))) : Except Int (List UInt8) := match r with
  | .ok m => endP m
  | .error e => .error e
def joinP (b : List UInt8) (more : List (List UInt8)) : Except Int (List UInt8) :=
  if okP b = true then finP (walksP (nms b) more) else .error 45
/-- an answer's text and number -/
def aS (r : Except Int (List UInt8)) : List UInt8 := match r with | .ok s => s | .error _ => []
def aN (r : Except Int (List UInt8)) : Int := match r with | .ok _ => 0 | .error e => e

theorem stepP_err {l : List (List UInt8)} {p : List UInt8} {e : Int} (h : stepP l p = .error e) : e = 42 ∨ e = 43 := by
  unfold stepP at h
  repeat' split at h
  all_goals first | (cases h; done) | (cases h; simp)
theorem stepsP_err : ∀ {r l : List (List UInt8)} {e : Int}, stepsP l r = .error e → e = 42 ∨ e = 43
  | [], l, e, h => by cases h
  | p :: r, l, e, h => by
    unfold stepsP at h
    split at h
    · exact stepsP_err h
    · rename_i e' he; cases h; exact stepP_err he
theorem walkP_err {l : List (List UInt8)} {s : List UInt8} {e : Int} (h : walkP l s = .error e) : 40 ≤ e ∧ e ≤ 43 := by
  unfold walkP at h
  split at h
  · cases h; decide
  · split at h
    · cases h; decide
    · rcases stepsP_err h with rfl | rfl <;> decide
theorem walksP_err : ∀ {r l : List (List UInt8)} {e : Int}, walksP l r = .error e → 40 ≤ e ∧ e ≤ 43
  | [], l, e, h => by cases h
  | p :: r, l, e, h => by
    unfold walksP at h
    split at h
    · exact walksP_err h
    · rename_i e' he; cases h; exact walkP_err he
theorem stepP_names {l m : List (List UInt8)} {p : List UInt8} (h : stepP l p = .ok m) (hl : ∀ x ∈ l, nmP x = true) : ∀ x ∈ m, nmP x = true := by
  unfold stepP at h
  repeat' split at h
  · cases h; exact hl
  · cases h
  · cases h; exact fun x hx => hl x ((List.dropLast_sublist l).subset hx)
  · rename_i hp; cases h
    intro x hx
    rw [List.mem_append] at hx
    rcases hx with hx | hx
    · exact hl x hx
    · rw [List.mem_singleton] at hx; rw [hx]; exact hp
  · cases h
theorem stepsP_names : ∀ {r l m : List (List UInt8)}, stepsP l r = .ok m → (∀ x ∈ l, nmP x = true) → ∀ x ∈ m, nmP x = true
  | [], l, m, h, hl => by cases h; exact hl
  | p :: r, l, m, h, hl => by
    unfold stepsP at h
    split at h
    · rename_i k hk; exact stepsP_names h (stepP_names hk hl)
    · cases h
theorem walkP_names {l m : List (List UInt8)} {s : List UInt8} (h : walkP l s = .ok m) (hl : ∀ x ∈ l, nmP x = true) : ∀ x ∈ m, nmP x = true := by
  unfold walkP at h
  split at h
  · cases h
  · split at h
    · cases h
    · exact stepsP_names h hl
theorem walksP_names : ∀ {r l m : List (List UInt8)}, walksP l r = .ok m → (∀ x ∈ l, nmP x = true) → ∀ x ∈ m, nmP x = true
  | [], l, m, h, hl => by cases h; exact hl
  | p :: r, l, m, h, hl => by
    unfold walksP at h
    split at h
    · rename_i k hk; exact walksP_names h (walkP_names hk hl)
    · cases h

/-- what is answered is a path -/
theorem joinP_ok {b : List UInt8} {more : List (List UInt8)} {s : List UInt8} (h : joinP b more = .ok s) : ∃ m, okP b = true ∧ walksP (nms b) more = .ok m ∧ pathL m ∧ s = txt m := by
  unfold joinP at h
  split at h
  · rename_i hb
    unfold finP at h
    split at h
    · rename_i m hm
      unfold endP at h
      split at h
      · cases h
      · cases h
        exact ⟨m, hb, hm, ⟨walksP_names hm ((okP_iff b).1 hb).1, by omega⟩, rfl⟩
    · cases h
  · cases h

end Go.Proofs.Yteijkbanlpodpaa

/- Texts as lists of bytes; slices of texts in memory, of one's own or wherever they lie. -/
namespace Go.Proofs.Yteijkbanlpodpaa
open Go.RowKit

/-- a text's bytes, and the text of bytes -/
def bl (s : ByteArray) : List UInt8 := s.toList
def mk (l : List UInt8) : ByteArray := ⟨l.toArray⟩
theorem bl_eq (s : ByteArray) : bl s = s.data.toList := ByteArray.toList_eq s
theorem bl_mk (l : List UInt8) : bl (mk l) = l := ByteArray.toList_mk l
theorem mk_bl (s : ByteArray) : mk (bl s) = s := by
  rw [bl_eq]; exact Lib.mk_data s
theorem bl_size (s : ByteArray) : s.size = (bl s).length := by rw [bl_eq]; exact Lib.size_eq s
theorem mk_size (l : List UInt8) : (mk l).size = l.length := by rw [bl_size, bl_mk]
theorem bl_inj {s t : ByteArray} (h : bl s = bl t) : s = t := by rw [← mk_bl s, h, mk_bl]
theorem mk_inj {a b : List UInt8} (h : mk a = mk b) : a = b := by rw [← bl_mk a, h, bl_mk]
theorem ext_bl (s : ByteArray) (a b : Nat) : s.extract a b = mk (((bl s).take b).drop a) := by
  rw [bl_eq, Lib.extract_eq, List.drop_take]
  rfl

theorem hp_new (w : World) (o : Obj) : (w.alloc o).heap[w.heap.size]? = some o := heap_alloc_last w o
theorem hp_lt {w : World} {b : Nat} {o : Obj} (h : w.heap[b]? = some o) : b < w.heap.size := (Array.getElem?_eq_some_iff.1 h).1

theorem Try.infoStr : (Try.prog.info? 9).map (fun i => (i.zero, i.size, i.bytes)) = some (some (.string ⟨#[]⟩), 1, 16) := by kernel_rfl

def strV (ts : List (List UInt8)) : List Value := ts.map fun t => Value.string (mk t)
theorem strV_length (ts : List (List UInt8)) : (strV ts).length = ts.length := by simp [strV]
theorem strV_one (ts : List (List UInt8)) : ∀ u ∈ strV ts, u.oneCell' = true := by
  intro u hu
  simp only [strV, List.mem_map] at hu
  obtain ⟨c, _, rfl⟩ := hu
  rfl
theorem strV_get (ts : List (List UInt8)) (j : Nat) (hj : j < ts.length) : (strV ts)[j]? = some (.string (mk (ts.getD j []))) := by
  simp [strV, List.getD_eq_getElem?_getD, hj]

/-- v is a slice that holds the texts ts, wherever they lie -/
def Strs (w : World) (v : Value) (ts : List (List UInt8)) : Prop :=
  (∃ ao c, v = .slice ao 0 c ∧ ts = [] ∧ (ao = none → c = 0)) ∨ ∃ g o c, v = .slice (some ⟨g, o, none⟩) ts.length c ∧ g < w.heap.size ∧ ts.length ≤ c ∧ ∀ j, j < ts.length → w.cell? ⟨g, o + j, none⟩ = some (.string (mk (ts.getD j [])))
theorem Strs.below {w w' : World} {v : Value} {ts : List (List UInt8)} (h : Strs w v ts) (hb : Below w.heap.size w w') : Strs w' v ts := by
  rcases h with h | ⟨g, o, c, hv, hlt, h1, hc⟩
  · exact Or.inl h
  · exact Or.inr ⟨g, o, c, hv, Nat.lt_of_lt_of_le hlt hb.size, h1, fun j hj => by rw [hb.cell (p := ⟨g, o + j, none⟩) hlt]; exact hc j hj⟩
theorem Strs.shape {w : World} {v : Value} {ts : List (List UInt8)} (h : Strs w v ts) : ∃ ao c, v = .slice ao ts.length c := by
  rcases h with ⟨ao, c, hv, rfl, _⟩ | ⟨g, o, c, hv, _⟩
  · exact ⟨ao, c, hv⟩
  · exact ⟨_, _, hv⟩
theorem Strs.at {w : World} {ao : Option Addr} {n c : Nat} {ts : List (List UInt8)} (h : Strs w (.slice ao n c) ts) (k : Nat) (hk : k < ts.length) :
    ∃ g o, ao = some ⟨g, o, none⟩ ∧ w.cell? ⟨g, o + k, none⟩ = some (.string (mk (ts.getD k []))) := by
  rcases h with ⟨_, _, _, h0, _⟩ | ⟨g, o, c, hv, _, _, hc⟩
  · rw [h0] at hk; simp at hk
  · injection hv with h1 _ _
    exact ⟨g, o, h1, hc k hk⟩

/-- v owns the texts ts, in memory from block 'base' on -/
def OwnS (w : World) (base : Nat) (v : Value) (ts : List (List UInt8)) : Prop := w.ownsRow base 9 1 v ts.length (strV ts)
theorem OwnS.nil (w : World) (base : Nat) : OwnS w base (.slice none 0 0) [] := World.ownsRow_nil _ _ _ _
theorem OwnS.lt {w : World} {base : Nat} {v : Value} {ts : List (List UInt8)} (h : OwnS w base v ts) : ∀ k, v.ownBlock = some k → base ≤ k ∧ k < w.heap.size := World.ownsRow.lt h
theorem OwnS.kept {w w' : World} {base : Nat} {v : Value} {ts : List (List UInt8)} {row : Option Nat} (h : OwnS w base v ts) (hg : w.grownBy w' row) (hne : v.ownBlock = none ∨ v.ownBlock ≠ row) : OwnS w' base v ts := World.ownsRow.kept h hg hne
theorem OwnS.below {w w' : World} {base : Nat} {v : Value} {ts : List (List UInt8)} (h : OwnS w base v ts) (hb : Below w.heap.size w w') : OwnS w' base v ts :=
  World.ownsRow.kept h (below_gb hb none) (by cases e : v.ownBlock <;> simp)
theorem OwnS.le {w : World} {base base' : Nat} {v : Value} {ts : List (List UInt8)} (h : OwnS w base v ts) (hb : base' ≤ base) : OwnS w base' v ts :=
  ⟨h.1, h.2.elim Or.inl (fun ⟨g, cap, cur, hv, hg, r⟩ => Or.inr ⟨g, cap, cur, hv, Nat.le_trans hb hg, r⟩)⟩
theorem OwnS.forms {w : World} {base : Nat} {v : Value} {ts : List (List UInt8)} (h : OwnS w base v ts) :
    (v = .slice none 0 0 ∧ ts = []) ∨ ∃ g cap, v = .slice (some ⟨g, 0, none⟩) ts.length cap ∧ base ≤ g ∧ g < w.heap.size ∧ ts.length ≤ cap ∧ cap ≤ maxLen ∧ (∀ j, w.frozen? ⟨g, j, none⟩ = false) ∧ ∀ j, j < ts.length → w.cell? ⟨g, j, none⟩ = some (.string (mk (ts.getD j []))) := by
  have h' := h
  rcases h.2 with ⟨h0, h1⟩ | ⟨g, cap, cur, hv, hb, hh, h1, h2, _, _⟩
  · exact Or.inl ⟨h0, List.length_eq_zero_iff.1 h1⟩
  · refine Or.inr ⟨g, cap, hv, hb, ?_, h1, h2, ?_, ?_⟩
    · exact (World.ownsRow.lt h' g (by rw [hv]; rfl)).2
    · intro j; simp [World.frozen?, hh]
    · intro j hj
      have := World.ownsRow.cells h' (g := g) (by rw [hv]; rfl) j _ (strV_get ts j hj)
      rw [addr_add] at this
      exact this
theorem OwnS.strs {w : World} {base : Nat} {v : Value} {ts : List (List UInt8)} (h : OwnS w base v ts) : Strs w v ts := by
  rcases h.forms with ⟨rfl, rfl⟩ | ⟨g, cap, rfl, h1, h2, h3, h4, h5, h6⟩
  · exact Or.inl ⟨_, _, rfl, rfl, fun _ => rfl⟩
  · exact Or.inr ⟨g, 0, cap, rfl, h2, h3, fun j hj => by rw [Nat.zero_add]; exact h6 j hj⟩
/-- a row that was laid at once -/
theorem OwnS.made {w : World} {g base : Nat} {ts : List (List UInt8)} (hb : w.heap[g]? = some (.cells (strV ts).toArray 9 (0, 0))) (hl : ts.length ≤ 1099511627776) (hg : base ≤ g) (n : Nat) (hn : n = ts.length) :
    OwnS w base (.slice (some ⟨g, 0, none⟩) n n) ts := by
  subst hn
  refine ⟨by simp [strV], Or.inr ⟨g, ts.length, (strV ts).toArray, rfl, hg, hb, Nat.le_refl _, by unfold maxLen; omega, ?_, ?_⟩⟩
  · simp [strV]
  · rw [Nat.mul_one, ← strV_length ts, List.take_length]
/-- without the last ones -/
theorem OwnS.take {w : World} {base g cap : Nat} {ts : List (List UInt8)} (h : OwnS w base (.slice (some ⟨g, 0, none⟩) ts.length cap) ts) (n : Nat) (hn : n ≤ ts.length) : OwnS w base (.slice (some ⟨g, 0, none⟩) n cap) (ts.take n) := by
  obtain ⟨h0, h | ⟨g', cap', cur, hv, hb, hh, h1, h2, h3, h4⟩⟩ := h
  · cases h.1
  · injection hv with e1 e2 e3
    injection e1 with e1
    injection e1 with e1
    subst e1 e3
    have el : (ts.take n).length = n := by rw [List.length_take]; omega
    unfold OwnS
    rw [el]
    refine ⟨by rw [strV_length, el]; omega, Or.inr ⟨g, cap, cur, rfl, hb, hh, by omega, h2, h3, ?_⟩⟩
    have e : strV (ts.take n) = (strV ts).take n := by simp [strV, List.map_take]
    rw [e, ← h4, List.take_take]
    congr 1
    omega

/-- where an append lies: where it lay, or at the end -/
theorem app_place {P : Program} (w : World) (base : Nat) (t ty e : TypeId) (i : TypeInfo) (z : Value) (size bytes : Nat) (ht : P.underlying t = some (.slice e)) (hi : P.info? e = some i) (hz : i.zero = some z)
    (hsize : i.size = size) (hby : i.bytes = bytes)
    (v : Value) (n : Nat) (xs : List Value) (hown : w.ownsRow base e size v n xs)
    (a : Addr) (m c : Nat) (news : List Value) (hl : news.length = m * size) (hnews : ∀ j u, news[j]? = some u → w.cell? (a.add j) = some u) (h1 : ∀ u ∈ news, u.oneCell' = true)
    (h63 : n + m ≤ maxLen) (hbytes : (n + m) * bytes ≤ 140737488355328) (v' : Value) (w' : World)
    (hr : (Builtin.append_ #[t, t] ty #[v, .slice (some a) m c]).run P w = .ok v' w') : v'.ownBlock = v.ownBlock ∨ v'.ownBlock = some w.heap.size := by
  subst hsize
  subst hby
  have hsmall : n + m ≤ 9223372036854775807 := by simp only [maxLen] at h63; omega
  rcases hown.2 with ⟨rfl, rfl⟩ | ⟨g, cap, cur, rfl, hbg, hg, hnc, hcm, hcs, htake⟩
  · by_cases hm : m = 0
    · subst hm
      simp [Builtin.append_, run_underlying ht, sizeOf, typeInfo, hi, Builtin.lenOf, Builtin.firstCells, loadCells, loadCellsFrom] at hr
      rw [← hr.1]
      exact Or.inl rfl
    · have hr2 := run_append_nil (P := P) w t ty e i z ht hi hz a m c news hl hnews (by omega) (by omega) (by have hb := hbytes; simp only [Nat.zero_add] at hb; omega)
      rw [hr] at hr2
      injection hr2 with e1 e2
      rw [e1]
      exact Or.inr rfl
  · by_cases hroom : n + m ≤ cap
    · have hfit : n * i.size + news.length ≤ cur.size := by rw [hl, hcs, ← Nat.add_mul]; exact Nat.mul_le_mul_right _ hroom
      have hr2 := run_append_room (P := P) w t ty e i ht hi g n cap cur hg a m c news hl hnews h1 hroom hfit
      rw [hr] at hr2
      injection hr2 with e1 e2
      rw [e1]
      exact Or.inl rfl
    · have holds : ∀ j u, xs[j]? = some u → w.cell? ((⟨g, 0, none⟩ : Addr).add j) = some u := hown.cells (g := g) rfl
      have hr2 := run_append_grow (P := P) w t ty e i z ht hi hz ⟨g, 0, none⟩ n cap xs hown.1 holds a m c news hl hnews (by omega) (by omega) (growslice_fits (by omega) hbytes)
      rw [hr] at hr2
      injection hr2 with e1 e2
      rw [e1]
      exact Or.inr rfl

/-- append(own, texts...) -/
theorem app_text {w : World} {ops : Array Oper} {rest : List Oper} {o : Oper} {a : Act} {Q : Exit → Act → World → Prop} (hgd : o.guard = none) (s x : Operand)
    (ho : o.op = .call { callee := .builtin .append, args := #[s, x], argTypes := #[29, 29] })
    (base : Nat) (v : Value) (ts : List (List UInt8)) (hs : a.eval s = v) (hown : OwnS w base v ts) (us : List (List UInt8)) (vx : Value) (hx : a.eval x = vx) (hc : Strs w vx us)
    (hlen : ts.length + us.length ≤ 8796093022208) (hbase : base ≤ w.heap.size)
    (h : ∀ v' w', OwnS w' base v' (ts ++ us) → w.grownBy w' v.ownBlock → (v'.ownBlock = v.ownBlock ∨ v'.ownBlock = some w.heap.size) → wpList Try.prog ops Q rest (a.put o.dst v') w') : wpList Try.prog ops Q (o :: rest) a w := by
  obtain ⟨i0, hi, hz0, hz1, hz2⟩ := info_parts Try.infoStr
  have fin : ∀ (ad : Addr) (m c : Nat) (news : List Value), news = strV us → vx = .slice (some ad) m c → m = us.length → (∀ j u, news[j]? = some u → w.cell? (ad.add j) = some u) → wpList Try.prog ops Q (o :: rest) a w := by
    intro ad m c news hn hv hm hcl
    subst hn hv hm
    refine wpList_plain hgd fun K hK => ?_
    have hl : (strV us).length = us.length * 1 := by rw [strV_length]; omega
    obtain ⟨v', w', hr, h2, h3, _⟩ := run_append_own (P := Try.prog) w base 29 o.type 9 i0 (.string ⟨#[]⟩) 1 16 Try.underlying29 hi hz0 hz1 hz2 rfl (by decide) v ts.length (strV ts) hown ad us.length c (strV us) hl hcl (strV_one us) (by unfold maxLen; omega) (by omega) hbase
    have hp := app_place (P := Try.prog) w base 29 o.type 9 i0 (.string ⟨#[]⟩) 1 16 Try.underlying29 hi hz0 hz1 hz2 v ts.length (strV ts) hown ad us.length c (strV us) hl hcl (strV_one us) (by unfold maxLen; omega) (by omega) v' w' hr
    unfold Oper.wp execOp
    simp only [ho, resolve, invoke, builtin, Sem.run_bind, Sem.run_pure, Result.andThen_ok, List.map_toArray, List.map_cons, List.map_nil, hs, hx, hr]
    refine hK _ _ (h v' w' ?_ h3 hp)
    unfold OwnS
    rw [List.length_append, show strV (ts ++ us) = strV ts ++ strV us by simp [strV]]
    exact h2
  rcases hc with ⟨ao, c, rfl, rfl, h0⟩ | ⟨g, off, c, rfl, hlt, h1, h2⟩
  · cases ao with
    | none =>
      obtain rfl := h0 rfl
      refine wpList_append_own_none hgd s x 29 ho base 9 i0 1 Try.underlying29 hi v ts.length _ hs hown hx ?_
      exact h v w (by simpa using hown) (gb_refl _ _) (Or.inl rfl)
    | some ad => exact fin ad 0 c [] rfl rfl rfl (fun j u hj => by simp at hj)
  · refine fin ⟨g, off, none⟩ _ c _ rfl rfl rfl ?_
    intro j u hj
    have hjl : j < us.length := by
      rcases Nat.lt_or_ge j us.length with h | h
      · exact h
      · rw [List.getElem?_eq_none (by rw [strV_length]; exact h)] at hj; cases hj
    rw [strV_get us j hjl] at hj
    have hj := Option.some.inj hj
    rw [← hj]
    have := h2 j hjl
    rw [show (⟨g, off, none⟩ : Addr).add j = ⟨g, off + j, none⟩ by by_cases h0 : j = 0 <;> simp [Addr.add, h0]]
    exact this

/-- a slice's beginning -/
theorem sl_to (ad : Addr) (n cap k : Nat) (hk : k ≤ cap) (W : World) : (Instr.slice 29 (.slice (some ad) n cap) none (some (.int .i64 (k : Int))) none).run Try.prog W = .ok (.slice (some ad) k cap) W := by
  have hk2 : (k : Int) ≤ (cap : Int) := by omega
  go_simp

end Go.Proofs.Yteijkbanlpodpaa

/- Rows: the condition of the second form beside laid tables; texts out of their reading. -/
namespace Go.Proofs.Yteijkbanlpodpaa
open Go.ChangeShapes Go.WideShapes Go.ChangeAt Go.RowKit

section
variable {H : Type} {enc : TypeId × Value → H}
theorem returns_cond_and {a : Assume} {C : Checked} {os : Os} {f : FuncId} {fn : Func} {s : OpenSpec} {k : (H : Type) → List (DataW H) → Bool} (hk : s.cond = some k) {F : Stop.Interp} {conds : List PathCond} {apart fresh handsOn again : Bool} {X : World → Array Value → Prop}
    (hX : ∀ (w w' : World) (args : Array Value), w.heap = w'.heap → X w args → X w' args)
    (own : ownKnob C.prog.godebug = none) (started : os.Started) (noInit : C.prog.inits.idxOf? f = none) (hfn : C.prog.funcs[f]? = some fn)
    (witness : ∃ (w : World) (tape : Tape) (i : Input), w.os = os ∧ (w.forCall tape i).Shaped C.prog ∧ i.vars = [] ∧ Input.okWide C.prog (w.forCall tape i) .any w.heap.size f i ∧
      ((s.pre enc C.prog fn conds apart (w.forCall tape i).memory i.args ∧ X (w.forCall tape i).memory i.args) ∧ sizedMet enc C.prog fn s apart (w.forCall tape i).memory i.args) ∧ a.holds C.prog (lone (Frame.enter C.prog f i.args .normal) [] (w.forCall tape i)))
    (contract : ∀ (W : World) (base : Nat) (args : Array Value) (ds gs : List (DataW H)) (before : List MemPlace),
      (∀ (j : Nat) t v, fn.params[j]? = some t → args[j]? = some v → Value.okWide C.prog W .any base t v) →
      DataW.Whole enc C.prog fn.params.toList s.vars apart W args.toList ds gs before →
      k H (ds ++ gs) = true → X W args →
      Calls C.prog f args W fun e W' => ∃ v, e = .returned v ∧ (s.at F).post enc C.prog fn apart fresh handsOn again W args v W') :
    ReturnsInHanded a C os f .any (fun w args => (s.pre enc C.prog fn conds apart w args ∧ X w args) ∧ sizedMet enc C.prog fn s apart w args) ((s.at F).post enc C.prog fn apart fresh handsOn again) := by
  refine returnsInHanded_of_calls own started noInit witness ?_
  intro w tape i _ _ _ hok hpre _
  obtain ⟨_, _, _, fn', hfn', _, _, _, _, hval⟩ := hok
  have e : fn' = fn := Option.some.inj (hfn'.symm.trans hfn)
  subst e
  obtain ⟨⟨hp, hx⟩, _⟩ := hpre
  obtain ⟨ds, gs, before, hw, _, hkk⟩ := (OpenSpec.pre_some hk conds apart _ _).1 hp
  have hw' := DataW.Whole.of_heap (w' := w.forCall tape i) (by rfl) hw
  refine (contract (w.forCall tape i) w.heap.size i.args ds gs before hval hw' hkk (hX _ _ _ (by rfl) hx)).mono fun e W' ⟨v, he, hp⟩ => ?_
  subst he
  exact ChangeSpec.post_blind hp

theorem witness_cond {C : Checked} {os : Os} {f : FuncId} {fn : Func} {s : OpenSpec} {k : (H : Type) → List (DataW H) → Bool} (hk : s.cond = some k) {conds : List PathCond} {apart : Bool} {X : World → Array Value → Prop} (modest : Bool) (w0 : World) (args : Array Value) (fuel : Nat) (hos : w0.os = os)
    (hsh : (w0.forCall (fun _ _ => 0) ⟨#[], args, []⟩).Shaped C.prog)
    (hok : Input.okWideB C.prog (w0.forCall (fun _ _ => 0) ⟨#[], args, []⟩) f ⟨#[], args, []⟩ = true)
    {x : List (DataW H) × List (DataW H) × List MemPlace} (hx : DataW.whole enc C.prog (w0.forCall (fun _ _ => 0) ⟨#[], args, []⟩).memory fn.params.toList s.vars apart args.toList fuel = some x)
    (hconds : conds.all (PathCond.test C.prog ⟨fn.params.toList, x.1, s.bare.plain.varTypes C.prog, x.2.1⟩) = true) (hkk : k H (x.1 ++ x.2.1) = true)
    (hsz : s.bare.sizedB enc C.prog fn apart (w0.forCall (fun _ _ => 0) ⟨#[], args, []⟩).memory args fuel = true)
    (hX : X (w0.forCall (fun _ _ => 0) ⟨#[], args, []⟩).memory args) :
    ∃ (w : World) (tape : Tape) (i : Input), w.os = os ∧ (w.forCall tape i).Shaped C.prog ∧ i.vars = [] ∧ Input.okWide C.prog (w.forCall tape i) .any w.heap.size f i ∧
      ((s.pre enc C.prog fn conds apart (w.forCall tape i).memory i.args ∧ X (w.forCall tape i).memory i.args) ∧ sizedMet enc C.prog fn s apart (w.forCall tape i).memory i.args) ∧ ({ modest := modest } : Assume).holds C.prog (lone (Frame.enter C.prog f i.args .normal) [] (w.forCall tape i)) :=
  ⟨w0, fun _ _ => 0, ⟨#[], args, []⟩, hos, hsh, (Input.okWide_of_okWideB (base := 0) hok).1, (Input.okWide_of_okWideB hok).2,
    ⟨⟨(OpenSpec.pre_some hk conds apart _ _).2 ⟨x.1, x.2.1, x.2.2, DataW.Whole_of_whole hx, hconds, hkk⟩, hX⟩, sizedMet_of_sizedB hsz⟩, by
    simp only [Assume.holds]
    exact ⟨by simp, by simp, fun _ => Modest.zero, by simp, by simp⟩⟩
end

theorem cellsStr : Try.prog.cellsOf 9 = 1 := by kernel_rfl
theorem addr_plain {w : World} {a : Addr} {v : Value} (h : w.cell? a = some v) : a = ⟨a.block, a.off, none⟩ := by
  obtain ⟨b, o, sp⟩ := a
  cases sp with
  | none => rfl
  | some s =>
    unfold World.cell? at h
    split at h <;> simp at h
theorem add_plain (b o j : Nat) : (⟨b, o, none⟩ : Addr).add j = ⟨b, o + j, none⟩ := by
  by_cases h : j = 0
  · subst h; simp [Addr.add]
  · simp [Addr.add, h]
theorem list_of {α : Type} {P : Nat → α → Prop} : ∀ {n : Nat}, (∀ i, i < n → ∃ x, P i x) → ∃ l : List α, l.length = n ∧ ∀ j x, l[j]? = some x → P j x
  | 0, _ => ⟨[], rfl, by intro j x h; simp at h⟩
  | n + 1, h => by
    obtain ⟨l, hl, hp⟩ := list_of (n := n) (fun i hi => h i (by omega))
    obtain ⟨x, hx⟩ := h n (by omega)
    refine ⟨l ++ [x], by simp [hl], fun j y hj => ?_⟩
    rcases Nat.lt_or_ge j n with hjn | hjn
    · rw [List.getElem?_append_left (by omega)] at hj
      exact hp j y hj
    · rw [List.getElem?_append_right (by omega)] at hj
      have : j - l.length = 0 := by
        rcases Nat.eq_zero_or_pos (j - l.length) with h0 | h0
        · exact h0
        · rw [List.getElem?_eq_none (by simp; omega)] at hj; cases hj
      rw [this] at hj
      simp at hj
      subst hj
      obtain rfl : j = n := by omega
      exact hx
section
variable {H : Type}
theorem bulk_pos (d : DataW H) : 1 ≤ Rows.uptoBulk d := by
  cases d with
  | lit l => cases l <;> simp [Rows.uptoBulk]
  | _ => simp [Rows.uptoBulk]
theorem bulk_mem {d : DataW H} : ∀ {l : List (DataW H)}, d ∈ l → Rows.uptoBulk d ≤ Rows.uptoBulkAll l
  | [], h => by cases h
  | x :: r, h => by
    simp only [Rows.uptoBulkAll]
    rcases List.mem_cons.1 h with rfl | h
    · omega
    · have := bulk_mem h; omega
theorem bulk_count : ∀ (l : List (DataW H)), l.length ≤ Rows.uptoBulkAll l
  | [] => by simp
  | x :: r => by
    have h1 := bulk_pos x
    have h2 := bulk_count r
    simp only [Rows.uptoBulkAll, List.length_cons]
    omega
theorem small {l : List (DataW H)} (hk : Rows.uptoSmall H l = true) : Rows.uptoBulkAll l ≤ 1048576 := of_decide_eq_true hk
theorem bulk_range (D : Nat → DataW H) (n : Nat) : Rows.uptoBulkAll ((List.range (n + 1)).map D) = Rows.uptoBulkAll ((List.range n).map D) + Rows.uptoBulk (D n) := by
  rw [List.range_succ, List.map_append]
  generalize (List.range n).map D = L
  induction L with
  | nil => simp [Rows.uptoBulkAll]
  | cons a r ih2 => simp only [List.cons_append, List.map_cons, List.map_nil, Rows.uptoBulkAll] at ih2 ⊢; omega
end

section
variable {H : Type} {enc : TypeId × Value → H} {W : World} {spare : Nat → Bool} {held : Bool}
theorem bulk_strs : ∀ (ss : List ByteArray), ss.length ≤ Rows.uptoBulkAll (strs (H := H) ss) ∧ ∀ s ∈ ss, (bl s).length ≤ Rows.uptoBulkAll (strs (H := H) ss)
  | [] => ⟨by simp, fun s h => (by cases h)⟩
  | x :: r => by
    obtain ⟨h1, h2⟩ := bulk_strs r
    have e : Rows.uptoBulkAll (strs (H := H) (x :: r)) = (bl x).length + 1 + Rows.uptoBulkAll (strs (H := H) r) := by
      rw [bl_eq]; rfl
    refine ⟨by rw [e]; simp; omega, fun s hs => ?_⟩
    rw [e]
    rcases List.mem_cons.1 hs with rfl | hs
    · omega
    · have := h2 s hs; omega
/-- texts out of their reading -/
theorem texts_of {ao : Option Addr} {n c : Nat} {d : DataW H} {pl : List MemPlace} (h : DataW.Trod enc Try.prog W 0 spare held 29 (.slice ao n c) d pl) :
    ∃ ts : List (List UInt8), Strs W (.slice ao n c) ts ∧ ts.length = n ∧ (∀ t ∈ ts, t.length ≤ 9223372036854775807) ∧ (∀ elems more, d = .slice elems more → elems.length = n) ∧ n ≤ Rows.uptoBulk d ∧ (∀ t ∈ ts, t.length ≤ Rows.uptoBulk d) ∧ (d = .nil → n = 0) := by
  obtain ⟨fuel, hf⟩ := h
  rcases open_strings Try.underlying29 Try.underlying9 cellsStr hf with ⟨hcs, hx⟩ | ⟨a, len, cap, ss, hcs, _, hl, hm, hz, hx, hcell, hwz⟩
  · simp [Value.cells] at hcs
    obtain ⟨rfl, rfl, rfl⟩ := hcs
    simp only [Prod.mk.injEq] at hx
    obtain ⟨rfl, _⟩ := hx
    exact ⟨[], Or.inl ⟨_, _, rfl, rfl, fun _ => rfl⟩, rfl, fun t h => (by cases h), fun el mo e => (by cases e), Nat.zero_le _, fun t h => (by cases h), fun _ => rfl⟩
  · simp [Value.cells] at hcs
    obtain ⟨rfl, rfl, rfl⟩ := hcs
    simp only [Prod.mk.injEq] at hx
    obtain ⟨rfl, _⟩ := hx
    have hlm : n ≤ ss.length := by rw [hz]; split <;> omega
    have hlen : ((ss.take n).map bl).length = n := by simp; omega
    obtain ⟨hb1, hb2⟩ := bulk_strs (H := H) (ss.take n)
    refine ⟨(ss.take n).map bl, ?_, hlen, ?_, ?_, ?_, ?_, fun e => by cases e⟩
    · rcases Nat.eq_zero_or_pos n with rfl | hpos
      · exact Or.inl ⟨_, _, rfl, by simp, fun e => by cases e⟩
      · have h0 := hcell 0 (by omega)
        have ha : a = ⟨a.block, a.off, none⟩ := addr_plain (v := .string (ss.getD 0 ByteArray.empty)) (by simpa [Addr.add] using h0)
        have hlt : a.block < W.heap.size := World.block_lt_of_cell? W a (u := .string (ss.getD 0 ByteArray.empty)) (by simpa [Addr.add] using h0)
        generalize a.block = g at ha hlt
        generalize a.off = o at ha
        subst ha
        refine Or.inr ⟨g, o, c, by rw [hlen], hlt, by rw [hlen]; exact hl, fun j hj => ?_⟩
        rw [hlen] at hj
        have h1 := hcell j (by omega)
        rw [add_plain] at h1
        rw [h1]
        have hj2 : j < ss.length := by omega
        congr 2
        simp [List.getD_eq_getElem?_getD, hj, hj2, mk_bl]
    · intro t ht
      obtain ⟨s, hs, rfl⟩ := List.mem_map.1 ht
      have := hwz s (List.mem_of_mem_take hs)
      rw [← bl_size]
      unfold maxLen at this
      omega
    · intro el mo e
      injection e with e1 _
      rw [← e1]
      simp [strs]
      omega
    · simp only [Rows.uptoBulk]
      have : (ss.take n).length = n := by simp; omega
      omega
    · intro t ht
      obtain ⟨s, hs, rfl⟩ := List.mem_map.1 ht
      have := hb2 s hs
      simp only [Rows.uptoBulk]
      omega
end

end Go.Proofs.Yteijkbanlpodpaa

/- The order of paths, plainly. -/
namespace Go.Proofs.Yteijkbanlpodpaa

def cb : List UInt8 → List UInt8 → Int := Lib.compareBytes
theorem cb_self : ∀ x, cb x x = 0
  | [] => rfl
  | a :: x => by
    unfold cb Lib.compareBytes
    rw [if_neg (by simp), if_neg (by simp)]
    exact cb_self x
theorem cb_range : ∀ x y, cb x y = -1 ∨ cb x y = 0 ∨ cb x y = 1
  | [], [] => by simp [cb, Lib.compareBytes]
  | [], _ :: _ => by simp [cb, Lib.compareBytes]
  | _ :: _, [] => by simp [cb, Lib.compareBytes]
  | a :: x, b :: y => by
    unfold cb Lib.compareBytes
    split
    · simp
    · split
      · simp
      · exact cb_range x y
theorem u8_eq {a b : UInt8} (h1 : ¬ a < b) (h2 : ¬ b < a) : a = b := by
  apply UInt8.toNat_inj.1
  rw [UInt8.lt_iff_toNat_lt] at h1 h2
  omega
theorem cb_zero : ∀ {x y}, cb x y = 0 → x = y
  | [], [], _ => rfl
  | [], _ :: _, h => by simp [cb, Lib.compareBytes] at h
  | _ :: _, [], h => by simp [cb, Lib.compareBytes] at h
  | a :: x, b :: y, h => by
    unfold cb Lib.compareBytes at h
    split at h
    · simp at h
    · split at h
      · simp at h
      · rename_i h1 h2
        rw [u8_eq h1 h2, cb_zero h]
theorem cb_anti : ∀ x y, cb y x = - cb x y
  | [], [] => rfl
  | [], _ :: _ => rfl
  | _ :: _, [] => rfl
  | a :: x, b :: y => by
    have ih := cb_anti x y
    unfold cb Lib.compareBytes
    by_cases h1 : a < b
    · have h2 : ¬ b < a := by rw [UInt8.lt_iff_toNat_lt] at *; omega
      rw [if_neg h2, if_pos h1, if_pos h1]; rfl
    · by_cases h2 : b < a
      · rw [if_pos h2, if_neg h1, if_pos h2]
      · rw [if_neg h2, if_neg h1, if_neg h1, if_neg h2]
        exact ih
theorem cb_trans : ∀ x y z, cb x y ≤ 0 → cb y z ≤ 0 → cb x z ≤ 0
  | [], _, [], _, _ => by simp [cb, Lib.compareBytes]
  | [], _, _ :: _, _, _ => by simp [cb, Lib.compareBytes]
  | a :: x, [], _, h, _ => by simp [cb, Lib.compareBytes] at h
  | a :: x, b :: y, [], _, h => by simp [cb, Lib.compareBytes] at h
  | a :: x, b :: y, c :: z, h1, h2 => by
    have ih := cb_trans x y z
    unfold cb Lib.compareBytes at h1 h2 ⊢
    simp only [UInt8.lt_iff_toNat_lt] at h1 h2 ⊢
    split at h1
    · split at h2
      · rw [if_pos (by omega)]; decide
      · split at h2
        · simp at h2
        · rw [if_pos (by omega)]; decide
    · split at h1
      · simp at h1
      · split at h2
        · rw [if_pos (by omega)]; decide
        · split at h2
          · simp at h2
          · rw [if_neg (by omega), if_neg (by omega)]
            exact ih h1 h2

/-- name by name -/
def cmpL : List (List UInt8) → List (List UInt8) → Int
  | [], [] => 0
  | [], _ :: _ => -1
  | _ :: _, [] => 1
  | x :: a, y :: b => if cb x y = 0 then cmpL a b else cb x y
theorem cmpL_self : ∀ a, cmpL a a = 0
  | [] => rfl
  | x :: a => by rw [cmpL, if_pos (cb_self x)]; exact cmpL_self a
theorem cmpL_range : ∀ a b, cmpL a b = -1 ∨ cmpL a b = 0 ∨ cmpL a b = 1
  | [], [] => by simp [cmpL]
  | [], _ :: _ => by simp [cmpL]
  | _ :: _, [] => by simp [cmpL]
  | x :: a, y :: b => by
    rw [cmpL]
    split
    · exact cmpL_range a b
    · exact cb_range x y
theorem cmpL_zero : ∀ {a b}, cmpL a b = 0 → a = b
  | [], [], _ => rfl
  | [], _ :: _, h => by simp [cmpL] at h
  | _ :: _, [], h => by simp [cmpL] at h
  | x :: a, y :: b, h => by
    rw [cmpL] at h
    split at h
    · rename_i h1; rw [cb_zero h1, cmpL_zero h]
    · rename_i h1; exact absurd h h1
theorem cmpL_anti : ∀ a b, cmpL b a = - cmpL a b
  | [], [] => rfl
  | [], _ :: _ => rfl
  | _ :: _, [] => rfl
  | x :: a, y :: b => by
    rw [cmpL, cmpL]
    have h := cb_anti x y
    by_cases h1 : cb x y = 0
    · rw [if_pos (by omega), if_pos h1]; exact cmpL_anti a b
    · rw [if_neg (by omega), if_neg h1]; exact h
theorem cmpL_trans : ∀ a b c, cmpL a b ≤ 0 → cmpL b c ≤ 0 → cmpL a c ≤ 0
  | [], _, [], _, _ => by simp [cmpL]
  | [], _, _ :: _, _, _ => by simp [cmpL]
  | x :: a, [], _, h, _ => by simp [cmpL] at h
  | x :: a, y :: b, [], _, h => by simp [cmpL] at h
  | x :: a, y :: b, z :: c, h1, h2 => by
    rw [cmpL] at h1 h2 ⊢
    by_cases e1 : cb x y = 0
    · have e := cb_zero e1
      subst e
      rw [if_pos e1] at h1
      by_cases e2 : cb x z = 0
      · rw [if_pos e2] at h2 ⊢; exact cmpL_trans a b c h1 h2
      · rw [if_neg e2] at h2 ⊢; exact h2
    · rw [if_neg e1] at h1
      by_cases e2 : cb y z = 0
      · have e := cb_zero e2
        subst e
        rw [if_neg e1]; exact h1
      · rw [if_neg e2] at h2
        have h3 := cb_trans x y z h1 h2
        by_cases e3 : cb x z = 0
        · have e := cb_zero e3
          subst e
          have := cb_anti x y
          omega
        · rw [if_neg e3]; exact h3
theorem cmpL_pre : ∀ {a r : List (List UInt8)}, r ≠ [] → cmpL a (a ++ r) = -1
  | [], [], h => absurd rfl h
  | [], _ :: _, _ => rfl
  | x :: a, r, h => by
    rw [List.cons_append, cmpL, if_pos (cb_self x)]
    exact cmpL_pre h
theorem cmpL_between : ∀ {a b r : List (List UInt8)}, cmpL a b < 0 → cmpL b (a ++ r) < 0 → ∃ t, t ≠ [] ∧ b = a ++ t
  | [], [], _, h, _ => by simp [cmpL] at h
  | [], y :: b, _, _, _ => ⟨y :: b, by simp, rfl⟩
  | x :: a, [], _, h, _ => by simp [cmpL] at h
  | x :: a, y :: b, r, h1, h2 => by
    rw [List.cons_append, cmpL] at h2
    rw [cmpL] at h1
    have h := cb_anti x y
    by_cases e1 : cb x y = 0
    · rw [if_pos e1] at h1
      rw [if_pos (by omega)] at h2
      obtain ⟨t, ht, e⟩ := cmpL_between h1 h2
      exact ⟨t, ht, by rw [e, cb_zero e1]; rfl⟩
    · rw [if_neg e1] at h1
      rw [if_neg (by omega)] at h2
      omega

def cmP (a b : List UInt8) : Int := if okP a = true ∧ okP b = true then cmpL (nms a) (nms b) else 0

end Go.Proofs.Yteijkbanlpodpaa

/- Which path is above another; a path's directory and last name, plainly. -/
namespace Go.Proofs.Yteijkbanlpodpaa

/-- the first names of the other's, and fewer -/
def upP (x y : List (List UInt8)) : Bool := decide (x.length < y.length ∧ y.take x.length = x)
def abB (a b : List UInt8) : Bool := okP a && okP b && upP (nms a) (nms b)
/-- the number where two paths are asked for -/
def pN (a b : List UInt8) : Int := if okP a = true ∧ okP b = true then 0 else 45
def caN (ts : List (List UInt8)) : Int := if ts.all okP = true then 0 else 45

theorem txt_app {x r : List (List UInt8)} (hx : x ≠ []) (hr : r ≠ []) : txt (x ++ r) = txt x ++ 47 :: txt r := by
  cases x with
  | nil => exact absurd rfl hx
  | cons p x =>
    cases r with
    | nil => exact absurd rfl hr
    | cons q r => simp [txt]
theorem upP_iff {x y : List (List UInt8)} : upP x y = true ↔ ∃ r, r ≠ [] ∧ y = x ++ r := by
  unfold upP
  rw [decide_eq_true_iff]
  constructor
  · rintro ⟨h1, h2⟩
    refine ⟨y.drop x.length, ?_, ?_⟩
    · intro e
      have := congrArg List.length e
      simp at this
      omega
    · conv => lhs; rw [← List.take_append_drop x.length y, h2]
  · rintro ⟨r, hr, rfl⟩
    have : 0 < r.length := List.length_pos_iff.2 hr
    exact ⟨by simp; omega, by simp⟩
theorem above_pre {a b : List UInt8} (h0 : a ≠ []) : (a ++ [47]).isPrefixOf b = upP (nms a) (nms b) := by
  rw [Bool.eq_iff_iff, List.isPrefixOf_iff_prefix, upP_iff]
  have ea : nms a = pcs a := by unfold nms; rw [if_neg h0]
  constructor
  · rintro ⟨t, rfl⟩
    refine ⟨pcs t, pcs_ne t, ?_⟩
    have hne : a ++ [47] ++ t ≠ [] := by simp
    have e : nms (a ++ [47] ++ t) = pcs (a ++ [47] ++ t) := by unfold nms; rw [if_neg hne]
    rw [e, ea, List.append_assoc]
    exact pcs_append a t
  · rintro ⟨r, hr, e⟩
    refine ⟨txt r, ?_⟩
    have := txt_nms b
    rw [e, txt_app (by rw [ea]; exact pcs_ne a) hr, txt_nms] at this
    rw [← this]; simp
theorem above_root {b : List UInt8} : upP (nms []) (nms b) = decide (b ≠ []) := by
  rw [Bool.eq_iff_iff, upP_iff, decide_eq_true_iff]
  constructor
  · rintro ⟨r, hr, e⟩ rfl
    exact hr (by simpa [nms] using e.symm)
  · intro h
    exact ⟨nms b, by unfold nms; rw [if_neg h]; exact pcs_ne b, rfl⟩

def spD (s : List UInt8) : List UInt8 := if okP s = true then txt (nms s).dropLast else []
def spN (s : List UInt8) : List UInt8 := if okP s = true then (nms s).getLastD [] else []
def spE (s : List UInt8) : Int := if okP s = true then (if s = [] then 46 else 0) else 45

end Go.Proofs.Yteijkbanlpodpaa

/- Trees, plainly: entries that may be, the first wrong one, right trees, open directories. -/
namespace Go.Proofs.Yteijkbanlpodpaa

/-- an entry: its path, kind and data -/
abbrev Ent := List UInt8 × Int × List UInt8
def zE : Ent := ([], 0, [])
/-- an entry that may be -/
def mayP (e : Ent) : Bool := okP e.1 && decide (e.1 ≠ []) && decide ((e.2.1 = 1 ∧ e.2.2.length ≤ 65536) ∨ (e.2.1 = 2 ∧ e.2.2 = []) ∨ (e.2.1 = 3 ∧ 1 ≤ e.2.2.length ∧ e.2.2.length ≤ 4096))
/-- how many bytes -/
def szP (t : List Ent) : Nat := (t.map (fun e => e.2.2.length)).sum
/-- what stands at a path -/
def fdP (t : List Ent) (p : List UInt8) : Option Ent := t.find? (fun e => decide (e.1 = p))
/-- is it a directory? -/
def dirP (t : List Ent) (p : List UInt8) : Bool := decide (p = []) || (fdP t p).any (fun e => decide (e.2.1 = 2))
/-- one path ahead of another one -/
def ltP (a b : List UInt8) : Bool := decide (cmP a b < 0)
/-- what is wrong with an entry behind those -/
def entN (pre : List Ent) (e : Ent) : Int :=
  if mayP e = false then 50 else if ltP (pre.getLastD zE).1 e.1 = false then 51
  else if dirP pre (spD e.1) = false then 52 else if 1048576 < szP pre + e.2.2.length then 54 else 0
def entTo (t : List Ent) (k : Nat) : Prop := ∀ j, j < k → entN (t.take j) (t.getD j zE) = 0
/-- Check's answer -/
def chkP (t : List Ent) : Nat × Int := if 1024 < t.length then (1024, 53) else
  match (List.range t.length).find? (fun j => decide (entN (t.take j) (t.getD j zE) ≠ 0)) with
  | none => (0, 0)
  | some j => (j, entN (t.take j) (t.getD j zE))

theorem chkP_many {t : List Ent} (h : 1024 < t.length) : chkP t = (1024, 53) := by unfold chkP; rw [if_pos h]
theorem chkP_bad {t : List Ent} {k : Nat} (h0 : t.length ≤ 1024) (h : entTo t k) (hk : k < t.length) (hb : entN (t.take k) (t.getD k zE) ≠ 0) : chkP t = (k, entN (t.take k) (t.getD k zE)) := by
  have e : (List.range t.length).find? (fun j => decide (entN (t.take j) (t.getD j zE) ≠ 0)) = some k := by
    rw [List.find?_range_eq_some]
    refine ⟨by simpa using hb, by simpa using hk, fun j hj => ?_⟩
    have := h j hj
    simpa using this
  unfold chkP
  rw [if_neg (by omega), e]
theorem chkP_ok {t : List Ent} (h0 : t.length ≤ 1024) (h : entTo t t.length) : chkP t = (0, 0) := by
  have e : (List.range t.length).find? (fun j => decide (entN (t.take j) (t.getD j zE) ≠ 0)) = none := by
    rw [List.find?_eq_none]
    intro j hj
    rw [List.mem_range] at hj
    have := h j hj
    simpa using this
  unfold chkP
  rw [if_neg (by omega), e]
theorem chkP_iff {t : List Ent} : (chkP t).2 = 0 ↔ t.length ≤ 1024 ∧ entTo t t.length := by
  constructor
  · intro h
    by_cases h0 : 1024 < t.length
    · rw [chkP_many h0] at h; simp at h
    · refine ⟨by omega, ?_⟩
      intro j
      induction j using Nat.strongRecOn with
      | _ j ih =>
        intro hj
        by_cases hb : entN (t.take j) (t.getD j zE) = 0
        · exact hb
        · rw [chkP_bad (by omega) (fun i hi => ih i hi (by omega)) hj hb] at h
          exact absurd h hb
  · rintro ⟨h0, h⟩
    rw [chkP_ok h0 h]
theorem chkP_zero {t : List Ent} (h : (chkP t).2 = 0) : chkP t = (0, 0) := by
  obtain ⟨h0, h1⟩ := chkP_iff.1 h
  exact chkP_ok h0 h1

theorem mayP_ok {e : Ent} (h : mayP e = true) : okP e.1 = true := by
  unfold mayP at h
  simp only [Bool.and_eq_true] at h
  exact h.1.1
theorem mayP_ne {e : Ent} (h : mayP e = true) : e.1 ≠ [] := by
  unfold mayP at h
  simp only [Bool.and_eq_true, decide_eq_true_iff] at h
  exact h.1.2
theorem mayP_nms {e : Ent} (h : mayP e = true) : nms e.1 ≠ [] := by
  unfold nms
  rw [if_neg (mayP_ne h)]
  exact pcs_ne _
theorem nms_nil {p : List UInt8} : nms p = [] ↔ p = [] := by
  constructor
  · intro h
    have := txt_nms p
    rw [h] at this
    exact this.symm
  · rintro rfl; rfl
theorem nms_e : nms [] = [] := rfl
theorem nms_inj {a b : List UInt8} (h : nms a = nms b) : a = b := by rw [← txt_nms a, h, txt_nms]

/-- two entries, one ahead of the other -/
def ltE (a b : Ent) : Prop := cmpL (nms a.1) (nms b.1) < 0
theorem ltP_iff {a b : List UInt8} (ha : okP a = true) (hb : okP b = true) : ltP a b = true ↔ cmpL (nms a) (nms b) < 0 := by
  unfold ltP cmP
  rw [if_pos ⟨ha, hb⟩, decide_eq_true_iff]
theorem cmpL_lt_trans {a b c : List (List UInt8)} (h1 : cmpL a b < 0) (h2 : cmpL b c < 0) : cmpL a c < 0 := by
  have h := cmpL_trans a b c (by omega) (by omega)
  rcases cmpL_range a c with e | e | e
  · omega
  · have := cmpL_zero e
    subst this
    have := cmpL_anti a b
    omega
  · omega
theorem cmpL_nil {a : List (List UInt8)} (h : a ≠ []) : cmpL [] a = -1 := by
  cases a with
  | nil => exact absurd rfl h
  | cons x r => rfl
theorem ltE_trans {a b c : Ent} (h1 : ltE a b) (h2 : ltE b c) : ltE a c := cmpL_lt_trans h1 h2
theorem ltE_irrefl {a : Ent} : ¬ ltE a a := by
  unfold ltE
  rw [cmpL_self]
  omega
theorem ltE_ne {a b : Ent} (h : ltE a b) : a.1 ≠ b.1 := by
  intro e
  unfold ltE at h
  rw [e, cmpL_self] at h
  omega

/-- entries that rise, may be, and have their directories -/
structure Ris (t : List Ent) : Prop where
  may : ∀ e ∈ t, mayP e = true
  up : t.Pairwise ltE
  dir : ∀ e ∈ t, spD e.1 = [] ∨ ∃ d ∈ t, d.1 = spD e.1 ∧ d.2.1 = 2
/-- a right tree -/
structure Rgt (t : List Ent) : Prop extends Ris t where
  many : t.length ≤ 1024
  big : szP t ≤ 1048576

theorem pair_uniq : ∀ {t : List Ent}, t.Pairwise ltE → ∀ {a b : Ent}, a ∈ t → b ∈ t → a.1 = b.1 → a = b
  | [], _, _, _, h, _, _ => by cases h
  | x :: t, hp, a, b, ha, hb, e => by
    rw [List.pairwise_cons] at hp
    rw [List.mem_cons] at ha hb
    rcases ha with rfl | ha
    · rcases hb with rfl | hb
      · rfl
      · exact absurd e (ltE_ne (hp.1 b hb))
    · rcases hb with rfl | hb
      · exact absurd e.symm (ltE_ne (hp.1 a ha))
      · exact pair_uniq hp.2 ha hb e
theorem fdP_some {t : List Ent} {p : List UInt8} {e : Ent} (h : fdP t p = some e) : e ∈ t ∧ e.1 = p := by
  unfold fdP at h
  have h1 := List.mem_of_find?_eq_some h
  have h2 := List.find?_some h
  exact ⟨h1, by simpa using h2⟩
theorem fdP_none {t : List Ent} {p : List UInt8} : fdP t p = none ↔ ∀ e ∈ t, e.1 ≠ p := by
  unfold fdP
  rw [List.find?_eq_none]
  simp
theorem fdP_mem {t : List Ent} (h : t.Pairwise ltE) {e : Ent} (he : e ∈ t) : fdP t e.1 = some e := by
  cases hf : fdP t e.1 with
  | none => exact absurd rfl (fdP_none.1 hf e he)
  | some x =>
    obtain ⟨h1, h2⟩ := fdP_some hf
    rw [pair_uniq h h1 he h2]
theorem dirP_of {t : List Ent} (h : t.Pairwise ltE) {p : List UInt8} : dirP t p = true ↔ p = [] ∨ ∃ d ∈ t, d.1 = p ∧ d.2.1 = 2 := by
  unfold dirP
  rw [Bool.or_eq_true, decide_eq_true_iff]
  constructor
  · rintro (h1 | h1)
    · exact Or.inl h1
    · cases hf : fdP t p with
      | none => rw [hf] at h1; simp at h1
      | some x =>
        rw [hf] at h1
        simp at h1
        obtain ⟨h2, h3⟩ := fdP_some hf
        exact Or.inr ⟨x, h2, h3, h1⟩
  · rintro (h1 | ⟨d, h1, rfl, h3⟩)
    · exact Or.inl h1
    · rw [fdP_mem h h1]
      simp [h3]

theorem spD_nms {p : List UInt8} (h : okP p = true) : spD p = txt (nms p).dropLast := by unfold spD; rw [if_pos h]
theorem names_of {p : List UInt8} (h : okP p = true) : ∀ x ∈ nms p, nmP x = true := ((okP_iff p).1 h).1
theorem nms_spD {p : List UInt8} (h : okP p = true) : nms (spD p) = (nms p).dropLast := by
  rw [spD_nms h]
  exact nms_txt (fun x hx => names_of h x ((List.dropLast_sublist _).subset hx))
theorem okP_spD {p : List UInt8} (h : okP p = true) : okP (spD p) = true := by
  rw [okP_iff, nms_spD h]
  have hp := (okP_iff p).1 h
  exact ⟨fun x hx => hp.1 x ((List.dropLast_sublist _).subset hx), by have := hp.2; simp; omega⟩
theorem nms_last {p : List UInt8} (h : okP p = true) (h0 : p ≠ []) : ∃ x, nms p = nms (spD p) ++ [x] := by
  have hn : nms p ≠ [] := fun e => h0 (nms_nil.1 e)
  refine ⟨(nms p).getLast hn, ?_⟩
  rw [nms_spD h, List.dropLast_concat_getLast]
theorem nms_take {p : List UInt8} (h : okP p = true) (j : Nat) : nms (txt ((nms p).take j)) = (nms p).take j := nms_txt (fun x hx => names_of h x (List.mem_of_mem_take hx))

/-- what stands above an entry is a directory -/
theorem anc {t : List Ent} (h : Ris t) {e : Ent} (he : e ∈ t) : ∀ (n j : Nat), (nms e.1).length - j = n → j < (nms e.1).length → j = 0 ∨ ∃ d ∈ t, nms d.1 = (nms e.1).take j ∧ d.2.1 = 2
  | 0, j, h1, h2 => by omega
  | n + 1, j, h1, h2 => by
    have hok := mayP_ok (h.may e he)
    by_cases hj : j + 1 = (nms e.1).length
    · rcases h.dir e he with hd | ⟨d, hd1, hd2, hd3⟩
      · left
        have := nms_spD hok
        rw [hd, nms_e] at this
        have := congrArg List.length this
        rw [List.length_dropLast, List.length_nil] at this
        omega
      · refine Or.inr ⟨d, hd1, ?_, hd3⟩
        rw [hd2, nms_spD hok, List.dropLast_eq_take]
        congr 1
        omega
    · rcases anc h he n (j + 1) (by omega) (by omega) with h0 | ⟨d, hd1, hd2, hd3⟩
      · omega
      · have hok2 := mayP_ok (h.may d hd1)
        have e2 : nms (spD d.1) = (nms e.1).take j := by
          rw [nms_spD hok2, hd2, List.dropLast_eq_take, List.take_take]
          congr 1
          simp
          omega
        rcases h.dir d hd1 with hd | ⟨c, hc1, hc2, hc3⟩
        · left
          rw [hd, nms_e] at e2
          have := congrArg List.length e2
          rw [List.length_take, List.length_nil] at this
          omega
        · exact Or.inr ⟨c, hc1, by rw [hc2, e2], hc3⟩

end Go.Proofs.Yteijkbanlpodpaa

/- A right tree by its first wrong entry; the directories that are open. -/
namespace Go.Proofs.Yteijkbanlpodpaa

theorem lastD_snoc (pre : List Ent) (e : Ent) : (pre ++ [e]).getLastD zE = e := by simp
theorem snoc_cases (t : List Ent) : t = [] ∨ ∃ i e, t = i ++ [e] := by
  rcases List.eq_nil_or_concat t with h | ⟨i, e, h⟩
  · exact Or.inl h
  · exact Or.inr ⟨i, e, by simpa using h⟩
theorem szP_snoc (pre : List Ent) (e : Ent) : szP (pre ++ [e]) = szP pre + e.2.2.length := by simp [szP]
theorem szP_app (a b : List Ent) : szP (a ++ b) = szP a + szP b := by simp [szP]
theorem szP_take (t : List Ent) (k : Nat) : szP (t.take k) ≤ szP t := by
  conv => rhs; rw [← List.take_append_drop k t, szP_app]
  omega
theorem take_snoc (t : List Ent) (k : Nat) (hk : k < t.length) : t.take (k + 1) = t.take k ++ [t.getD k zE] := by
  rw [List.take_add_one, List.getD_eq_getElem?_getD, List.getElem?_eq_getElem hk]
  rfl
theorem ltE_last {pre : List Ent} (h : pre.Pairwise ltE) {a : Ent} (ha : a ∈ pre) : a = pre.getLastD zE ∨ ltE a (pre.getLastD zE) := by
  rcases snoc_cases pre with rfl | ⟨i, e, rfl⟩
  · cases ha
  · rw [lastD_snoc]
    rw [List.pairwise_append] at h
    rw [List.mem_append, List.mem_singleton] at ha
    rcases ha with ha | ha
    · exact Or.inr (h.2.2 a ha e (by simp))
    · exact Or.inl ha
theorem lastD_mem {pre : List Ent} (h : pre ≠ []) : pre.getLastD zE ∈ pre := by
  rcases snoc_cases pre with rfl | ⟨i, e, rfl⟩
  · exact absurd rfl h
  · rw [lastD_snoc]; simp
theorem last_ok {pre : List Ent} (h : ∀ e ∈ pre, mayP e = true) : okP (pre.getLastD zE).1 = true := by
  by_cases h0 : pre = []
  · subst h0; exact okP_nil
  · exact mayP_ok (h _ (lastD_mem h0))

theorem ris_snoc {pre : List Ent} {e : Ent} (h : Ris pre) (hm : mayP e = true) (hl : ltP (pre.getLastD zE).1 e.1 = true) (hd : dirP pre (spD e.1) = true) : Ris (pre ++ [e]) := by
  have hl := (ltP_iff (last_ok h.may) (mayP_ok hm)).1 hl
  refine ⟨?_, ?_, ?_⟩
  · intro x hx
    rw [List.mem_append, List.mem_singleton] at hx
    rcases hx with hx | rfl
    · exact h.may x hx
    · exact hm
  · rw [List.pairwise_append]
    refine ⟨h.up, List.pairwise_singleton _ _, fun a ha b hb => ?_⟩
    rw [List.mem_singleton] at hb
    subst hb
    rcases ltE_last h.up ha with e | e
    · rw [e]; exact hl
    · exact cmpL_lt_trans e hl
  · intro x hx
    rw [List.mem_append, List.mem_singleton] at hx
    rcases hx with hx | rfl
    · rcases h.dir x hx with h1 | ⟨d, h1, h2⟩
      · exact Or.inl h1
      · exact Or.inr ⟨d, by simp [h1], h2⟩
    · rcases (dirP_of h.up).1 hd with h1 | ⟨d, h1, h2⟩
      · exact Or.inl h1
      · exact Or.inr ⟨d, by simp [h1], h2⟩
theorem entN_zero {pre : List Ent} {e : Ent} (h : entN pre e = 0) : mayP e = true ∧ ltP (pre.getLastD zE).1 e.1 = true ∧ dirP pre (spD e.1) = true ∧ szP pre + e.2.2.length ≤ 1048576 := by
  unfold entN at h
  split at h
  · omega
  · split at h
    · omega
    · split at h
      · omega
      · split at h
        · omega
        · rename_i h1 h2 h3 h4
          exact ⟨by simpa using h1, by simpa using h2, by simpa using h3, by omega⟩
theorem entN_of {pre : List Ent} {e : Ent} (h1 : mayP e = true) (h2 : ltP (pre.getLastD zE).1 e.1 = true) (h3 : dirP pre (spD e.1) = true) (h4 : szP pre + e.2.2.length ≤ 1048576) : entN pre e = 0 := by
  unfold entN
  rw [h1, h2, h3, if_neg (by simp), if_neg (by simp), if_neg (by simp), if_neg (by omega)]
theorem entTo_ris {t : List Ent} : ∀ {k : Nat}, k ≤ t.length → entTo t k → Ris (t.take k) ∧ szP (t.take k) ≤ 1048576
  | 0, _, _ => by
    rw [List.take_zero]
    exact ⟨⟨fun e h => (by cases h), List.Pairwise.nil, fun e h => (by cases h)⟩, by simp [szP]⟩
  | k + 1, hk, h => by
    obtain ⟨h1, h2⟩ := entTo_ris (k := k) (by omega) (fun j hj => h j (by omega))
    obtain ⟨e1, e2, e3, e4⟩ := entN_zero (h k (by omega))
    rw [take_snoc t k (by omega)]
    exact ⟨ris_snoc h1 e1 e2 e3, by rw [szP_snoc]; exact e4⟩
theorem getD_mem {t : List Ent} {j : Nat} (hj : j < t.length) : t.getD j zE ∈ t := by
  rw [List.getD_eq_getElem?_getD, List.getElem?_eq_getElem hj]
  exact List.getElem_mem hj
theorem pair_at {t : List Ent} (h : t.Pairwise ltE) {i j : Nat} (hij : i < j) (hj : j < t.length) : ltE (t.getD i zE) (t.getD j zE) := by
  have := List.pairwise_iff_getElem.1 h i j (by omega) hj hij
  simpa [List.getD_eq_getElem?_getD, show i < t.length by omega, hj] using this
theorem lastD_take {t : List Ent} {j : Nat} (hj : j < t.length) : (t.take (j + 1)).getLastD zE = t.getD j zE := by
  rw [take_snoc t j hj, lastD_snoc]
theorem spD_lt {p : List UInt8} (h : okP p = true) (h0 : p ≠ []) : cmpL (nms (spD p)) (nms p) < 0 := by
  obtain ⟨x, e⟩ := nms_last h h0
  rw [e, cmpL_pre (by simp)]
  omega
theorem ris_ent {t : List Ent} (h : Ris t) (hs : szP t ≤ 1048576) : entTo t t.length := by
  intro j hj
  have hm := h.may _ (getD_mem hj)
  refine entN_of hm ?_ ?_ ?_
  · cases j with
    | zero =>
      show ltP [] _ = true
      rw [ltP_iff okP_nil (mayP_ok hm), nms_e, cmpL_nil (mayP_nms hm)]
      omega
    | succ i =>
      rw [lastD_take (by omega), ltP_iff (mayP_ok (h.may _ (getD_mem (by omega)))) (mayP_ok hm)]
      exact pair_at h.up (by omega) hj
  · have hp : (t.take j).Pairwise ltE := h.up.sublist (List.take_sublist _ _)
    rw [dirP_of hp]
    rcases h.dir _ (getD_mem hj) with h1 | ⟨d, h1, h2, h3⟩
    · exact Or.inl h1
    · refine Or.inr ⟨d, ?_, h2, h3⟩
      obtain ⟨i, hi, e⟩ := List.mem_iff_getElem.1 h1
      have hlt : cmpL (nms d.1) (nms (t.getD j zE).1) < 0 := by rw [h2]; exact spD_lt (mayP_ok hm) (mayP_ne hm)
      have hd : t.getD i zE = d := by simp [List.getD_eq_getElem?_getD, hi, e]
      have hij : i < j := by
        rcases Nat.lt_trichotomy i j with h4 | h4 | h4
        · exact h4
        · subst h4
          rw [hd, cmpL_self] at hlt
          omega
        · have := pair_at h.up h4 hi
          unfold ltE at this
          rw [hd] at this
          have := cmpL_anti (nms d.1) (nms (t.getD j zE).1)
          omega
      rw [List.mem_iff_getElem]
      exact ⟨i, by simp; omega, by rw [List.getElem_take]; exact e⟩
  · rw [← szP_snoc, ← take_snoc t j hj]
    exact Nat.le_trans (szP_take t _) hs
theorem rgt_iff {t : List Ent} : (chkP t).2 = 0 ↔ Rgt t := by
  rw [chkP_iff]
  constructor
  · rintro ⟨h1, h2⟩
    obtain ⟨h3, h4⟩ := entTo_ris (Nat.le_refl _) h2
    rw [List.take_length] at h3 h4
    exact ⟨h3, h1, h4⟩
  · intro h
    exact ⟨h.many, ris_ent h.toRis h.big⟩

/-- the directories on the way to names -/
def chn (n : List (List UInt8)) : List (List UInt8) := (List.range (n.length + 1)).map (fun j => txt (n.take j))
theorem chn_snoc (n : List (List UInt8)) (x : List UInt8) : chn (n ++ [x]) = chn n ++ [txt (n ++ [x])] := by
  unfold chn
  rw [List.length_append, List.length_singleton, List.range_succ, List.map_append]
  congr 1
  · apply List.map_congr_left
    intro j hj
    rw [List.mem_range] at hj
    rw [List.take_append_of_le_length (by omega)]
  · rw [List.map_singleton, List.take_of_length_le (by simp)]
theorem chn_len (n : List (List UInt8)) : (chn n).length = n.length + 1 := by simp [chn]
theorem chn_at (n : List (List UInt8)) (j : Nat) (hj : j < n.length + 1) : (chn n).getD j [] = txt (n.take j) := by
  simp [chn, List.getD_eq_getElem?_getD, hj]
/-- the directories that are open behind entries -/
def opn (pre : List Ent) : List (List UInt8) := if pre = [] then [[]] else if (pre.getLastD zE).2.1 = 2 then chn (nms (pre.getLastD zE).1) else chn (nms (pre.getLastD zE).1).dropLast
theorem chn_take {n : List (List UInt8)} {k : Nat} (hk : k ≤ n.length) : (chn n).take (k + 1) = chn (n.take k) := by
  unfold chn
  rw [← List.map_take, List.take_range, List.length_take]
  have e : min (k + 1) (n.length + 1) = min k n.length + 1 := by omega
  rw [e]
  apply List.map_congr_left
  intro j hj
  rw [List.mem_range] at hj
  rw [List.take_take]
  congr 2
  omega
theorem opn_names {pre : List Ent} (h : Ris pre) : ∃ n, opn pre = chn n ∧ (∀ x ∈ n, nmP x = true) ∧ n.length ≤ 32 ∧ ∀ j, j ≤ n.length → dirP pre (txt (n.take j)) = true := by
  unfold opn
  by_cases h0 : pre = []
  · subst h0
    refine ⟨[], rfl, fun x hx => (by cases hx), by simp, fun j _ => ?_⟩
    rw [List.take_nil]
    rfl
  · rw [if_neg h0]
    have hl := lastD_mem h0
    generalize pre.getLastD zE = e at *
    have hm := h.may e hl
    have hok := mayP_ok hm
    have hpl := (okP_iff e.1).1 hok
    have key : ∀ j, j < (nms e.1).length → dirP pre (txt ((nms e.1).take j)) = true := by
      intro j hj
      rw [dirP_of h.up]
      rcases anc h hl _ j rfl hj with h1 | ⟨d, h1, h2, h3⟩
      · subst h1; exact Or.inl rfl
      · exact Or.inr ⟨d, h1, by rw [← h2, txt_nms], h3⟩
    split
    · rename_i hk
      refine ⟨nms e.1, rfl, hpl.1, hpl.2, fun j hj => ?_⟩
      by_cases hj2 : j = (nms e.1).length
      · subst hj2
        rw [List.take_length, txt_nms, dirP_of h.up]
        exact Or.inr ⟨e, hl, rfl, hk⟩
      · exact key j (by omega)
    · refine ⟨(nms e.1).dropLast, rfl, fun x hx => hpl.1 x ((List.dropLast_sublist _).subset hx), by have := hpl.2; simp; omega, fun j hj => ?_⟩
      have hn := List.length_pos_iff.2 (mayP_nms hm)
      rw [List.length_dropLast] at hj
      rw [List.dropLast_eq_take, List.take_take, Nat.min_eq_left hj]
      exact key j (by omega)
/-- what is open where an entry's directory is met -/
theorem opn_hit {pre : List Ent} {e : Ent} (h : Ris pre) (hm : mayP e = true) {k : Nat} (hk : k < (opn pre).length) (hd : (opn pre).getD k [] = spD e.1) :
    dirP pre (spD e.1) = true ∧ opn (pre ++ [e]) = (opn pre).take (k + 1) ++ (if e.2.1 = 2 then [e.1] else []) := by
  obtain ⟨n, h1, h2, h3, h4⟩ := opn_names h
  rw [h1] at hk hd ⊢
  rw [chn_len] at hk
  rw [chn_at n k hk] at hd
  refine ⟨by rw [← hd]; exact h4 k (by omega), ?_⟩
  rw [chn_take (by omega)]
  have hok := mayP_ok hm
  obtain ⟨x, hx⟩ := nms_last hok (mayP_ne hm)
  have e1 : nms (spD e.1) = n.take k := by rw [← hd]; exact nms_txt (fun y hy => h2 y (List.mem_of_mem_take hy))
  rw [e1] at hx
  unfold opn
  rw [if_neg (by simp), lastD_snoc]
  split
  · rw [hx, chn_snoc, ← hx, txt_nms]
  · rw [hx, List.dropLast_concat, List.append_nil]
theorem opn_miss {pre : List Ent} {e : Ent} (h : Ris pre) (hm : mayP e = true) (hl : ltP (pre.getLastD zE).1 e.1 = true) (hn : spD e.1 ∉ opn pre) : dirP pre (spD e.1) = false := by
  rw [Bool.eq_false_iff]
  intro hd
  apply hn
  have hok := mayP_ok hm
  have hl := (ltP_iff (last_ok h.may) hok).1 hl
  have hin : ∀ (n : List (List UInt8)) (j : Nat), j ≤ n.length → spD e.1 = txt (n.take j) → spD e.1 ∈ chn n := by
    intro n j hj he
    unfold chn
    rw [List.mem_map]
    exact ⟨j, by rw [List.mem_range]; omega, he.symm⟩
  have hroot : spD e.1 = [] → spD e.1 ∈ opn pre := by
    intro h0
    unfold opn
    split
    · rw [h0]; simp
    · split
      · exact hin _ 0 (Nat.zero_le _) (by rw [h0]; rfl)
      · exact hin _ 0 (Nat.zero_le _) (by rw [h0]; rfl)
  rcases (dirP_of h.up).1 hd with h0 | ⟨d, h1, h2, h3⟩
  · exact hroot h0
  · have hne : pre ≠ [] := by rintro rfl; cases h1
    obtain ⟨x, hx⟩ := nms_last hok (mayP_ne hm)
    unfold opn
    rw [if_neg hne]
    rcases ltE_last h.up h1 with e1 | e1
    · rw [← e1, if_pos h3]
      refine hin _ (nms d.1).length (Nat.le_refl _) ?_
      rw [List.take_length, txt_nms, h2]
    · unfold ltE at e1
      rw [hx, ← h2] at hl
      obtain ⟨s, hs, e2⟩ := cmpL_between e1 hl
      have hsl := List.length_pos_iff.2 hs
      have e3 : (nms (pre.getLastD zE).1).take (nms d.1).length = nms d.1 := by rw [e2, List.take_left]
      have e4 : (nms (pre.getLastD zE).1).length = (nms d.1).length + s.length := by rw [e2, List.length_append]
      split
      · exact hin _ (nms d.1).length (by omega) (by rw [e3, txt_nms, h2])
      · refine hin _ (nms d.1).length (by rw [List.length_dropLast]; omega) ?_
        rw [List.dropLast_eq_take, List.take_take, Nat.min_eq_left (by omega), e3, txt_nms, h2]

end Go.Proofs.Yteijkbanlpodpaa

/- Slices of entries in memory, of one's own or wherever they lie. -/
namespace Go.Proofs.Yteijkbanlpodpaa
open Go.RowKit

def entV (e : Ent) : List Value := [.string (mk e.1), .int .i64 e.2.1, .string (mk e.2.2)]
def entA (e : Ent) : Value := .agg #[.string (mk e.1), .int .i64 e.2.1, .string (mk e.2.2)]
def entsV (es : List Ent) : List Value := es.flatMap entV
theorem entsV_cons (e : Ent) (es : List Ent) : entsV (e :: es) = entV e ++ entsV es := rfl
theorem entsV_app (a b : List Ent) : entsV (a ++ b) = entsV a ++ entsV b := by simp [entsV]
theorem entsV_length (es : List Ent) : (entsV es).length = es.length * 3 := by
  induction es with
  | nil => rfl
  | cons e es ih => rw [entsV_cons, List.length_append, ih, List.length_cons]; simp [entV]; omega
theorem entsV_one (es : List Ent) : ∀ u ∈ entsV es, u.oneCell' = true := by
  intro u hu
  simp only [entsV, List.mem_flatMap] at hu
  obtain ⟨e, _, hu⟩ := hu
  simp only [entV, List.mem_cons, List.not_mem_nil, or_false] at hu
  rcases hu with rfl | rfl | rfl <;> rfl
theorem entsV_take (es : List Ent) (n : Nat) : entsV (es.take n) = (entsV es).take (n * 3) := by
  induction es generalizing n with
  | nil => simp [entsV]
  | cons e es ih =>
    cases n with
    | zero => simp [entsV]
    | succ n =>
      rw [List.take_succ_cons, entsV_cons, entsV_cons, ih, List.take_append]
      have h3 : (entV e).length = 3 := rfl
      rw [List.take_of_length_le (i := (n + 1) * 3) (l := entV e) (by rw [h3]; omega), h3, show (n + 1) * 3 - 3 = n * 3 by omega]
theorem entsV_get (es : List Ent) (j : Nat) (hj : j < es.length) :
    (entsV es)[j * 3]? = some (.string (mk (es.getD j zE).1)) ∧ (entsV es)[j * 3 + 1]? = some (.int .i64 (es.getD j zE).2.1) ∧ (entsV es)[j * 3 + 2]? = some (.string (mk (es.getD j zE).2.2)) := by
  induction es generalizing j with
  | nil => simp at hj
  | cons e es ih =>
    cases j with
    | zero => simp [entsV_cons, entV]
    | succ j =>
      have hl : (entV e).length = 3 := rfl
      have := ih j (by simpa using hj)
      rw [entsV_cons, List.getElem?_append_right (by omega), List.getElem?_append_right (by omega), List.getElem?_append_right (by omega), hl]
      rw [show (j + 1) * 3 - 3 = j * 3 by omega, show (j + 1) * 3 + 1 - 3 = j * 3 + 1 by omega, show (j + 1) * 3 + 2 - 3 = j * 3 + 2 by omega]
      simpa using this
theorem entsV_inv {es : List Ent} {i : Nat} {u : Value} (h : (entsV es)[i]? = some u) : ∃ j, j < es.length ∧ ((i = j * 3 ∧ u = .string (mk (es.getD j zE).1)) ∨ (i = j * 3 + 1 ∧ u = .int .i64 (es.getD j zE).2.1) ∨ (i = j * 3 + 2 ∧ u = .string (mk (es.getD j zE).2.2))) := by
  have hi : i < es.length * 3 := by
    rw [← entsV_length]
    exact (List.getElem?_eq_some_iff.1 h).1
  have hj : i / 3 < es.length := by omega
  obtain ⟨h0, h1, h2⟩ := entsV_get es (i / 3) hj
  refine ⟨i / 3, hj, ?_⟩
  have hm : i = i / 3 * 3 ∨ i = i / 3 * 3 + 1 ∨ i = i / 3 * 3 + 2 := by omega
  rcases hm with e | e | e
  · rw [← e, h] at h0
    exact Or.inl ⟨e, Option.some.inj h0⟩
  · rw [← e, h] at h1
    exact Or.inr (Or.inl ⟨e, Option.some.inj h1⟩)
  · rw [← e, h] at h2
    exact Or.inr (Or.inr ⟨e, Option.some.inj h2⟩)

theorem Try.infoEnt : (Try.prog.info? 25).map (fun i => (i.zero, i.size, i.bytes)) = some (some (.agg #[.string ⟨#[]⟩, .int .i64 0, .string ⟨#[]⟩]), 3, 40) := by kernel_rfl

/-- the three cells of an entry -/
def EntAt (w : World) (g o : Nat) (e : Ent) : Prop := w.cell? ⟨g, o, none⟩ = some (.string (mk e.1)) ∧ w.cell? ⟨g, o + 1, none⟩ = some (.int .i64 e.2.1) ∧ w.cell? ⟨g, o + 2, none⟩ = some (.string (mk e.2.2))
/-- v is a slice that holds the entries es, wherever they lie -/
def Ents (w : World) (v : Value) (es : List Ent) : Prop :=
  (∃ ao c, v = .slice ao 0 c ∧ es = [] ∧ (ao = none → c = 0)) ∨ ∃ g o c, v = .slice (some ⟨g, o, none⟩) es.length c ∧ g < w.heap.size ∧ es.length ≤ c ∧ ∀ j, j < es.length → EntAt w g (o + j * 3) (es.getD j zE)
theorem EntAt.below {w w' : World} {g o n : Nat} {e : Ent} (h : EntAt w g o e) (hg : g < n) (hb : Below n w w') : EntAt w' g o e :=
  ⟨by rw [hb.cell (p := ⟨g, o, none⟩) hg]; exact h.1, by rw [hb.cell (p := ⟨g, o + 1, none⟩) hg]; exact h.2.1, by rw [hb.cell (p := ⟨g, o + 2, none⟩) hg]; exact h.2.2⟩
theorem Ents.below {w w' : World} {v : Value} {es : List Ent} (h : Ents w v es) (hb : Below w.heap.size w w') : Ents w' v es := by
  rcases h with h | ⟨g, o, c, hv, hlt, h1, hc⟩
  · exact Or.inl h
  · exact Or.inr ⟨g, o, c, hv, Nat.lt_of_lt_of_le hlt hb.size, h1, fun j hj => (hc j hj).below hlt hb⟩
theorem Ents.drew {w : World} {v : Value} {es : List Ent} (h : Ents w v es) (n : Nat) : Ents (w.drewN n) v es := h.below ⟨rfl, rfl, rfl, Nat.le_refl _, fun _ _ => rfl⟩
theorem Ents.alloc {w : World} {v : Value} {es : List Ent} (h : Ents w v es) (o : Obj) : Ents (w.alloc o) v es := h.below (below_walk w o)
theorem Ents.shape {w : World} {v : Value} {es : List Ent} (h : Ents w v es) : ∃ ao c, v = .slice ao es.length c := by
  rcases h with ⟨ao, c, hv, rfl, _⟩ | ⟨g, o, c, hv, _⟩
  · exact ⟨ao, c, hv⟩
  · exact ⟨_, _, hv⟩
theorem Ents.at {w : World} {ao : Option Addr} {n c : Nat} {es : List Ent} (h : Ents w (.slice ao n c) es) (k : Nat) (hk : k < es.length) :
    ∃ g o, ao = some ⟨g, o, none⟩ ∧ g < w.heap.size ∧ EntAt w g (o + k * 3) (es.getD k zE) := by
  rcases h with ⟨_, _, _, h0, _⟩ | ⟨g, o, c, hv, hlt, _, hc⟩
  · rw [h0] at hk; simp at hk
  · injection hv with h1 _ _
    exact ⟨g, o, h1, hlt, hc k hk⟩
theorem Ents.nil (w : World) : Ents w (.slice none 0 0) [] := Or.inl ⟨_, _, rfl, rfl, fun _ => rfl⟩
theorem Ents.len {w : World} {ao : Option Addr} {n c : Nat} {es : List Ent} (h : Ents w (.slice ao n c) es) : n = es.length := by
  obtain ⟨a, b, e⟩ := h.shape
  injection e
/-- one entry in a block of its own -/
theorem ents_one (w : World) (e : Ent) : Ents (w.alloc (.cells #[.string (mk e.1), .int .i64 e.2.1, .string (mk e.2.2)] 25)) (.slice (some ⟨w.heap.size, 0, none⟩) 1 1) [e] := by
  refine Or.inr ⟨w.heap.size, 0, 1, rfl, by simp, by simp, fun j hj => ?_⟩
  simp at hj
  subst hj
  exact ⟨by simp, by simp, by simp⟩

/-- v owns the entries es, in memory from block 'base' on -/
def OwnE (w : World) (base : Nat) (v : Value) (es : List Ent) : Prop := w.ownsRow base 25 3 v es.length (entsV es)
theorem OwnE.nil (w : World) (base : Nat) : OwnE w base (.slice none 0 0) [] := World.ownsRow_nil _ _ _ _
theorem OwnE.lt {w : World} {base : Nat} {v : Value} {es : List Ent} (h : OwnE w base v es) : ∀ k, v.ownBlock = some k → base ≤ k ∧ k < w.heap.size := World.ownsRow.lt h
theorem OwnE.kept {w w' : World} {base : Nat} {v : Value} {es : List Ent} {row : Option Nat} (h : OwnE w base v es) (hg : w.grownBy w' row) (hne : v.ownBlock = none ∨ v.ownBlock ≠ row) : OwnE w' base v es := World.ownsRow.kept h hg hne
theorem OwnE.below {w w' : World} {base : Nat} {v : Value} {es : List Ent} (h : OwnE w base v es) (hb : Below w.heap.size w w') : OwnE w' base v es :=
  World.ownsRow.kept h (below_gb hb none) (by cases e : v.ownBlock <;> simp)
theorem OwnE.le {w : World} {base base' : Nat} {v : Value} {es : List Ent} (h : OwnE w base v es) (hb : base' ≤ base) : OwnE w base' v es :=
  ⟨h.1, h.2.elim Or.inl (fun ⟨g, cap, cur, hv, hg, r⟩ => Or.inr ⟨g, cap, cur, hv, Nat.le_trans hb hg, r⟩)⟩
theorem OwnE.forms {w : World} {base : Nat} {v : Value} {es : List Ent} (h : OwnE w base v es) :
    (v = .slice none 0 0 ∧ es = []) ∨ ∃ g cap, v = .slice (some ⟨g, 0, none⟩) es.length cap ∧ base ≤ g ∧ g < w.heap.size ∧ es.length ≤ cap ∧ cap ≤ maxLen ∧ (∀ j, w.frozen? ⟨g, j, none⟩ = false) ∧ ∀ j, j < es.length → EntAt w g (j * 3) (es.getD j zE) := by
  have h' := h
  rcases h.2 with ⟨h0, h1⟩ | ⟨g, cap, cur, hv, hb, hh, h1, h2, _, _⟩
  · exact Or.inl ⟨h0, List.length_eq_zero_iff.1 h1⟩
  · refine Or.inr ⟨g, cap, hv, hb, ?_, h1, h2, ?_, ?_⟩
    · exact (World.ownsRow.lt h' g (by rw [hv]; rfl)).2
    · intro j; simp [World.frozen?, hh]
    · intro j hj
      obtain ⟨e0, e1, e2⟩ := entsV_get es j hj
      have c0 := World.ownsRow.cells h' (g := g) (by rw [hv]; rfl) _ _ e0
      have c1 := World.ownsRow.cells h' (g := g) (by rw [hv]; rfl) _ _ e1
      have c2 := World.ownsRow.cells h' (g := g) (by rw [hv]; rfl) _ _ e2
      rw [addr_add] at c0 c1 c2
      exact ⟨c0, c1, c2⟩
theorem OwnE.ents {w : World} {base : Nat} {v : Value} {es : List Ent} (h : OwnE w base v es) : Ents w v es := by
  rcases h.forms with ⟨rfl, rfl⟩ | ⟨g, cap, rfl, h1, h2, h3, h4, h5, h6⟩
  · exact Or.inl ⟨_, _, rfl, rfl, fun _ => rfl⟩
  · exact Or.inr ⟨g, 0, cap, rfl, h2, h3, fun j hj => by rw [Nat.zero_add]; exact h6 j hj⟩
/-- a row that was laid at once -/
theorem OwnE.made {w : World} {g base : Nat} {es : List Ent} (hb : w.heap[g]? = some (.cells (entsV es).toArray 25 (0, 0))) (hl : es.length ≤ 1099511627776) (hg : base ≤ g) (n : Nat) (hn : n = es.length) :
    OwnE w base (.slice (some ⟨g, 0, none⟩) n n) es := by
  subst hn
  refine ⟨by rw [entsV_length], Or.inr ⟨g, es.length, (entsV es).toArray, rfl, hg, hb, Nat.le_refl _, by unfold maxLen; omega, ?_, ?_⟩⟩
  · simp [entsV_length]
  · rw [← entsV_length es, List.take_length]

/-- append(own, entries...) -/
theorem app_ent {w : World} {ops : Array Oper} {rest : List Oper} {o : Oper} {a : Act} {Q : Exit → Act → World → Prop} (hgd : o.guard = none) (s x : Operand)
    (ho : o.op = .call { callee := .builtin .append, args := #[s, x], argTypes := #[22, 22] })
    (base : Nat) (v : Value) (ts : List Ent) (hs : a.eval s = v) (hown : OwnE w base v ts) (us : List Ent) (vx : Value) (hx : a.eval x = vx) (hc : Ents w vx us)
    (hlen : ts.length + us.length ≤ 3298534883328) (hbase : base ≤ w.heap.size)
    (h : ∀ v' w', OwnE w' base v' (ts ++ us) → w.grownBy w' v.ownBlock → (v'.ownBlock = v.ownBlock ∨ v'.ownBlock = some w.heap.size) → wpList Try.prog ops Q rest (a.put o.dst v') w') : wpList Try.prog ops Q (o :: rest) a w := by
  obtain ⟨i0, hi, hz0, hz1, hz2⟩ := info_parts Try.infoEnt
  have fin : ∀ (ad : Addr) (m c : Nat) (news : List Value), news = entsV us → vx = .slice (some ad) m c → m = us.length → (∀ j u, news[j]? = some u → w.cell? (ad.add j) = some u) → wpList Try.prog ops Q (o :: rest) a w := by
    intro ad m c news hn hv hm hcl
    subst hn hv hm
    refine wpList_plain hgd fun K hK => ?_
    have hl : (entsV us).length = us.length * 3 := entsV_length us
    obtain ⟨v', w', hr, h2, h3, _⟩ := run_append_own (P := Try.prog) w base 22 o.type 25 i0 (.agg #[.string ⟨#[]⟩, .int .i64 0, .string ⟨#[]⟩]) 3 40 Try.underlying22 hi hz0 hz1 hz2 rfl (by decide) v ts.length (entsV ts) hown ad us.length c (entsV us) hl hcl (entsV_one us) (by unfold maxLen; omega) (by omega) hbase
    have hp := app_place (P := Try.prog) w base 22 o.type 25 i0 (.agg #[.string ⟨#[]⟩, .int .i64 0, .string ⟨#[]⟩]) 3 40 Try.underlying22 hi hz0 hz1 hz2 v ts.length (entsV ts) hown ad us.length c (entsV us) hl hcl (entsV_one us) (by unfold maxLen; omega) (by omega) v' w' hr
    unfold Oper.wp execOp
    simp only [ho, resolve, invoke, builtin, Sem.run_bind, Sem.run_pure, Result.andThen_ok, List.map_toArray, List.map_cons, List.map_nil, hs, hx, hr]
    refine hK _ _ (h v' w' ?_ h3 hp)
    unfold OwnE
    rw [List.length_append, entsV_app]
    exact h2
  rcases hc with ⟨ao, c, rfl, rfl, h0⟩ | ⟨g, off, c, rfl, hlt, h1, h2⟩
  · cases ao with
    | none =>
      obtain rfl := h0 rfl
      refine wpList_append_own_none hgd s x 22 ho base 25 i0 3 Try.underlying22 hi v ts.length _ hs hown hx ?_
      exact h v w (by simpa using hown) (gb_refl _ _) (Or.inl rfl)
    | some ad => exact fin ad 0 c [] rfl rfl rfl (fun j u hj => by simp at hj)
  · refine fin ⟨g, off, none⟩ _ c _ rfl rfl rfl ?_
    intro i u hi
    obtain ⟨j, hj, h3⟩ := entsV_inv hi
    obtain ⟨c0, c1, c2⟩ := h2 j hj
    rw [show (⟨g, off, none⟩ : Addr).add i = ⟨g, off + i, none⟩ by by_cases h0 : i = 0 <;> simp [Addr.add, h0]]
    rcases h3 with ⟨rfl, rfl⟩ | ⟨rfl, rfl⟩ | ⟨rfl, rfl⟩
    · exact c0
    · rw [← Nat.add_assoc]; exact c1
    · rw [← Nat.add_assoc]; exact c2

end Go.Proofs.Yteijkbanlpodpaa

/- Slices of entries, cut. -/
namespace Go.Proofs.Yteijkbanlpodpaa
open Go.RowKit

theorem at_offE (g o j : Nat) : (⟨g, o, none⟩ : Addr).add j = ⟨g, o + j, none⟩ := by
  by_cases h0 : j = 0 <;> simp [Addr.add, h0]
theorem esl_to (ad : Addr) (n cap k : Nat) (hk : k ≤ cap) (W : World) : (Instr.slice 22 (.slice (some ad) n cap) none (some (.int .i64 (k : Int))) none).run Try.prog W = .ok (.slice (some ad) k cap) W := by
  have hk2 : (k : Int) ≤ (cap : Int) := by omega
  go_simp
/-- the first ones -/
theorem ecut_to {w : World} {v : Value} {ts : List Ent} (h : Ents w v ts) (k : Nat) (hk : k ≤ ts.length) :
    ∃ vx, Ents w vx (ts.take k) ∧ (∀ W, (Instr.slice 22 v none (some (.int .i64 (k : Int))) none).run Try.prog W = .ok vx W) := by
  rcases h with ⟨ao, c, rfl, rfl, h0⟩ | ⟨g, o, c, rfl, hlt, h1, hc⟩
  · simp at hk
    subst hk
    cases ao with
    | none =>
      obtain rfl := h0 rfl
      exact ⟨.slice none 0 0, Or.inl ⟨_, _, rfl, rfl, fun _ => rfl⟩, fun W => by go_simp⟩
    | some ad => exact ⟨.slice (some ad) 0 c, Or.inl ⟨_, _, rfl, rfl, fun e => by cases e⟩, fun W => esl_to ad 0 c 0 (Nat.zero_le _) W⟩
  · have hlen : (ts.take k).length = k := by simp; omega
    refine ⟨.slice (some ⟨g, o, none⟩) k c, Or.inr ⟨g, o, c, by rw [hlen], hlt, by omega, fun j hj => ?_⟩, fun W => esl_to _ _ c k (by omega) W⟩
    rw [hlen] at hj
    have := hc j (by omega)
    have e : (ts.take k).getD j zE = ts.getD j zE := by simp [List.getD_eq_getElem?_getD, hj]
    rw [e]
    exact this
/-- what comes behind the first ones -/
theorem ecut_from {w : World} {v : Value} {ts : List Ent} (h : Ents w v ts) (k : Nat) (hk : k ≤ ts.length) :
    ∃ vx, Ents w vx (ts.drop k) ∧ (∀ W, (Instr.slice 22 v (some (.int .i64 (k : Int))) none none).run Try.prog W = .ok vx W) := by
  rcases h with ⟨ao, c, rfl, rfl, h0⟩ | ⟨g, o, c, rfl, hlt, h1, hc⟩
  · simp at hk
    subst hk
    cases ao with
    | none =>
      obtain rfl := h0 rfl
      exact ⟨.slice none 0 0, Or.inl ⟨_, _, rfl, rfl, fun _ => rfl⟩, fun W => by go_simp⟩
    | some ad =>
      refine ⟨.slice (if c = 0 then some ad else some (ad.add 0)) 0 c, Or.inl ⟨_, _, rfl, rfl, fun e => ?_⟩, fun W => by go_simp⟩
      split at e <;> cases e
  · have hlen : (ts.drop k).length = ts.length - k := by simp
    have hk2 : (k : Int) ≤ (ts.length : Int) := by omega
    refine ⟨.slice (if c = k then some ⟨g, o, none⟩ else some ((⟨g, o, none⟩ : Addr).add (k * 3))) (ts.length - k) (c - k), ?_, fun W => by go_simp⟩
    by_cases hck : c = k
    · rw [if_pos hck]
      have e0 : ts.length - k = 0 := by omega
      refine Or.inl ⟨_, _, by rw [e0], ?_, fun e => by cases e⟩
      exact List.length_eq_zero_iff.1 (by rw [hlen]; exact e0)
    · rw [if_neg hck, at_offE]
      refine Or.inr ⟨g, o + k * 3, c - k, by rw [hlen], hlt, by rw [hlen]; omega, fun j hj => ?_⟩
      rw [hlen] at hj
      have := hc (k + j) (by omega)
      have e : (ts.drop k).getD j zE = ts.getD (k + j) zE := by simp [List.getD_eq_getElem?_getD]
      rw [e, show o + k * 3 + j * 3 = o + (k + j) * 3 by omega]
      exact this

end Go.Proofs.Yteijkbanlpodpaa

/- A region that draws its order, whose operations read, and whose callees may make memory: walked once. -/
namespace Go.Proofs.Yteijkbanlpodpaa
open Go.RowKit

/-- a world in which all that was there is as it was -/
structure Bel (w : World) where
  out : World
  bel : Below w.heap.size w out
theorem bel_some (w : World) : Nonempty (Bel w) := ⟨⟨w, Below.refl _ _⟩⟩
theorem wp_region_quiet_bel {P : Program} {id : Nat} {Q : Exit → Act → World → Prop} {a : Act} {w : World} {l : List Oper} (hm : P.follows .mixedOrders = true) (hB : Region.lexB .any l.toArray = true)
    (h : wpQuiet P l.toArray (fun w' => ∃ p : Bel w, w' = p.out) (fun a' => ∀ w', (∃ p : Bel w, w' = p.out) → Q .normal a' w') l a) : (Code.region id l.toArray true).wp P Q a w :=
  wp_region_quiet (C := fun w' => ∃ p : Bel w, w' = p.out) hm hB ⟨⟨{ w with drawn := w.drawn + 1 }, ⟨rfl, rfl, rfl, Nat.le_refl _, fun _ _ => rfl⟩⟩, rfl⟩ (by simpa using h)
theorem Bel.cell {w : World} (p : Bel w) {b o : Nat} {v : Value} (h : w.cell? ⟨b, o, none⟩ = some v) (hb : b < w.heap.size) : p.out.cell? ⟨b, o, none⟩ = some v := (p.bel.cell (p := ⟨b, o, none⟩) hb).trans h
/-- a callee's contract, met in a world of the class -/
theorem bel_of {P : Program} {f : FuncId} {args : Array Value} {w : World} {p : Bel w} {v : Value}
    (h : Calls P f args p.out fun e w' => e = .returned v ∧ Below p.out.heap.size p.out w') : Calls P f args p.out fun e w'' => e = .returned v ∧ ∃ p' : Bel w, w'' = p'.out :=
  h.mono fun _ w' ⟨he, hb⟩ => ⟨he, ⟨w', p.bel.trans (hb.mono p.bel.size)⟩, rfl⟩
theorem bel_drew {P : Program} {f : FuncId} {args : Array Value} {w : World} {p : Bel w} {v : Value}
    (h : Calls P f args p.out fun e w' => e = .returned v ∧ ∃ n, w' = p.out.drewN n) : Calls P f args p.out fun e w'' => e = .returned v ∧ ∃ p' : Bel w, w'' = p'.out :=
  h.mono fun _ w' ⟨he, n, hw⟩ => ⟨he, ⟨w', by rw [hw]; exact ⟨p.bel.os, p.bel.tape, p.bel.output, p.bel.size, p.bel.block⟩⟩, rfl⟩
theorem bel_same {P : Program} {f : FuncId} {args : Array Value} {w : World} {p : Bel w} {v : Value}
    (h : Calls P f args p.out fun e w' => e = .returned v ∧ w' = p.out) : Calls P f args p.out fun e w'' => e = .returned v ∧ ∃ p' : Bel w, w'' = p'.out :=
  h.mono fun _ _ ⟨he, hw⟩ => ⟨he, p, hw⟩

end Go.Proofs.Yteijkbanlpodpaa

/- Name of both sides: a text is a name, or it isn't. -/
namespace Go.Proofs.Yteijkbanlpodpaa
open Go.RowKit

theorem ret_b {a b : Bool} (h : a = true ↔ b = true) : Ending.returned (.bool a) = .returned (.bool b) := by rw [Bool.eq_iff_iff.2 h]
theorem ret_i {a b : Int} (h : a = b) : Ending.returned (.int .i64 a) = .returned (.int .i64 b) := by rw [h]

set_option maxHeartbeats 1000000 in
theorem nameByte_any (c : Int) (w : World) :
    Calls Try.prog 57 #[.int .u8 c] w fun e w' => e = .returned (.bool (nbI c)) ∧ w' = w := by
  go_enter Try.func57, Try.ntmps57
  go_wp2
  all_goals go_ret
  all_goals refine ⟨ret_b ?_, rfl⟩
  all_goals unfold nbI
  all_goals simp
  all_goals omega

/-- a text's byte -/
theorem bl_at (s : ByteArray) (k : Nat) (hk : k < (bl s).length) (W : World) : (Instr.index 9 (.string s) (.int .i64 (k : Int))).run Try.prog W = .ok (.int .u8 (((bl s).getD k 0).toNat : Nat)) W := by
  rw [bl_eq] at hk ⊢
  have hsz := Lib.size_eq s
  rw [run_index_string W 9 s .i64 _ Try.underlying9, dif_pos ⟨by omega, by omega⟩]
  congr 3
  simp only [Int.toNat_natCast, List.getD_eq_getElem?_getD, List.getElem?_eq_getElem hk, Option.getD_some]
  rfl

/-- Name's number -/
def nmN (l : List UInt8) : Int := if nmP l = true then 0 else 42
/-- how far the signs are right -/
def nbTo (l : List UInt8) (k : Nat) : Prop := ∀ j, j < k → nbI ((l.getD j 0).toNat : Nat) = true
theorem nbTo_all {l : List UInt8} (h : nbTo l l.length) : l.all (fun c => nbI c.toNat) = true := by
  rw [List.all_eq_true]
  intro c hc
  obtain ⟨j, hj, rfl⟩ := List.mem_iff_getElem.1 hc
  have := h j hj
  simpa [List.getD_eq_getElem?_getD, hj] using this
theorem nmN_bad1 {l : List UInt8} (h : ¬ (1 ≤ l.length ∧ l.length ≤ 64 ∧ l ≠ [46] ∧ l ≠ [46, 46])) : nmN l = 42 := by
  unfold nmN nmP
  rw [decide_eq_false h]; rfl
theorem nmN_bad2 {l : List UInt8} (k : Nat) (hk : k < l.length) (h : nbI ((l.getD k 0).toNat : Nat) = false) : nmN l = 42 := by
  unfold nmN
  rw [if_neg]
  intro e
  unfold nmP at e
  rw [Bool.and_eq_true, List.all_eq_true] at e
  have := e.2 (l[k]) (List.getElem_mem hk)
  simp [List.getD_eq_getElem?_getD, hk] at h
  rw [h] at this
  cases this
theorem nmN_ok {l : List UInt8} (h : 1 ≤ l.length ∧ l.length ≤ 64 ∧ l ≠ [46] ∧ l ≠ [46, 46]) (h2 : nbTo l l.length) : nmN l = 0 := by
  unfold nmN nmP
  rw [decide_eq_true h, nbTo_all h2]; rfl

set_option maxHeartbeats 1000000 in
theorem name_any (s : ByteArray) (w : World) :
    Calls Try.prog 37 #[.string s] w fun e w' => e = .returned (.int .i64 (nmN (bl s))) ∧ w' = w := by
  have HAT := hid (bl_at s)
  have hsz := bl_size s
  obtain ⟨l, hl⟩ : ∃ l, bl s = l := ⟨_, rfl⟩
  have hl' : s.toList = l := hl
  rw [hl] at hsz HAT ⊢
  by_cases hok : 1 ≤ l.length ∧ l.length ≤ 64 ∧ l ≠ [46] ∧ l ≠ [46, 46]
  · have HOK := hid hok
    obtain ⟨o1, o2, o3, o4⟩ := hok
    have p1 : ¬ (l.length : Int) < 1 := by omega
    have p2 : ¬ (64 : Int) < (l.length : Int) := by omega
    have HL := hid hl
    have b3 : (l == [46]) = false := by simp [o3]
    have b4 : (l == [46, 46]) = false := by simp [o4]
    clear hl
    go_enter Try.func37, Try.ntmps37
    go_wp2
    go_loop [22] (fun i => ∃ k : Nat, i = .int .i64 k ∧ k ≤ l.length ∧ nbTo l k) (fun i => l.length - (intOf i).toNat)
    case atStart => exact ⟨0, rfl, by omega, fun j hj => by omega⟩
    case round =>
      obtain ⟨k, rfl, hk, hto⟩ := hrel
      have HTO := hid hto
      clear hto
      by_cases hlt : k < l.length
      · have q1 : (k : Int) < (l.length : Int) := by omega
        have i1 := HAT.out k hlt
        obtain ⟨c, HC⟩ : ∃ c : UInt8, Hid (l.getD k 0 = c) := ⟨_, rfl⟩
        rw [HC.out] at i1
        go_wp2_with (go_at_call 57; refine (nameByte_any _ _).mono ?_; rintro e w' ⟨rfl, rfl⟩)
        · go_ret
          refine ⟨ret_i (nmN_bad2 k hlt ?_).symm, rfl⟩
          rw [HC.out]
          rename_i hb
          simpa using hb
        · rename_i hb
          refine ⟨⟨k + 1, by simp, by omega, fun j hj => ?_⟩, by simp [intOf]; omega⟩
          by_cases hjk : j = k
          · subst hjk; rw [HC.out]; simpa using hb
          · exact HTO.out j (by omega)
      · have q1 : ¬ (k : Int) < (l.length : Int) := by omega
        obtain rfl : k = l.length := by omega
        go_wp2
        go_ret
        exact ⟨ret_i (nmN_ok HOK.out HTO.out).symm, rfl⟩
  · have HB := hid (nmN_bad1 hok)
    have HOK := hid hok
    clear hok hl
    go_enter Try.func37, Try.ntmps37
    go_wp2
    all_goals first
      | (go_ret; exact ⟨ret_i HB.out.symm, rfl⟩)
      | (exfalso; refine HOK.out ?_; simp_all; done)
      | (exfalso; refine HOK.out ?_; simp_all; omega)

end Go.Proofs.Yteijkbanlpodpaa

/- strings.Cut, Split, HasPrefix at a slash; Join with slashes. -/
namespace Go.Proofs.Yteijkbanlpodpaa
open Go.RowKit

theorem idx_no : ∀ {l : List UInt8}, (47 : UInt8) ∉ l → Lib.indexByte l 47 = -1
  | [], _ => rfl
  | c :: r, h => by
    simp only [List.mem_cons, not_or] at h
    have e := idx_no h.2
    have hc : (c == 47) = false := by simp; exact fun e => h.1 e.symm
    simp [Lib.indexByte, hc, e]
theorem idx_yes : ∀ {a b : List UInt8}, (47 : UInt8) ∉ a → Lib.indexByte (a ++ 47 :: b) 47 = (a.length : Int)
  | [], b, _ => by simp [Lib.indexByte]
  | c :: r, b, h => by
    simp only [List.mem_cons, not_or] at h
    have e := idx_yes (b := b) h.2
    have hc : (c == 47) = false := by simp; exact fun e => h.1 e.symm
    simp only [List.cons_append, Lib.indexByte, hc, e, List.length_cons]
    have : ((r.length : Int) == -1) = false := by simp
    simp [this]
theorem slash_parts {l : List UInt8} (h : (47 : UInt8) ∈ l) : ∃ a b, l = a ++ 47 :: b ∧ (47 : UInt8) ∉ a := List.eq_append_cons_of_mem h

theorem split_pcs : ∀ (n : Nat) (l : List UInt8), l.length ≤ n → Lib.splitK [47] 0 (l.count 47) l = pcs l
  | 0, l, h => by
    obtain rfl : l = [] := List.length_eq_zero_iff.1 (by omega)
    rfl
  | n + 1, l, h => by
    by_cases hm : (47 : UInt8) ∈ l
    · obtain ⟨a, b, rfl, ha⟩ := slash_parts hm
      have hc : (a ++ 47 :: b).count 47 = b.count 47 + 1 := by
        rw [List.count_append, List.count_eq_zero.2 ha, List.count_cons_self]; omega
      rw [hc, Lib.splitK, Lib.index_one, idx_yes ha]
      have h0 : (((a.length : Int)) == -1) = false := by simp
      rw [h0]
      simp only [Bool.false_eq_true, if_false, Int.toNat_natCast, Nat.add_zero]
      rw [List.take_left, pcs_append, pcs_whole ha]
      have hd : (a ++ 47 :: b).drop (a.length + [(47 : UInt8)].length) = b := by
        rw [show a.length + [(47 : UInt8)].length = a.length + 1 from rfl, ← List.drop_drop, List.drop_left]; rfl
      rw [hd, split_pcs n b (by simp at h; omega)]
      rfl
    · rw [List.count_eq_zero.2 hm, pcs_whole hm]; rfl

theorem splitB_pcs (s : ByteArray) : (Lib.splitB ⟨#[47]⟩ 0 (Lib.countB s ⟨#[47]⟩) s).map Value.string = strV (pcs (bl s)) := by
  have e := Lib.splitB_data ⟨#[47]⟩ 0 (Lib.countB s ⟨#[47]⟩) s
  have hc : Lib.countB s ⟨#[47]⟩ = (bl s).count 47 := by rw [bl_eq]; exact Lib.count_one 47 _
  rw [hc] at e ⊢
  have e2 : Lib.splitK (⟨#[47]⟩ : ByteArray).data.toList 0 ((bl s).count 47) s.data.toList = pcs (bl s) := by
    show Lib.splitK [47] 0 _ s.data.toList = _
    rw [← bl_eq s]; exact split_pcs _ _ (Nat.le_refl _)
  rw [e2] at e
  unfold strV
  rw [← e, List.map_map]
  congr 1

theorem count_len (s : ByteArray) : Lib.countB s ⟨#[47]⟩ + 1 = (pcs (bl s)).length := by
  have e := congrArg List.length (splitB_pcs s)
  rw [List.length_map, strV_length] at e
  rw [← e]
  exact (Lib.splitB_all ⟨#[47]⟩ (by decide) 0 _ s rfl).symm

theorem Try.infoStr' : (Try.prog.info? 9).map (fun i => (i.zero, i.size, i.bytes)) = some (some (.string ByteArray.empty), 1, 16) := by kernel_rfl

set_option maxHeartbeats 1000000 in
theorem lcut_no (s : ByteArray) (w : World) (h : (47 : UInt8) ∉ bl s) :
    Calls Try.prog 56 #[.string s, .string ⟨#[47]⟩] w fun e w' => e = .returned (.tuple #[.string s, .string (mk []), .bool false]) ∧ w' = w := by
  have hi : Lib.indexByte s.data.toList 47 = -1 := by rw [← bl_eq]; exact idx_no h
  have HI := hid (Try.stringslite_Index_one s 47)
  rw [hi] at HI
  clear h hi
  go_enter Try.func56, Try.ntmps56
  go_wp2_with (go_at_call 74; refine (HI.out _).mono ?_; rintro e w' ⟨rfl, rfl⟩)
  go_ret3
  exact ⟨rfl, rfl⟩

set_option maxHeartbeats 1000000 in
theorem lcut_yes (s : ByteArray) (a b : List UInt8) (w : World) (h : bl s = a ++ 47 :: b) (ha : (47 : UInt8) ∉ a) (hs : (bl s).length ≤ 9223372036854775807) :
    Calls Try.prog 56 #[.string s, .string ⟨#[47]⟩] w fun e w' => e = .returned (.tuple #[.string (mk a), .string (mk b), .bool true]) ∧ ∃ n, w' = w.drewN n := by
  have hi : Lib.indexByte s.data.toList 47 = (a.length : Int) := by rw [← bl_eq, h]; exact idx_yes ha
  have HI := hid (Try.stringslite_Index_one s 47)
  rw [hi] at HI
  have hsz : s.size = a.length + 1 + b.length := by rw [bl_size, h]; simp; omega
  have e1 : s.extract 0 a.length = mk a := by rw [ext_bl, h]; simp
  have e2 : s.extract (a.length + 1) s.size = mk b := by
    rw [ext_bl, hsz, h, List.take_of_length_le (by simp; omega), ← List.drop_drop, List.drop_left]; rfl
  have HE1 := hid e1
  have HE2 := hid e2
  have HSZ := hid hsz
  rw [← bl_size] at hs
  have mixed : Try.prog.follows Departure.mixedOrders = true := by kernel_rfl
  have hw : IntKind.i64.wrap ((a.length : Int) + 1) = (a.length : Int) + 1 := by
    rw [IntKind.wrap_i64]; omega
  clear h hi e1 e2
  have c1 : (0 : Int) ≤ (a.length : Int) := by omega
  have c2 : (a.length : Int) ≤ (s.size : Int) := by omega
  have c3 : (0 : Int) ≤ (a.length : Int) + 1 := by omega
  have c4 : (a.length : Int) + 1 ≤ (s.size : Int) := by omega
  clear hsz
  go_enter Try.func56, Try.ntmps56
  go_wp2_with (go_at_call 74; refine (HI.out _).mono ?_; rintro e w' ⟨rfl, rfl⟩)
  go_region_o
  go_wp2
  go_ret3
  refine ⟨?_, 1, rfl⟩
  rw [← HE1.out, ← HE2.out]
  rfl

set_option maxHeartbeats 1000000 in
theorem cut_no (s : ByteArray) (w : World) (h : (47 : UInt8) ∉ bl s) :
    Calls Try.prog 36 #[.string s, .string ⟨#[47]⟩] w fun e w' => e = .returned (.tuple #[.string s, .string (mk []), .bool false]) ∧ w' = w := by
  have H := hid (lcut_no s · h)
  go_enter Try.func36, Try.ntmps36
  go_wp2_with (go_at_call 56; refine (H.out _).mono ?_; rintro e w' ⟨rfl, rfl⟩)
  go_ret3
  exact ⟨rfl, rfl⟩

set_option maxHeartbeats 1000000 in
theorem cut_yes (s : ByteArray) (a b : List UInt8) (w : World) (h : bl s = a ++ 47 :: b) (ha : (47 : UInt8) ∉ a) (hs : (bl s).length ≤ 9223372036854775807) :
    Calls Try.prog 36 #[.string s, .string ⟨#[47]⟩] w fun e w' => e = .returned (.tuple #[.string (mk a), .string (mk b), .bool true]) ∧ ∃ n, w' = w.drewN n := by
  have H := hid (lcut_yes s a b · h ha hs)
  clear h hs
  go_enter Try.func36, Try.ntmps36
  go_wp2_with (go_at_call 56; refine (H.out _).mono ?_; rintro e w' ⟨rfl, n, rfl⟩)
  go_ret3
  exact ⟨rfl, n, rfl⟩

/-- strings.HasPrefix -/
theorem pre_any (s p : ByteArray) (w : World) :
    Calls Try.prog 62 #[.string s, .string p] w fun e w' => e = .returned (.bool ((bl p).isPrefixOf (bl s))) ∧ w' = w := by
  rw [bl_eq, bl_eq]
  exact Try.strings_HasPrefix s p w

end Go.Proofs.Yteijkbanlpodpaa

/- Check, Names, the path of names. -/
namespace Go.Proofs.Yteijkbanlpodpaa
open Go.RowKit

theorem name_ok (s : ByteArray) (h : nmP (bl s) = true) (w : World) :
    Calls Try.prog 37 #[.string s] w fun e w' => e = .returned (.int .i64 0) ∧ w' = w := by
  have := name_any s w
  unfold nmN at this
  rw [if_pos h] at this
  exact this
theorem name_bad (s : ByteArray) (h : nmP (bl s) = false) (w : World) :
    Calls Try.prog 37 #[.string s] w fun e w' => e = .returned (.int .i64 42) ∧ w' = w := by
  have := name_any s w
  unfold nmN at this
  rw [if_neg (by rw [h]; decide)] at this
  exact this

/-- Check's number -/
def chN (l : List UInt8) : Int := if okP l = true then 0 else 45
theorem okP_pcs {l : List UInt8} (h : l ≠ []) : okP l = ((pcs l).all nmP && decide ((pcs l).length ≤ 32)) := by
  unfold okP nms
  rw [if_neg h]

set_option maxRecDepth 100000 in
set_option maxHeartbeats 1000000 in
theorem check_any (s : ByteArray) (w : World) (hs : (bl s).length ≤ 9223372036854775807) :
    Calls Try.prog 18 #[.string s] w fun e w' => e = .returned (.int .i64 (chN (bl s))) ∧ ∃ n, w' = w.drewN n := by
  by_cases h0 : bl s = []
  · have hl' : s.toList = [] := h0
    have HN := hid (show chN (bl s) = 0 by rw [h0]; rfl)
    clear h0 hs
    go_enter Try.func18, Try.ntmps18
    go_wp2
    go_ret
    exact ⟨ret_i HN.out.symm, 0, rfl⟩
  · have hl' : (s.toList == []) = false := by simp; exact h0
    have HK := hid (okP_pcs h0)
    have HS := hid hs
    obtain ⟨l, HL⟩ : ∃ l, Hid (bl s = l) := ⟨_, rfl⟩
    have hne : ¬ s.toList = [] := h0
    clear h0 hs
    go_enter Try.func18, Try.ntmps18
    go_wp2
    clear hl' hne
    go_loopw [0, 8] (fun v i wr => ∃ (k q : Nat) (x : ByteArray), k ≤ 32 ∧ v = .string x ∧ i = .int .i64 k ∧ wr = w.drewN q ∧ Hid ((bl x).length ≤ 9223372036854775807 ∧ okP (bl s) = ((pcs (bl x)).all nmP && decide ((pcs (bl x)).length ≤ 32 - k)))) (fun _ i _ => 32 - (intOf i).toNat)
    case atStart => exact ⟨0, 0, s, by omega, rfl, rfl, rfl, HS.out, HK.out⟩
    case round =>
      obtain ⟨k, q, x, hk, rfl, rfl, rfl, HI⟩ := hrel
      by_cases hlt : k < 32
      · have q1 : (k : Int) < 32 := by omega
        by_cases hm : (47 : UInt8) ∈ bl x
        · obtain ⟨a, b, hab, ha⟩ := slash_parts hm
          have HC := hid (cut_yes x a b · hab ha HI.out.1)
          have HB := hid (show b.length ≤ 9223372036854775807 by have := HI.out.1; rw [hab] at this; simp at this; omega)
          have HP := hid (show pcs (bl x) = a :: pcs b by rw [hab, pcs_append, pcs_whole ha]; rfl)
          clear hm hab ha
          cases hn : nmP a with
          | false =>
            have HNM := hid (name_bad (mk a) (by rw [bl_mk]; exact hn))
            have HR := hid (show chN (bl s) = 45 by unfold chN; rw [HI.out.2, HP.out, List.all_cons, hn]; rfl)
            clear hn
            go_wp2_with (first | (go_at_call 36; refine (HC.out _).mono ?_; rintro e w' ⟨rfl, n, rfl⟩) | (go_at_call 37; refine (HNM.out _).mono ?_; rintro e w' ⟨rfl, rfl⟩))
            go_ret
            exact ⟨ret_i HR.out.symm, q + n, by simp⟩
          | true =>
            have HNM := hid (name_ok (mk a) (by rw [bl_mk]; exact hn))
            have HR := hid (show okP (bl s) = ((pcs b).all nmP && decide ((pcs b).length ≤ 32 - (k + 1))) by
              rw [HI.out.2, HP.out, List.all_cons, hn, Bool.true_and, List.length_cons]
              congr 1
              rw [decide_eq_decide]
              omega)
            clear hn
            go_wp2_with (first | (go_at_call 36; refine (HC.out _).mono ?_; rintro e w' ⟨rfl, n, rfl⟩) | (go_at_call 37; refine (HNM.out _).mono ?_; rintro e w' ⟨rfl, rfl⟩))
            refine ⟨⟨k + 1, q + n, mk b, by omega, rfl, by simp, by simp, ?_⟩, by simp [intOf]; omega⟩
            rw [bl_mk]
            exact ⟨HB.out, HR.out⟩
        · have HC := hid (cut_no x · hm)
          have HP := hid (pcs_whole hm)
          clear hm
          cases hn : nmP (bl x) with
          | false =>
            have HNM := hid (name_bad x hn)
            have HR := hid (show chN (bl s) = 45 by unfold chN; rw [HI.out.2, HP.out, List.all_cons, hn]; rfl)
            clear hn
            go_wp2_with (first | (go_at_call 36; refine (HC.out _).mono ?_; rintro e w' ⟨rfl, rfl⟩) | (go_at_call 37; refine (HNM.out _).mono ?_; rintro e w' ⟨rfl, rfl⟩))
            go_ret
            exact ⟨ret_i HR.out.symm, q, rfl⟩
          | true =>
            have HNM := hid (name_ok x hn)
            have HR := hid (show chN (bl s) = 0 by
              unfold chN
              rw [HI.out.2, HP.out, List.all_cons, hn, Bool.true_and, List.all_nil, Bool.true_and, List.length_singleton, decide_eq_true (by omega), if_pos rfl])
            clear hn
            go_wp2_with (first | (go_at_call 36; refine (HC.out _).mono ?_; rintro e w' ⟨rfl, rfl⟩) | (go_at_call 37; refine (HNM.out _).mono ?_; rintro e w' ⟨rfl, rfl⟩))
            go_ret
            exact ⟨ret_i HR.out.symm, q, rfl⟩
      · have q1 : ¬ (k : Int) < 32 := by omega
        have HR := hid (show chN (bl s) = 45 by
          have hp : 0 < (pcs (bl x)).length := List.length_pos_iff.2 (pcs_ne _)
          unfold chN
          rw [HI.out.2, decide_eq_false (by omega), Bool.and_false]; rfl)
        go_wp2
        go_ret
        exact ⟨ret_i HR.out.symm, q, rfl⟩

/-- a path is short -/
theorem lens_pcs : ∀ (l : List (List UInt8)), (∀ p ∈ l, nmP p = true) → (txt l).length ≤ 65 * l.length
  | [], _ => by simp [txt]
  | [x], h => by
    have := nmP_len (h x (by simp))
    rw [txt_one]; simp only [List.length_singleton]; omega
  | x :: y :: r, h => by
    have h1 := nmP_len (h x (by simp))
    have h2 := lens_pcs (y :: r) (fun p hp => h p (List.mem_cons_of_mem _ hp))
    rw [txt_two]; simp only [List.length_append, List.length_cons] at *; omega
theorem okP_short {s : List UInt8} (h : okP s = true) : s.length ≤ 2080 := by
  have hp := (okP_iff s).1 h
  have := lens_pcs (nms s) hp.1
  rw [txt_nms] at this
  have := hp.2
  omega

end Go.Proofs.Yteijkbanlpodpaa

/- A written path is walked: step, walk, Join, Clean. -/
namespace Go.Proofs.Yteijkbanlpodpaa
open Go.RowKit

theorem OwnS.alloc {w : World} {base : Nat} {v : Value} {ts : List (List UInt8)} (h : OwnS w base v ts) (o : Obj) : OwnS (w.alloc o) base v ts := World.ownsRow.alloc h o
theorem OwnS.drewN {w : World} {base : Nat} {v : Value} {ts : List (List UInt8)} (h : OwnS w base v ts) (n : Nat) : OwnS (w.drewN n) base v ts := h
theorem own_below {w w' : World} {base : Nat} {v : Value} {ts : List (List UInt8)} (h : OwnS w base v ts) (hb : base ≤ w.heap.size) (hg : w.grownBy w' v.ownBlock) : Below base w w' :=
  ⟨hg.os, hg.tape, hg.output, hg.size, fun k hk => hg.block k (by omega) (fun e => by have := (h.lt k e.symm).1; omega)⟩
theorem below_le {w w' : World} {a b : Nat} (h : Below a w w') (hb : b ≤ a) : Below b w w' := ⟨h.os, h.tape, h.output, h.size, fun k hk => h.block k (by omega)⟩
theorem below_tr {w w' w'' : World} {a : Nat} (h : Below a w w') (k : Below a w' w'') : Below a w w'' :=
  ⟨k.os.trans h.os, k.tape.trans h.tape, k.output.trans h.output, Nat.le_trans h.size k.size, fun i hi => (k.block i hi).trans (h.block i hi)⟩
/-- one text, laid as a slice -/
theorem strs_one (w : World) (p : ByteArray) : Strs (w.alloc (.cells #[.string p] 9)) (.slice (some ⟨w.heap.size, 0, none⟩) 1 1) [bl p] := by
  refine Or.inr ⟨w.heap.size, 0, 1, rfl, by simp, Nat.le_refl _, fun j hj => ?_⟩
  match j, hj with
  | 0, _ => simp [mk_bl]

theorem bl_ne {p : ByteArray} {l : List UInt8} (h : bl p ≠ l) : (p.toList == l) = false := by
  simp; exact h

/-- behind a step: the names, which blocks were written, where they lie -/
structure Stp (w : World) (base : Nat) (v : Value) (w' : World) (v' : Value) (m : List (List UInt8)) : Prop where
  own : OwnS w' base v' m
  gr : w.grownBy w' v.ownBlock
  pl : v'.ownBlock = v.ownBlock ∨ ∃ j, v'.ownBlock = some j ∧ w.heap.size ≤ j
/-- what a walk says -/
def StepPost (R : Except Int (List (List UInt8))) (w : World) (base : Nat) (v : Value) (e : Ending) (w' : World) : Prop :=
  (∃ m v', R = .ok m ∧ e = .returned (.tuple #[v', .int .i64 0]) ∧ Stp w base v w' v' m) ∨ (∃ x, R = .error x ∧ e = .returned (.tuple #[.slice none 0 0, .int .i64 x]) ∧ w' = w)
def WalkPost (R : Except Int (List (List UInt8))) (w : World) (base : Nat) (e : Ending) (w' : World) : Prop :=
  (∃ m v', R = .ok m ∧ e = .returned (.tuple #[v', .int .i64 0]) ∧ OwnS w' base v' m ∧ Below base w w') ∨ (∃ x, R = .error x ∧ e = .returned (.tuple #[.slice none 0 0, .int .i64 x]) ∧ Below base w w')

theorem stepP_len {l m : List (List UInt8)} {p : List UInt8} (h : stepP l p = .ok m) : m.length ≤ l.length + 1 := by
  unfold stepP at h
  repeat' split at h
  all_goals first | (cases h; done) | (cases h; simp; done) | (cases h; simp; omega)
theorem pcs_len (l : List UInt8) : (pcs l).length ≤ l.length + 1 := by
  induction l with
  | nil => simp [pcs]
  | cons c r ih =>
    by_cases h : c = 47
    · subst h; rw [pcs_slash]; simp; omega
    · obtain ⟨x, t, e1, e2⟩ := pcs_cons c r h
      rw [e2]; rw [e1] at ih; simp at *; omega
theorem drop_cons {l : List (List UInt8)} {k : Nat} (h : k < l.length) : l.drop k = l.getD k [] :: l.drop (k + 1) := by
  rw [List.drop_eq_getElem_cons h]
  simp [List.getD_eq_getElem?_getD, h]

end Go.Proofs.Yteijkbanlpodpaa

/- Join and Clean; what must come, whatever else is so. -/
namespace Go.Proofs.Yteijkbanlpodpaa
open Go.RowKit

theorem ret_si {a b : List UInt8} {x y : Int} (h : a = b) (k : x = y) : Ending.returned (.tuple #[.string (mk a), .int .i64 x]) = .returned (.tuple #[.string (mk b), .int .i64 y]) := by rw [h, k]

/-- how Join stands ahead of a round -/
def Jst (w : World) (b : List UInt8) (more : List (List UInt8)) (k : Nat) (x : Value) (e : Value) (wr : World) : Prop :=
  (∃ m, e = .int .i64 0 ∧ OwnS wr w.heap.size x m ∧ walksP m (more.drop k) = walksP (nms b) more ∧ m.length ≤ 32 + 4097 * k ∧ (∀ p ∈ m, nmP p = true)) ∨
  (∃ er : Int, er ≠ 0 ∧ e = .int .i64 er ∧ walksP (nms b) more = .error er ∧ x = .slice none 0 0)

theorem stepsP_len : ∀ {r l m : List (List UInt8)}, stepsP l r = .ok m → m.length ≤ l.length + r.length
  | [], l, m, h => by cases h; simp
  | p :: r, l, m, h => by
    unfold stepsP at h
    split at h
    · rename_i k hk
      have h1 := stepP_len hk
      have h2 := stepsP_len h
      simp; omega
    · cases h
theorem walkP_len {l m : List (List UInt8)} {s : List UInt8} (h : walkP l s = .ok m) : m.length ≤ l.length + 4097 := by
  unfold walkP at h
  split at h
  · cases h
  · split at h
    · cases h
    · have h1 := stepsP_len h
      have h2 := pcs_len s
      omega

theorem check_is (s : ByteArray) (x : Int) (h : chN (bl s) = x) (hs : (bl s).length ≤ 9223372036854775807) (w : World) :
    Calls Try.prog 18 #[.string s] w fun e w' => e = .returned (.int .i64 x) ∧ ∃ n, w' = w.drewN n := h ▸ check_any s w hs

theorem strs_two (w : World) (p q : ByteArray) : Strs (w.alloc (.cells #[.string p, .string q] 9)) (.slice (some ⟨w.heap.size, 0, none⟩) 2 2) [bl p, bl q] := by
  refine Or.inr ⟨w.heap.size, 0, 2, rfl, by simp, Nat.le_refl _, fun j hj => ?_⟩
  match j, hj with
  | 0, _ => simp [mk_bl]
  | 1, _ => simp [mk_bl]
theorem below_d {w w2 : World} {n : Nat} (h : Below (w.drewN n).heap.size (w.drewN n) w2) : Below w.heap.size w w2 := ⟨h.os, h.tape, h.output, h.size, h.block⟩
theorem mk_add (l m : List UInt8) : mk l ++ mk m = mk (l ++ m) := by
  apply Go.WideShapes.bytes_inj
  simp [mk, ByteArray.data_append]
theorem str_add (l m : List UInt8) (h : l.length + m.length ≤ 9223372036854775807) (W : World) : (Op.stringOp .add (mk l) (mk m)).run Try.prog W = .ok (.string (mk (l ++ m))) W := by
  have hs : ¬ ((((mk l).size + (mk m).size : Nat) : Int) > IntKind.i64.max) := by
    rw [mk_size, mk_size, show IntKind.i64.max = 9223372036854775807 from rfl]
    omega
  simp only [Op.stringOp]
  rw [if_neg hs, mk_add]
  rfl

end Go.Proofs.Yteijkbanlpodpaa

/- Above: which of two paths is above the other. -/
namespace Go.Proofs.Yteijkbanlpodpaa
open Go.RowKit

def okTo (ts : List (List UInt8)) (k : Nat) : Prop := ∀ j, j < k → okP (ts.getD j []) = true
theorem okTo_all {ts : List (List UInt8)} (h : okTo ts ts.length) : caN ts = 0 := by
  unfold caN
  rw [if_pos]
  rw [List.all_eq_true]
  intro p hp
  obtain ⟨j, hj, rfl⟩ := List.mem_iff_getElem.1 hp
  have := h j hj
  simpa [List.getD_eq_getElem?_getD, hj] using this
theorem okTo_next {ts : List (List UInt8)} {k : Nat} (h : okTo ts k) (hn : okP (ts.getD k []) = true) : okTo ts (k + 1) := by
  intro j hj
  by_cases hjk : j = k
  · subst hjk; exact hn
  · exact h j (by omega)
theorem caN_bad {ts : List (List UInt8)} {k : Nat} (hk : k < ts.length) (hn : okP (ts.getD k []) = false) : caN ts = 45 := by
  unfold caN
  rw [if_neg]
  intro e
  have := List.all_eq_true.1 e (ts[k]) (List.getElem_mem hk)
  simp [List.getD_eq_getElem?_getD, hk] at hn
  rw [hn] at this
  cases this

set_option maxRecDepth 100000 in
set_option maxHeartbeats 1000000 in
theorem checkAll_any (v : Value) (ts : List (List UInt8)) (w : World) (h : Strs w v ts) (hb : ∀ t ∈ ts, t.length ≤ 9223372036854775807) (hn : ts.length ≤ 9223372036854775806) :
    Calls Try.prog 69 #[v] w fun e w' => e = .returned (.int .i64 (caN ts)) ∧ ∃ n, w' = w.drewN n := by
  obtain ⟨ao, c, rfl⟩ := h.shape
  have HS := hid h
  have HB := hid hb
  clear h hb
  go_enter Try.func69, Try.ntmps69
  go_wp2
  go_loopw [8] (fun i wr => ∃ k q : Nat, k ≤ ts.length ∧ i = .int .i64 k ∧ wr = w.drewN q ∧ okTo ts k) (fun i _ => ts.length - (intOf i).toNat)
  case atStart => exact ⟨0, 0, by omega, rfl, rfl, fun j hj => by omega⟩
  case round =>
    obtain ⟨k, q, hk, rfl, rfl, hto⟩ := hrel
    have HTO := hid hto
    clear hto
    by_cases hlt : k < ts.length
    · have q1 : (k : Int) < (ts.length : Int) := by omega
      obtain ⟨g, o, rfl, hc⟩ := HS.out.at k hlt
      have hbk : (ts.getD k []).length ≤ 9223372036854775807 := HB.out _ (by rw [List.getD_eq_getElem?_getD, List.getElem?_eq_getElem hlt]; exact List.getElem_mem hlt)
      cases hok : okP (ts.getD k []) with
      | true =>
        have HC := hid (check_is (mk (ts.getD k [])) 0 (by rw [bl_mk]; unfold chN; rw [hok]; rfl) (by rw [bl_mk]; exact hbk))
        have HX := hid (okTo_next HTO.out hok)
        clear hok hbk
        generalize mk (ts.getD k []) = x at *
        go_wp2_with (go_at_call 18; refine (HC.out _).mono ?_; rintro e w' ⟨rfl, n, rfl⟩)
        exact ⟨⟨k + 1, q + n, by omega, by simp, by simp, HX.out⟩, by simp [intOf]; omega⟩
      | false =>
        have HC := hid (check_is (mk (ts.getD k [])) 45 (by rw [bl_mk]; unfold chN; rw [hok]; rfl) (by rw [bl_mk]; exact hbk))
        have HX := hid (caN_bad hlt hok)
        clear hok hbk
        generalize mk (ts.getD k []) = x at *
        go_wp2_with (go_at_call 18; refine (HC.out _).mono ?_; rintro e w' ⟨rfl, n, rfl⟩)
        go_ret
        exact ⟨ret_i HX.out.symm, q + n, by simp⟩
    · have q1 : ¬ (k : Int) < (ts.length : Int) := by omega
      obtain rfl : k = ts.length := by omega
      go_wp2
      go_ret
      exact ⟨ret_i (okTo_all HTO.out).symm, q, rfl⟩

theorem caN_two (a b : List UInt8) : caN [a, b] = pN a b := by
  unfold caN pN
  simp
/-- both are paths: the two of them are looked at -/
theorem checkTwo (a b : ByteArray) (w : World) (ha : (bl a).length ≤ 9223372036854775807) (hb : (bl b).length ≤ 9223372036854775807) (x : Int) (hx : pN (bl a) (bl b) = x) :
    Calls Try.prog 69 #[.slice (some ⟨w.heap.size, 0, none⟩) 2 2] (w.alloc (.cells #[.string a, .string b] 9)) fun e w' => e = .returned (.int .i64 x) ∧ ∃ n, w' = (w.alloc (.cells #[.string a, .string b] 9)).drewN n := by
  rw [← hx, ← caN_two]
  exact checkAll_any _ [bl a, bl b] _ (strs_two w a b) (fun t ht => by simp at ht; rcases ht with rfl | rfl <;> assumption) (by simp)

theorem ret_bi {a b : Bool} {x y : Int} (h : a = b) (k : x = y) : Ending.returned (.tuple #[.bool a, .int .i64 x]) = .returned (.tuple #[.bool b, .int .i64 y]) := by rw [h, k]

end Go.Proofs.Yteijkbanlpodpaa

/- Split: a path's directory and its last name. -/
namespace Go.Proofs.Yteijkbanlpodpaa
open Go.RowKit

/-- a text's byte as the library tells it -/
theorem data_at (s : ByteArray) (j : Nat) (hj : j < s.size) : s.data[j]! = (bl s).getD j 0 := by
  rw [bl_eq]
  have h : j < s.data.size := hj
  rw [getElem!_pos s.data j h]
  simp [List.getD_eq_getElem?_getD]
  rw [Array.getElem?_eq_getElem h]
  rfl

theorem last_slash (s : ByteArray) : (Lib.lastIndexByte s 47 = -1 ∧ (47 : UInt8) ∉ bl s) ∨ ∃ a b, bl s = a ++ 47 :: b ∧ (47 : UInt8) ∉ b ∧ Lib.lastIndexByte s 47 = (a.length : Int) := by
  have hsz := bl_size s
  have conv : ∀ c : UInt8, (c.toNat : Int) = 47 → c = 47 := fun c h => UInt8.toNat_inj.1 (by rw [show (47 : UInt8).toNat = 47 from rfl]; omega)
  rcases Lib.lastIndexByte_spec s 47 with ⟨h1, h2⟩ | ⟨i, h1, h2, h3, h4⟩
  · refine Or.inl ⟨h1, fun hm => ?_⟩
    obtain ⟨j, hj, e⟩ := List.mem_iff_getElem.1 hm
    have := h2 j (by omega)
    rw [data_at s j (by omega)] at this
    simp [List.getD_eq_getElem?_getD, hj, e] at this
  · have hi : i < (bl s).length := by omega
    rw [data_at s i h1] at h3
    have e47 := conv _ h3
    refine Or.inr ⟨(bl s).take i, (bl s).drop (i + 1), ?_, fun hm => ?_, ?_⟩
    · rw [← e47]
      have e : (bl s).getD i 0 :: (bl s).drop (i + 1) = (bl s).drop i := by
        rw [List.drop_eq_getElem_cons hi]
        simp [List.getD_eq_getElem?_getD, hi]
      rw [e, List.take_append_drop]
    · obtain ⟨j, hj, e⟩ := List.mem_iff_getElem.1 hm
      simp at hj
      have := h4 (i + 1 + j) (by omega) (by omega)
      rw [data_at s (i + 1 + j) (by omega)] at this
      rw [List.getElem_drop] at e
      simp [List.getD_eq_getElem?_getD, show i + 1 + j < (bl s).length by omega, e] at this
    · rw [h2, List.length_take]
      congr 1
      omega

theorem ret_ssi {a b c d : List UInt8} {x y : Int} (h : a = b) (g : c = d) (k : x = y) : Ending.returned (.tuple #[.string (mk a), .string (mk c), .int .i64 x]) = .returned (.tuple #[.string (mk b), .string (mk d), .int .i64 y]) := by rw [h, g, k]

set_option maxRecDepth 100000 in
set_option maxHeartbeats 1000000 in
theorem psplit_any (s : ByteArray) (w : World) (hs : (bl s).length ≤ 9223372036854775807) :
    Calls Try.prog 42 #[.string s] w fun e w' => e = .returned (.tuple #[.string (mk (spD (bl s))), .string (mk (spN (bl s))), .int .i64 (spE (bl s))]) ∧ ∃ n, w' = w.drewN n := by
  cases hok : okP (bl s) with
  | false =>
    have HC := hid (check_is s 45 (by unfold chN; rw [hok]; rfl) hs)
    have HD := hid (show spD (bl s) = [] by unfold spD; rw [hok]; rfl)
    have HN := hid (show spN (bl s) = [] by unfold spN; rw [hok]; rfl)
    have HE := hid (show spE (bl s) = 45 by unfold spE; rw [hok]; rfl)
    clear hok hs
    go_enter Try.func42, Try.ntmps42
    go_wp2_with (go_at_call 18; refine (HC.out _).mono ?_; rintro e w' ⟨rfl, n, rfl⟩)
    go_ret3
    exact ⟨ret_ssi HD.out.symm HN.out.symm HE.out.symm, n, rfl⟩
  | true =>
    have HC := hid (check_is s 0 (by unfold chN; rw [hok]; rfl) hs)
    have hsh := okP_short hok
    by_cases h0 : bl s = []
    · have e1 : s.toList = [] := h0
      have HD := hid (show spD (bl s) = [] by rw [h0]; rfl)
      have HN := hid (show spN (bl s) = [] by rw [h0]; rfl)
      have HE := hid (show spE (bl s) = 46 by rw [h0]; rfl)
      clear hok hs h0 hsh
      go_enter Try.func42, Try.ntmps42
      go_wp2_with (go_at_call 18; refine (HC.out _).mono ?_; rintro e w' ⟨rfl, n, rfl⟩)
      go_ret3
      exact ⟨ret_ssi HD.out.symm HN.out.symm HE.out.symm, n, rfl⟩
    · have e1 : s.toList.isEmpty = false := by simp; exact h0
      have hnm : nms (bl s) = pcs (bl s) := by unfold nms; rw [if_neg h0]
      have HE := hid (show spE (bl s) = 0 by unfold spE; rw [hok, if_pos rfl, if_neg h0])
      have hlt := Try.strings_LastIndex_one s ⟨#[47]⟩ rfl (by rw [bl_size]; omega)
      have HL : Hid (∀ W, Calls Try.prog 63 #[.string s, .string ⟨#[47]⟩] W fun e w' => e = .returned (.int .i64 (Lib.lastIndexByte s 47)) ∧ w' = W) := hlt
      clear hlt
      rcases last_slash s with ⟨h1, h2⟩ | ⟨a, b, h1, h2, h3⟩
      · rw [h1] at HL
        have HD := hid (show spD (bl s) = [] by unfold spD; rw [hok, if_pos rfl, hnm, pcs_whole h2]; rfl)
        have HN := hid (show spN (bl s) = bl s by unfold spN; rw [hok, if_pos rfl, hnm, pcs_whole h2]; rfl)
        have HM := hid (mk_bl s)
        clear hok hs h0 hsh hnm h1 h2
        go_enter Try.func42, Try.ntmps42
        go_wp2_with (first | (go_at_call 18; refine (HC.out _).mono ?_; rintro e w' ⟨rfl, n, rfl⟩) | (go_at_call 63; refine (HL.out _).mono ?_; rintro e w' ⟨rfl, hw⟩; subst w'))
        go_ret3
        rw [HD.out, HN.out, HE.out, HM.out]
        exact ⟨rfl, n, rfl⟩
      · rw [h3] at HL
        have epc : pcs (bl s) = pcs a ++ [b] := by rw [h1, pcs_append, pcs_whole h2]
        have HD := hid (show spD (bl s) = a by unfold spD; rw [hok, if_pos rfl, hnm, epc, List.dropLast_concat, txt_pcs])
        have HN := hid (show spN (bl s) = b by unfold spN; rw [hok, if_pos rfl, hnm, epc]; simp)
        have hsz : s.size = a.length + 1 + b.length := by rw [bl_size, h1]; simp; omega
        have HE1 := hid (show s.extract 0 a.length = mk a by rw [ext_bl, h1]; simp)
        have HE2 := hid (show s.extract (a.length + 1) s.size = mk b by
          rw [ext_bl, hsz, h1, List.take_of_length_le (by simp; omega), ← List.drop_drop, List.drop_left]; rfl)
        have mixed : Try.prog.follows Departure.mixedOrders = true := by kernel_rfl
        have hal : a.length ≤ 2080 := by rw [h1] at hsh; simp at hsh; omega
        have hw : IntKind.i64.wrap ((a.length : Int) + 1) = (a.length : Int) + 1 := by rw [IntKind.wrap_i64]; omega
        have c1 : (0 : Int) ≤ (a.length : Int) := by omega
        have c0 : ¬ (a.length : Int) < 0 := by omega
        have c2 : (a.length : Int) ≤ (s.size : Int) := by omega
        have c3 : (0 : Int) ≤ (a.length : Int) + 1 := by omega
        have c4 : (a.length : Int) + 1 ≤ (s.size : Int) := by omega
        clear hok hs h0 hsh hnm h1 h2 h3 epc hsz
        go_enter Try.func42, Try.ntmps42
        go_wp2_with (first | (go_at_call 18; refine (HC.out _).mono ?_; rintro e w' ⟨rfl, n, rfl⟩) | (go_at_call 63; refine (HL.out _).mono ?_; rintro e w' ⟨rfl, hw⟩; subst w'))
        go_region_o
        go_wp2
        go_ret3
        rw [HD.out, HN.out, HE.out, ← HE1.out, ← HE2.out]
        exact ⟨rfl, n + 1, rfl⟩

end Go.Proofs.Yteijkbanlpodpaa

/- The order of paths. -/
namespace Go.Proofs.Yteijkbanlpodpaa
open Go.RowKit

theorem cut_txt {x : List UInt8} {r : List (List UInt8)} (hx : nmP x = true) (hl : (txt (x :: r)).length ≤ 9223372036854775807) :
    ∃ f : Bool, ∀ w, Calls Try.prog 36 #[.string (mk (txt (x :: r))), .string ⟨#[47]⟩] w fun e w' => e = .returned (.tuple #[.string (mk x), .string (mk (txt r)), .bool f]) ∧ ∃ n, w' = w.drewN n := by
  cases r with
  | nil =>
    refine ⟨false, fun w => ?_⟩
    rw [txt_one]
    exact (cut_no (mk x) w (by rw [bl_mk]; exact nmP_slash hx)).mono fun e w' ⟨h1, h2⟩ => ⟨h1, 0, h2⟩
  | cons y t =>
    refine ⟨true, fun w => ?_⟩
    exact cut_yes (mk (txt (x :: y :: t))) x (txt (y :: t)) w (by rw [bl_mk, txt_two]) (nmP_slash hx) (by rw [bl_mk]; exact hl)
theorem compare_lib (a b : List UInt8) (w : World) :
    Calls Try.prog 88 #[.string (mk a), .string (mk b)] w fun e w' => e = .returned (.int .i64 (cb a b)) ∧ w' = w := by
  have := Try.strings_Compare (mk a) (mk b) w
  rw [← bl_eq, ← bl_eq, bl_mk, bl_mk] at this
  exact this
def szOf (v : Value) : Nat := match v with | .string s => s.size | _ => 0
theorem szOf_mk (l : List UInt8) : szOf (.string (mk l)) = l.length := mk_size l
theorem txt_shorter {x : List UInt8} {r : List (List UInt8)} (hx : nmP x = true) : (txt r).length < (txt (x :: r)).length := by
  have : 0 < x.length := List.length_pos_iff.2 (nmP_ne hx).1
  cases r with
  | nil => simp [txt]; omega
  | cons y t => rw [txt_two]; simp; omega

/-- how the comparison stands -/
structure Cst (a b A B : List (List UInt8)) : Prop where
  na : ∀ p ∈ A, nmP p = true
  nb : ∀ p ∈ B, nmP p = true
  la : (txt A).length ≤ 2080
  lb : (txt B).length ≤ 2080
  eq : cmpL a b = cmpL A B

set_option maxRecDepth 100000 in
set_option maxHeartbeats 1000000 in
theorem compareNames_any (a b : List (List UInt8)) (w : World) (h : Cst a b a b) :
    Calls Try.prog 70 #[.string (mk (txt a)), .string (mk (txt b))] w fun e w' => e = .returned (.int .i64 (cmpL a b)) ∧ ∃ n, w' = w.drewN n := by
  have H0 := hid h
  clear h
  go_enter Try.func70, Try.ntmps70
  go_wp2
  go_loopw [0, 1] (fun va vb wr => ∃ (A B : List (List UInt8)) (q : Nat), va = .string (mk (txt A)) ∧ vb = .string (mk (txt B)) ∧ wr = w.drewN q ∧ Cst a b A B) (fun va _ _ => szOf va)
  case atStart => exact ⟨a, b, 0, rfl, rfl, rfl, H0.out⟩
  case round =>
    obtain ⟨A, B, q, rfl, rfl, rfl, hc⟩ := hrel
    have HC := hid hc
    clear hc H0
    have ea : (mk (txt A)).toList = txt A := bl_mk _
    have eb : (mk (txt B)).toList = txt B := bl_mk _
    by_cases hA : A = []
    · subst hA
      have ea' : (mk (txt [])).toList = [] := bl_mk []
      have HL := hid (compare_lib (txt []) (txt B))
      have HR := hid (show cb (txt []) (txt B) = cmpL a b by
        rw [HC.out.eq]
        cases B with
        | nil => rfl
        | cons y t =>
          have := (txt_ne HC.out.nb (by simp))
          cases e : txt (y :: t) with
          | nil => exact absurd e this
          | cons c r => rfl)
      generalize mk (txt []) = xa at *
      generalize mk (txt B) = xb at *
      go_wp2_with (go_at_call 88; refine (HL.out _).mono ?_; rintro e w' ⟨rfl, hw⟩; subst w')
      go_ret
      exact ⟨ret_i HR.out, q, rfl⟩
    · have na' : (txt A).isEmpty = false := by simpa using txt_ne HC.out.na hA
      have na2 : ¬ txt A = [] := txt_ne HC.out.na hA
      have na3 : (txt A != []) = true := by simpa using txt_ne HC.out.na hA
      by_cases hB : B = []
      · subst hB
        have eb' : (mk (txt [])).toList = [] := bl_mk []
        have HL := hid (compare_lib (txt A) (txt []))
        have HR := hid (show cb (txt A) (txt []) = cmpL a b by
          rw [HC.out.eq]
          cases A with
          | nil => exact absurd rfl hA
          | cons y t =>
            cases e : txt (y :: t) with
            | nil => exact absurd e na2
            | cons c r => rfl)
        generalize mk (txt []) = xb at *
        generalize mk (txt A) = xa at *
        go_wp2_with (go_at_call 88; refine (HL.out _).mono ?_; rintro e w' ⟨rfl, hw⟩; subst w')
        go_ret
        exact ⟨ret_i HR.out, q, rfl⟩
      · have nb' : (txt B).isEmpty = false := by simpa using txt_ne HC.out.nb hB
        have nb2 : ¬ txt B = [] := txt_ne HC.out.nb hB
        have nb3 : (txt B != []) = true := by simpa using txt_ne HC.out.nb hB
        obtain ⟨x, A', rfl⟩ : ∃ x A', A = x :: A' := by cases A with | nil => exact absurd rfl hA | cons x A' => exact ⟨x, A', rfl⟩
        obtain ⟨y, B', rfl⟩ : ∃ y B', B = y :: B' := by cases B with | nil => exact absurd rfl hB | cons x A' => exact ⟨x, A', rfl⟩
        have hx := HC.out.na x (by simp)
        have hy := HC.out.nb y (by simp)
        obtain ⟨f1, hc1⟩ := cut_txt hx (r := A') (by have := HC.out.la; omega)
        obtain ⟨f2, hc2⟩ := cut_txt hy (r := B') (by have := HC.out.lb; omega)
        have HC1 := hid hc1
        have HC2 := hid hc2
        have HLB := hid (compare_lib x y)
        have HSZ := hid (txt_shorter hx (r := A'))
        have HMS := hid (szOf_mk (txt (x :: A')))
        have HLA := hid (txt_shorter hy (r := B'))
        clear hc1 hc2 hx hy
        by_cases h0 : cb x y = 0
        · have HN : Hid (Cst a b A' B') := ⟨fun p hp => HC.out.na p (by simp [hp]), fun p hp => HC.out.nb p (by simp [hp]), by have := HC.out.la; have := HSZ.out; omega, by have := HC.out.lb; have := HLA.out; omega, by rw [HC.out.eq, cmpL, if_pos h0]⟩
          rw [h0] at HLB
          generalize mk (txt (x :: A')) = xa at *
          generalize mk (txt (y :: B')) = xb at *
          go_wp2_with fail
          refine (HC1.out _).mono ?_
          rintro e w1 ⟨rfl, n1, rfl⟩
          go_wp2_with fail
          refine (HC2.out _).mono ?_
          rintro e w2 ⟨rfl, n2, rfl⟩
          go_wp2_with (go_at_call 88; refine (HLB.out _).mono ?_; rintro e w' ⟨rfl, hw⟩; subst w')
          refine ⟨⟨A', B', q + (n1 + n2), rfl, rfl, by simp [Nat.add_assoc], HN.out⟩, ?_⟩
          rw [szOf_mk]
          first | exact HSZ.out | (rw [HMS.out]; exact HSZ.out)
        · have HR := hid (show cb x y = cmpL a b by rw [HC.out.eq, cmpL, if_neg h0])
          have c1 : (cb x y != 0) = true := by simpa using h0
          generalize cb x y = cc at *
          generalize mk (txt (x :: A')) = xa at *
          generalize mk (txt (y :: B')) = xb at *
          go_wp2_with fail
          refine (HC1.out _).mono ?_
          rintro e w1 ⟨rfl, n1, rfl⟩
          go_wp2_with fail
          refine (HC2.out _).mono ?_
          rintro e w2 ⟨rfl, n2, rfl⟩
          go_wp2_with (go_at_call 88; refine (HLB.out _).mono ?_; rintro e w' ⟨rfl, hw⟩; subst w')
          go_ret
          exact ⟨ret_i HR.out, q + (n1 + n2), by simp [Nat.add_assoc]⟩

end Go.Proofs.Yteijkbanlpodpaa

/- Compare. -/
namespace Go.Proofs.Yteijkbanlpodpaa
open Go.RowKit

theorem ret_ii {a b x y : Int} (h : a = b) (k : x = y) : Ending.returned (.tuple #[.int .i64 a, .int .i64 x]) = .returned (.tuple #[.int .i64 b, .int .i64 y]) := by rw [h, k]

set_option maxRecDepth 100000 in
set_option maxHeartbeats 1000000 in
theorem compare_any (a b : ByteArray) (w : World) (ha : (bl a).length ≤ 9223372036854775807) (hb : (bl b).length ≤ 9223372036854775807) :
    Calls Try.prog 52 #[.string a, .string b] w fun e w' => e = .returned (.tuple #[.int .i64 (cmP (bl a) (bl b)), .int .i64 (pN (bl a) (bl b))]) ∧ Below w.heap.size w w' := by
  have HB := hid (below_walk w (.cells #[.string a, .string b] 9))
  by_cases hok : okP (bl a) = true ∧ okP (bl b) = true
  · have HP := hid (show pN (bl a) (bl b) = 0 by unfold pN; rw [if_pos hok])
    have HC := hid (checkTwo a b w ha hb 0 HP.out)
    have HR := hid (show cmP (bl a) (bl b) = cmpL (nms (bl a)) (nms (bl b)) by unfold cmP; rw [if_pos hok])
    have HCN := hid (compareNames_any (nms (bl a)) (nms (bl b)) · ⟨((okP_iff _).1 hok.1).1, ((okP_iff _).1 hok.2).1, by rw [txt_nms]; exact okP_short hok.1, by rw [txt_nms]; exact okP_short hok.2, rfl⟩)
    rw [txt_nms, txt_nms, mk_bl, mk_bl] at HCN
    clear hok ha hb
    go_enter Try.func52, Try.ntmps52
    go_wp2_with (first | (go_at_call 69; refine HC.out.mono ?_; rintro e w' ⟨rfl, n, rfl⟩) | (go_at_call 70; refine (HCN.out _).mono ?_; rintro e w' ⟨rfl, n2, rfl⟩))
    go_ret2
    exact ⟨ret_ii HR.out.symm HP.out.symm, ⟨HB.out.os, HB.out.tape, HB.out.output, HB.out.size, HB.out.block⟩⟩
  · have HP := hid (show pN (bl a) (bl b) = 45 by unfold pN; rw [if_neg hok])
    have HC := hid (checkTwo a b w ha hb 45 HP.out)
    have HR := hid (show cmP (bl a) (bl b) = 0 by unfold cmP; rw [if_neg hok])
    clear hok ha hb
    go_enter Try.func52, Try.ntmps52
    go_wp2_with (go_at_call 69; refine HC.out.mono ?_; rintro e w' ⟨rfl, n, rfl⟩)
    go_ret2
    exact ⟨ret_ii HR.out.symm HP.out.symm, ⟨HB.out.os, HB.out.tape, HB.out.output, HB.out.size, HB.out.block⟩⟩

end Go.Proofs.Yteijkbanlpodpaa

/- mayBe, parent. -/
namespace Go.Proofs.Yteijkbanlpodpaa
open Go.RowKit

theorem below_n {w w' : World} (h : Below w.heap.size w w') (n : Nat) : Below w.heap.size w (w'.drewN n) := ⟨h.os, h.tape, h.output, h.size, h.block⟩
theorem ret_bb {a b : Bool} (h : a = b) : Ending.returned (.bool a) = .returned (.bool b) := by rw [h]
theorem below_then {a b c : World} (h : Below a.heap.size a b) (k : Below b.heap.size b c) : Below a.heap.size a c := h.trans (k.mono h.size)

theorem mayP_root {e : Ent} (h : e.1 = []) : mayP e = false := by unfold mayP; simp [h]
theorem mayP_bad {e : Ent} (h : okP e.1 = false) : mayP e = false := by unfold mayP; simp [h]
theorem mayP_of {e : Ent} (h : okP e.1 = true) (h0 : e.1 ≠ []) : mayP e = decide ((e.2.1 = 1 ∧ e.2.2.length ≤ 65536) ∨ (e.2.1 = 2 ∧ e.2.2 = []) ∨ (e.2.1 = 3 ∧ 1 ≤ e.2.2.length ∧ e.2.2.length ≤ 4096)) := by
  unfold mayP
  rw [h, decide_eq_true h0]
  rfl

set_option maxRecDepth 100000 in
set_option maxHeartbeats 1000000 in
theorem may_any (e : Ent) (w : World) (hp : e.1.length ≤ 9223372036854775807) :
    Calls Try.prog 47 #[entA e] w fun r w' => r = .returned (.bool (mayP e)) ∧ Below w.heap.size w w' := by
  obtain ⟨p, k, d⟩ := e
  unfold entA
  dsimp only at hp ⊢
  have HB := hid (below_walk w (.cells #[.string (mk p), .int .i64 k, .string (mk d)] 25))
  by_cases h0 : p = []
  · have HM := hid (mayP_root (e := (p, k, d)) h0)
    have e1 : (mk p).toList = [] := by rw [h0]; exact bl_mk []
    clear h0 hp
    generalize mk p = s at *
    go_enter Try.func47, Try.ntmps47
    go_wp2
    go_ret
    exact ⟨ret_bb HM.out.symm, HB.out⟩
  · have e1 : ¬ (mk p).toList = [] := fun h => h0 ((bl_mk p).symm.trans h)
    have e2 : ((mk p).toList == []) = false := by simpa using e1
    have e3 : (mk p).toList.isEmpty = false := by simpa using e1
    cases hok : okP p with
    | false =>
      have HM := hid (mayP_bad (e := (p, k, d)) hok)
      have HC := hid (check_is (mk p) 45 (by rw [bl_mk]; unfold chN; rw [hok]; rfl) (by rw [bl_mk]; exact hp))
      clear h0 hp hok
      generalize mk p = s at *
      go_enter Try.func47, Try.ntmps47
      go_wp2_with (go_at_call 18; refine (HC.out _).mono ?_; rintro r w' ⟨rfl, n, rfl⟩)
      go_ret
      exact ⟨ret_bb HM.out.symm, below_n HB.out n⟩
    | true =>
      have HM := hid (mayP_of (e := (p, k, d)) hok h0)
      have HC := hid (check_is (mk p) 0 (by rw [bl_mk]; unfold chN; rw [hok]; rfl) (by rw [bl_mk]; exact hp))
      have hdl : (mk d).toList = d := bl_mk d
      have hds : (mk d).size = d.length := mk_size d
      clear h0 hp hok
      generalize mk p = s at *
      generalize mk d = sd at *
      go_enter Try.func47, Try.ntmps47
      go_wp2_with (go_at_call 18; refine (HC.out _).mono ?_; rintro r w' ⟨rfl, n, rfl⟩)
      all_goals go_ret
      all_goals refine ⟨ret_bb ?_, below_n HB.out n⟩
      all_goals rw [HM.out]
      all_goals clear HM HC HB
      all_goals rw [Bool.eq_iff_iff]
      all_goals go_light
      all_goals clear hdl hds e1 e2 e3
      all_goals cases d
      all_goals first | (simp_all; done) | (simp_all; omega)

set_option maxHeartbeats 1000000 in
theorem parent_any (p : List UInt8) (w : World) (hp : p.length ≤ 9223372036854775807) :
    Calls Try.prog 23 #[.string (mk p)] w fun r w' => r = .returned (.string (mk (spD p))) ∧ ∃ n, w' = w.drewN n := by
  have H := hid (psplit_any (mk p) w (by rw [bl_mk]; exact hp))
  rw [bl_mk] at H
  clear hp
  go_enter Try.func23, Try.ntmps23
  go_wp2_with (go_at_call 42; refine H.out.mono ?_; rintro r w' ⟨rfl, n, rfl⟩)
  go_ret
  exact ⟨rfl, n, rfl⟩

end Go.Proofs.Yteijkbanlpodpaa

/- The document's Name, Same, text; lists of one's own; Of of both sides. -/
namespace Go.Proofs.Yteijkbanlpodpaa
open Go.RowKit

set_option maxRecDepth 100000 in
set_option maxHeartbeats 4000000 in
theorem rname_any (s : ByteArray) (w : World) :
    Calls Try.prog 65 #[.string s] w fun e w' => e = .returned (.bool (nmP (bl s))) ∧ w' = w := by
  have HAT := hid (bl_at s)
  have hsz := bl_size s
  obtain ⟨l, hl⟩ : ∃ l, bl s = l := ⟨_, rfl⟩
  have hl' : s.toList = l := hl
  rw [hl] at hsz HAT ⊢
  by_cases hok : 1 ≤ l.length ∧ l.length ≤ 64 ∧ l ≠ [46] ∧ l ≠ [46, 46]
  · have HOK := hid hok
    obtain ⟨o1, o2, o3, o4⟩ := hok
    have p1 : ¬ (l.length : Int) < 1 := by omega
    have p2 : ¬ (64 : Int) < (l.length : Int) := by omega
    have HL := hid hl
    have b3 : (l == [46]) = false := by simp [o3]
    have b4 : (l == [46, 46]) = false := by simp [o4]
    clear hl
    go_enter Try.func65, Try.ntmps65
    go_wp2
    go_loop [3] (fun i => ∃ k : Nat, i = .int .i64 k ∧ k ≤ l.length ∧ nbTo l k) (fun i => l.length - (intOf i).toNat)
    case atStart => exact ⟨0, rfl, by omega, fun j hj => by omega⟩
    case round =>
      obtain ⟨k, rfl, hk, hto⟩ := hrel
      have HTO := hid hto
      clear hto
      by_cases hlt : k < l.length
      · have q1 : (k : Int) < (l.length : Int) := by omega
        have i1 := HAT.out k hlt
        obtain ⟨C, HC⟩ : ∃ C : Int, Hid (((l.getD k 0).toNat : Int) = C) := ⟨_, rfl⟩
        rw [HC.out] at i1
        have fin : nbI C = false → nmN l = 42 := fun h => nmN_bad2 k hlt (by rw [HC.out]; exact h)
        have FB : Hid (nbI C = false → nmP l = false) := fun h => by
          have := fin h
          unfold nmN at this
          split at this
          · cases this
          · rename_i h2; simpa using h2
        have FG : Hid (nbI C = true → nbTo l (k + 1)) := fun h j hj => by
          by_cases hjk : j = k
          · subst hjk; rw [HC.out]; exact h
          · exact HTO.out j (by omega)
        clear fin
        go_wp2
        all_goals first
          | (go_ret
             refine ⟨ret_b ?_, rfl⟩
             rw [FB.out (by unfold nbI; simp at *; omega)])
          | (refine ⟨⟨k + 1, by simp, by omega, FG.out (by unfold nbI; simp at *; omega)⟩, by simp [intOf]; omega⟩)
      · have q1 : ¬ (k : Int) < (l.length : Int) := by omega
        obtain rfl : k = l.length := by omega
        have HP := hid (show nmP l = true by
          unfold nmP
          rw [decide_eq_true HOK.out, nbTo_all HTO.out]; rfl)
        go_wp2
        go_ret
        exact ⟨ret_b (by rw [HP.out]), rfl⟩
  · have HB := hid (show nmP l = false by unfold nmP; rw [decide_eq_false hok]; rfl)
    have HOK := hid hok
    clear hok hl
    go_enter Try.func65, Try.ntmps65
    go_wp2
    all_goals first
      | (go_ret; exact ⟨ret_b (by rw [HB.out]), rfl⟩)
      | (exfalso; refine HOK.out ?_; simp_all; done)
      | (exfalso; refine HOK.out ?_; simp_all; omega)

end Go.Proofs.Yteijkbanlpodpaa

/- The document's Same and text; lists of one's own; Of of both sides. -/
namespace Go.Proofs.Yteijkbanlpodpaa
open Go.RowKit

theorem txt_snoc (ts : List (List UInt8)) (k : Nat) (hk : k < ts.length) (h0 : 0 < k) : txt (ts.take (k + 1)) = txt (ts.take k) ++ [47] ++ ts.getD k [] := by
  rw [List.take_succ_eq_append_getElem hk]
  have e : ts.getD k [] = ts[k] := by simp [List.getD_eq_getElem?_getD, hk]
  rw [e]
  cases ts with
  | nil => simp at hk
  | cons x r =>
    obtain ⟨j, rfl⟩ : ∃ j, k = j + 1 := ⟨k - 1, by omega⟩
    simp only [List.take_succ_cons, List.cons_append, txt, List.map_append, List.flatten_append, List.map_cons, List.map_nil, List.flatten_cons, List.flatten_nil, List.append_nil, List.getElem_cons_succ, List.append_assoc, List.nil_append]
theorem txt_first (ts : List (List UInt8)) (hk : 0 < ts.length) : txt (ts.take 1) = ts.getD 0 [] := by
  cases ts with
  | nil => simp at hk
  | cons x r => simp [txt]
theorem txt_take_le (ts : List (List UInt8)) (k : Nat) : (txt (ts.take k)).length ≤ (txt ts).length := by
  cases ts with
  | nil => simp
  | cons x r =>
    cases k with
    | zero => simp [txt]
    | succ k =>
      simp only [List.take_succ_cons, txt, List.length_append]
      have : ((r.take k).map ((47 : UInt8) :: ·)).flatten.length ≤ (r.map ((47 : UInt8) :: ·)).flatten.length := by
        conv => rhs; rw [← List.take_append_drop k r]
        rw [List.map_append, List.flatten_append, List.length_append]
        omega
      omega

set_option maxRecDepth 100000 in
set_option maxHeartbeats 1000000 in
theorem rtext_any (v : Value) (ts : List (List UInt8)) (w : World) (h : Strs w v ts) (hn : ts.length ≤ 9223372036854775806) (hb : (txt ts).length ≤ 9223372036854775806) :
    Calls Try.prog 46 #[v] w fun e w' => e = .returned (.string (mk (txt ts))) ∧ w' = w := by
  obtain ⟨ao, c, rfl⟩ := h.shape
  have HS := hid h
  clear h
  go_enter Try.func46, Try.ntmps46
  go_wp2
  go_loop [3, 4] (fun s i => ∃ k : Nat, k ≤ ts.length ∧ i = .int .i64 k ∧ s = .string (mk (txt (ts.take k)))) (fun _ i => ts.length - (intOf i).toNat)
  case atStart => exact ⟨0, by omega, rfl, rfl⟩
  case round =>
    obtain ⟨k, hk, rfl, rfl⟩ := hrel
    by_cases hlt : k < ts.length
    · have q1 : (k : Int) < (ts.length : Int) := by omega
      obtain ⟨g, o, rfl, hc⟩ := HS.out.at k hlt
      have hle := txt_take_le ts (k + 1)
      by_cases h0 : 0 < k
      · have q2 : (0 : Int) < (k : Int) := by omega
        have hsn := txt_snoc ts k hlt h0
        generalize ts.getD k [] = x at *
        rw [hsn] at hle
        have a1 : ∀ W, (Op.stringOp .add (mk (txt (ts.take k))) ⟨#[47]⟩).run Try.prog W = .ok (.string (mk (txt (ts.take k) ++ [47]))) W := str_add _ [47] (by simp at hle ⊢; omega)
        have a2 := str_add (txt (ts.take k) ++ [47]) x (by simp at hle ⊢; omega)
        have HSN := hid hsn
        clear hsn hle h0
        generalize txt (ts.take k) = T at *
        go_wp2
        exact ⟨⟨k + 1, by omega, by simp, by rw [HSN.out]; simp⟩, by simp [intOf]; omega⟩
      · obtain rfl : k = 0 := by omega
        rw [Nat.add_zero] at hc
        have hsn := txt_first ts hlt
        generalize ts.getD 0 [] = x at *
        rw [hsn] at hle
        have a2 := str_add (txt (ts.take 0)) x (by simp [txt]; omega)
        have HSN := hid hsn
        clear hsn hle h0
        have HT := hid (show txt (ts.take 0) ++ x = x by simp [txt])
        generalize txt (ts.take 0) = T at *
        go_wp2
        exact ⟨⟨1, by omega, by simp, by rw [HT.out, HSN.out]⟩, by simp [intOf]; omega⟩
    · have q1 : ¬ (k : Int) < (ts.length : Int) := by omega
      obtain rfl : k = ts.length := by omega
      have HT := hid (show ts.take ts.length = ts from List.take_length)
      rw [HT.out]
      go_wp2
      go_ret
      exact ⟨rfl, rfl⟩

end Go.Proofs.Yteijkbanlpodpaa

/- The document's Pieces and Names. -/
namespace Go.Proofs.Yteijkbanlpodpaa
open Go.RowKit

/-- how Pieces stands: up to k looked at, from f on not yet laid -/
def Pst (l : List UInt8) (k f : Nat) (ts : List (List UInt8)) : Prop :=
  (k ≤ l.length ∧ f ≤ k ∧ (47 : UInt8) ∉ (l.take k).drop f ∧ ts ++ pcs (l.drop f) = pcs l ∧ ts.length ≤ k) ∨ (k = l.length + 1 ∧ f = k ∧ ts = pcs l)

theorem pst_next {l : List UInt8} {k f : Nat} {ts : List (List UInt8)} (h : Pst l k f ts) (hk : k < l.length) (hc : l.getD k 0 ≠ 47) : Pst l (k + 1) f ts := by
  rcases h with ⟨h1, h2, h3, h4, h5⟩ | ⟨h1, _⟩
  · refine Or.inl ⟨by omega, by omega, ?_, h4, by omega⟩
    rw [List.take_succ_eq_append_getElem hk, List.drop_append_of_le_length (by simp; omega)]
    simp only [List.mem_append, List.mem_singleton, not_or]
    refine ⟨h3, fun e => hc ?_⟩
    simp [List.getD_eq_getElem?_getD, hk, ← e]
  · omega
theorem drop_parts {l : List UInt8} {k f : Nat} (hf : f ≤ k) (hk : k < l.length) : l.drop f = (l.take k).drop f ++ l.getD k 0 :: l.drop (k + 1) := by
  have e : l.getD k 0 :: l.drop (k + 1) = l.drop k := by
    rw [List.drop_eq_getElem_cons hk]
    simp [List.getD_eq_getElem?_getD, hk]
  rw [e]
  conv => lhs; rw [← List.take_append_drop k l]
  rw [List.drop_append_of_le_length (by simp; omega)]
theorem pst_slash {l : List UInt8} {k f : Nat} {ts : List (List UInt8)} (h : Pst l k f ts) (hk : k < l.length) (hc : l.getD k 0 = 47) : Pst l (k + 1) (k + 1) (ts ++ [(l.take k).drop f]) := by
  rcases h with ⟨h1, h2, h3, h4, h5⟩ | ⟨h1, _⟩
  · refine Or.inl ⟨by omega, by omega, by simp, ?_, by simp; omega⟩
    rw [← h4, drop_parts h2 hk, hc, pcs_append, pcs_whole h3, List.append_assoc]
  · omega
theorem pst_end {l : List UInt8} {f : Nat} {ts : List (List UInt8)} (h : Pst l l.length f ts) : Pst l (l.length + 1) (l.length + 1) (ts ++ [(l.take l.length).drop f]) := by
  rcases h with ⟨h1, h2, h3, h4, h5⟩ | ⟨h1, _⟩
  · refine Or.inr ⟨rfl, rfl, ?_⟩
    rw [List.take_length] at h3 ⊢
    rw [← h4, pcs_whole h3]
  · omega
theorem pst_le {l : List UInt8} {k f : Nat} {ts : List (List UInt8)} (h : Pst l k f ts) : ts.length ≤ l.length + 1 ∧ f ≤ k ∧ k ≤ l.length + 1 := by
  rcases h with ⟨h1, h2, h3, h4, h5⟩ | ⟨h1, h2, h3⟩
  · omega
  · rw [h3]; have := pcs_len l; omega

set_option maxRecDepth 100000 in
set_option maxHeartbeats 1000000 in
theorem rpieces_any (s : ByteArray) (w : World) (hs : (bl s).length ≤ 1099511627776) :
    Calls Try.prog 64 #[.string s] w fun e w' => ∃ v, e = .returned v ∧ OwnS w' w.heap.size v (pcs (bl s)) ∧ Below w.heap.size w w' := by
  have HAT := hid (bl_at s)
  have HEX := hid (ext_bl s)
  have hsz := bl_size s
  obtain ⟨l, hl⟩ : ∃ l, bl s = l := ⟨_, rfl⟩
  rw [hl] at hsz HAT HEX hs ⊢
  clear hl
  go_enter Try.func64, Try.ntmps64
  go_wp2
  go_loopw [3, 4, 5] (fun x f i wr => ∃ (k F : Nat) (ts : List (List UInt8)), k ≤ l.length + 1 ∧ i = .int .i64 k ∧ f = .int .i64 F ∧ OwnS wr w.heap.size x ts ∧ Pst l k F ts ∧ Below w.heap.size w wr) (fun _ _ i _ => l.length + 1 - (intOf i).toNat)
  case atStart => exact ⟨0, 0, [], by omega, rfl, rfl, OwnS.nil _ _, Or.inl ⟨by omega, by omega, by simp, by simp, by simp⟩, Below.refl _ _⟩
  case round =>
    obtain ⟨k, F, ts, hk, rfl, rfl, ho, hp, hb⟩ := hrel
    have HO := hid ho
    have HP := hid hp
    have HB := hid hb
    obtain ⟨hts, hF, _⟩ := pst_le hp
    have hbs := hb.size
    obtain ⟨ax, cx, rfl⟩ := ho.strs.shape
    clear ho hp hb
    by_cases hlt : k ≤ l.length
    · have q1 : (k : Int) ≤ (l.length : Int) := by omega
      have HSL := hid (HEX.out F k)
      by_cases he : k = l.length
      · subst he
        have c2 : (F : Int) ≤ (l.length : Int) := by omega
        have c1 : (0 : Int) ≤ (F : Int) := by omega
        go_wp2_with (at_builtin; refine app_text rfl _ _ rfl w.heap.size _ _ rfl (HO.out.alloc _) _ _ rfl (strs_one _ _) ?c1 ?c2 ?_)
        case c1 => simp; omega
        case c2 => simp; omega
        intro v3 w3 ho3 hg3 hp3
        rw [HSL.out, bl_mk] at ho3
        obtain ⟨ao3, c3, rfl⟩ := ho3.strs.shape
        have HO3 := hid ho3
        have HB3 := hid (below_tr HB.out (below_tr (below_le (below_walk wr _) hbs) (own_below (HO.out.alloc _) (by simp; omega) hg3)))
        clear ho3 hg3 hp3
        go_wp2
        refine ⟨⟨l.length + 1, l.length + 1, ts ++ [(l.take l.length).drop F], by omega, by simp, by simp, ?_, pst_end HP.out, HB3.out⟩, by simp [intOf]⟩
        exact HO3.out
      · have hk2 : k < l.length := by omega
        have q2 : ((k : Int) == (l.length : Int)) = false := by simp; omega
        have q2' : ¬ (k : Int) = (l.length : Int) := by omega
        have i1 := HAT.out k hk2
        obtain ⟨C, HC⟩ : ∃ C : UInt8, Hid (l.getD k 0 = C) := ⟨_, rfl⟩
        rw [HC.out] at i1
        by_cases h47 : C = 47
        · subst h47
          have i2 : ((47 : UInt8).toNat : Int) = 47 := rfl
          rw [i2] at i1
          have c2 : (F : Int) ≤ (k : Int) := by omega
          have c1 : (0 : Int) ≤ (F : Int) := by omega
          have c3 : (k : Int) ≤ (l.length : Int) := by omega
          go_wp2_with (at_builtin; refine app_text rfl _ _ rfl w.heap.size _ _ rfl (HO.out.alloc _) _ _ rfl (strs_one _ _) ?d1 ?d2 ?_)
          case d1 => simp; omega
          case d2 => simp; omega
          intro v3 w3 ho3 hg3 hp3
          rw [HSL.out, bl_mk] at ho3
          obtain ⟨ao3, c3', rfl⟩ := ho3.strs.shape
          have HO3 := hid ho3
          have HB3 := hid (below_tr HB.out (below_tr (below_le (below_walk wr _) hbs) (own_below (HO.out.alloc _) (by simp; omega) hg3)))
          clear ho3 hg3 hp3
          go_wp2
          refine ⟨⟨k + 1, k + 1, ts ++ [(l.take k).drop F], by omega, by simp, by simp, ?_, pst_slash HP.out hk2 HC.out, HB3.out⟩, by simp [intOf]; omega⟩
          exact HO3.out
        · have i2 : ¬ (C.toNat : Int) = 47 := fun e => h47 (UInt8.toNat_inj.1 (by rw [show (47 : UInt8).toNat = 47 from rfl]; omega))
          have i3 : ((C.toNat : Int) == 47) = false := by simp; omega
          have HN := hid (pst_next HP.out hk2 (by rw [HC.out]; exact h47))
          clear h47
          go_wp2
          exact ⟨⟨k + 1, F, ts, by omega, by simp, rfl, HO.out, HN.out, HB.out⟩, by simp [intOf]; omega⟩
    · have q1 : ¬ (k : Int) ≤ (l.length : Int) := by omega
      have HR := hid (show ts = pcs l by rcases HP.out with ⟨h1, _⟩ | ⟨_, _, h⟩; omega; exact h)
      go_wp2
      go_ret
      exact ⟨_, rfl, by rw [← HR.out]; exact HO.out, HB.out⟩

/-- some of them is no name, or there are too many -/
theorem okP_no {l : List UInt8} {k : Nat} (h0 : l ≠ []) (hk : k < (pcs l).length) (hn : nmP ((pcs l).getD k []) = false) : okP l = false := by
  rw [okP_pcs h0]
  have : (pcs l).all nmP = false := by
    rw [Bool.eq_false_iff]
    intro e
    have := List.all_eq_true.1 e ((pcs l)[k]) (List.getElem_mem hk)
    simp [List.getD_eq_getElem?_getD, hk] at hn
    rw [hn] at this
    cases this
  rw [this]; rfl
/-- how far they are names -/
def nmTo (ts : List (List UInt8)) (k : Nat) : Prop := ∀ j, j < k → nmP (ts.getD j []) = true
theorem nmTo_all {ts : List (List UInt8)} (h : nmTo ts ts.length) : ∀ p ∈ ts, nmP p = true := by
  intro p hp
  obtain ⟨j, hj, rfl⟩ := List.mem_iff_getElem.1 hp
  have := h j hj
  simpa [List.getD_eq_getElem?_getD, hj] using this
theorem nmTo_next {ts : List (List UInt8)} {k : Nat} (h : nmTo ts k) (hn : nmP (ts.getD k []) = true) : nmTo ts (k + 1) := by
  intro j hj
  by_cases hjk : j = k
  · subst hjk; exact hn
  · exact h j (by omega)
theorem rname_is (s : ByteArray) (b : Bool) (h : nmP (bl s) = b) (w : World) :
    Calls Try.prog 65 #[.string s] w fun e w' => e = .returned (.bool b) ∧ w' = w := h ▸ rname_any s w

/-- what the document's Names says -/
def RNames (l : List UInt8) (w : World) (e : Ending) (w' : World) : Prop :=
  (okP l = true ∧ (∃ v, e = .returned (.tuple #[v, .bool true]) ∧ OwnS w' w.heap.size v (nms l)) ∨ okP l = false ∧ e = .returned (.tuple #[.slice none 0 0, .bool false])) ∧ Below w.heap.size w w'

set_option maxRecDepth 100000 in
set_option maxHeartbeats 1000000 in
theorem rnames_any (s : ByteArray) (w : World) (hs : (bl s).length ≤ 1099511627776) :
    Calls Try.prog 45 #[.string s] w fun e w' => RNames (bl s) w e w' := by
  by_cases h0 : bl s = []
  · have hl' : s.toList = [] := h0
    have HN : Hid (RNames (bl s) w (.returned (.tuple #[.slice none 0 0, .bool true])) w) := by
      rw [h0]; exact ⟨Or.inl ⟨rfl, _, rfl, OwnS.nil _ _⟩, Below.refl _ _⟩
    clear h0 hs
    go_enter Try.func45, Try.ntmps45
    go_wp2
    go_ret2
    exact HN.out
  · have hl' : s.toList.isEmpty = false := by simp; exact h0
    have HN := hid (show nms (bl s) = pcs (bl s) by unfold nms; rw [if_neg h0])
    have HPI := hid (rpieces_any s w hs)
    have hpl := pcs_len (bl s)
    have H0 := hid h0
    generalize bl s = l at *
    clear h0
    go_enter Try.func45, Try.ntmps45
    go_wp2_with fail
    refine HPI.out.mono ?_
    rintro e w1 ⟨v, rfl, ho, hb⟩
    obtain ⟨ax, cx, rfl⟩ := ho.strs.shape
    have HO := hid ho
    have HB := hid hb
    clear ho hb HPI
    go_wp2
    go_loop [5] (fun i => ∃ k : Nat, k ≤ (pcs l).length ∧ i = .int .i64 k ∧ nmTo (pcs l) k) (fun i => (pcs l).length - (intOf i).toNat)
    case atStart => exact ⟨0, by omega, rfl, fun j hj => by omega⟩
    case round =>
      obtain ⟨k, hk, rfl, hto⟩ := hrel
      have HTO := hid hto
      clear hto
      by_cases hlt : k < (pcs l).length
      · have q1 : (k : Int) < ((pcs l).length : Int) := by omega
        obtain ⟨g, o, rfl, hc⟩ := HO.out.strs.at k hlt
        cases hnm : nmP ((pcs l).getD k []) with
        | true =>
          have HNA := hid (rname_is (mk ((pcs l).getD k [])) true (by rw [bl_mk]; exact hnm))
          have HX := hid (nmTo_next HTO.out hnm)
          clear hnm
          generalize mk ((pcs l).getD k []) = x at *
          go_wp2_with (go_at_call 65; refine (HNA.out _).mono ?_; rintro e w' ⟨rfl, hw⟩; subst w')
          exact ⟨⟨k + 1, by omega, by simp, HX.out⟩, by simp [intOf]; omega⟩
        | false =>
          have HNA := hid (rname_is (mk ((pcs l).getD k [])) false (by rw [bl_mk]; exact hnm))
          have HX := hid (okP_no H0.out hlt hnm)
          clear hnm
          generalize mk ((pcs l).getD k []) = x at *
          go_wp2_with (go_at_call 65; refine (HNA.out _).mono ?_; rintro e w' ⟨rfl, hw⟩; subst w')
          go_ret2
          exact ⟨Or.inr ⟨HX.out, rfl⟩, HB.out⟩
      · have q1 : ¬ (k : Int) < ((pcs l).length : Int) := by omega
        obtain rfl : k = (pcs l).length := by omega
        have HA := hid (List.all_eq_true.2 (nmTo_all HTO.out))
        by_cases h32 : 32 < (pcs l).length
        · have q2 : (32 : Int) < ((pcs l).length : Int) := by omega
          have HE := hid (show okP l = false by rw [okP_pcs H0.out, HA.out, decide_eq_false (by omega)]; rfl)
          clear h32
          go_wp2
          go_ret2
          exact ⟨Or.inr ⟨HE.out, rfl⟩, HB.out⟩
        · have q2 : ¬ (32 : Int) < ((pcs l).length : Int) := by omega
          have HE := hid (show okP l = true by rw [okP_pcs H0.out, HA.out, decide_eq_true (by omega)]; rfl)
          clear h32
          go_wp2
          go_ret2
          exact ⟨Or.inl ⟨HE.out, _, rfl, by rw [HN.out]; exact HO.out⟩, HB.out⟩

end Go.Proofs.Yteijkbanlpodpaa

/- The document's Path. -/
namespace Go.Proofs.Yteijkbanlpodpaa
open Go.RowKit

set_option maxHeartbeats 1000000 in
theorem rpath_any (s : ByteArray) (w : World) (hs : (bl s).length ≤ 1099511627776) :
    Calls Try.prog 44 #[.string s] w fun e w' => e = .returned (.bool (okP (bl s))) ∧ Below w.heap.size w w' := by
  have HN := hid (rnames_any s w hs)
  clear hs
  go_enter Try.func44, Try.ntmps44
  go_wp2_with fail
  refine HN.out.mono ?_
  rintro e w1 ⟨⟨hok, v1, rfl, ho⟩ | ⟨hok, rfl⟩, hb⟩
  · have HOK := hid hok
    have HB := hid hb
    obtain ⟨a1, c1, rfl⟩ := ho.strs.shape
    clear hok hb ho
    go_wp2
    go_ret
    exact ⟨ret_b (by rw [HOK.out]), HB.out⟩
  · have HOK := hid hok
    have HB := hid hb
    clear hok hb
    go_wp2
    go_ret
    exact ⟨ret_b (by rw [HOK.out]), HB.out⟩

end Go.Proofs.Yteijkbanlpodpaa

/- How many names two rows begin with, of both sides. -/
namespace Go.Proofs.Yteijkbanlpodpaa
open Go.RowKit

def comL : List (List UInt8) → List (List UInt8) → Nat
  | x :: a, y :: b => if x = y then comL a b + 1 else 0
  | _, _ => 0
theorem comL_is : ∀ {k : Nat} {x y : List (List UInt8)}, k ≤ x.length → k ≤ y.length → x.take k = y.take k → (k = x.length ∨ k = y.length ∨ x.getD k [] ≠ y.getD k []) → comL x y = k
  | 0, [], y, _, _, _, _ => by cases y <;> rfl
  | 0, x :: a, [], _, _, _, _ => rfl
  | 0, x :: a, y :: b, _, _, _, h => by
    have : x ≠ y := by simpa using h
    simp [comL, this]
  | k + 1, [], _, h, _, _, _ => by simp at h
  | k + 1, x :: a, [], _, h, _, _ => by simp at h
  | k + 1, x :: a, y :: b, h1, h2, h3, h4 => by
    simp only [List.take_succ_cons, List.cons.injEq] at h3
    obtain ⟨rfl, h3⟩ := h3
    have ih := comL_is (k := k) (x := a) (y := b) (by simpa using h1) (by simpa using h2) h3 (by simpa using h4)
    simp [comL, ih]
theorem take_next {x y : List (List UInt8)} {k : Nat} (h1 : k < x.length) (h2 : k < y.length) (h : x.take k = y.take k) (e : x.getD k [] = y.getD k []) : x.take (k + 1) = y.take (k + 1) := by
  rw [List.take_succ_eq_append_getElem h1, List.take_succ_eq_append_getElem h2, h]
  simp [List.getD_eq_getElem?_getD, h1, h2] at e
  rw [e]
theorem comL_le : ∀ (x y : List (List UInt8)), comL x y ≤ x.length ∧ comL x y ≤ y.length ∧ x.take (comL x y) = y.take (comL x y)
  | [], y => by cases y <;> simp [comL]
  | x :: a, [] => by simp [comL]
  | x :: a, y :: b => by
    have ih := comL_le a b
    by_cases h : x = y
    · subst h
      rw [show comL (x :: a) (x :: b) = comL a b + 1 by simp [comL]]
      exact ⟨by simp; omega, by simp; omega, by rw [List.take_succ_cons, List.take_succ_cons, ih.2.2]⟩
    · simp [comL, h]

set_option maxRecDepth 100000 in
set_option maxHeartbeats 1000000 in
theorem rcommon_any (va vb : Value) (x y : List (List UInt8)) (w : World) (ha : Strs w va x) (hb : Strs w vb y) (hx : x.length ≤ 9223372036854775806) (hy : y.length ≤ 9223372036854775806) :
    Calls Try.prog 73 #[va, vb] w fun e w' => e = .returned (.int .i64 (comL x y)) ∧ ∃ n, w' = w.drewN n := by
  have HA := hid ha
  have HB := hid hb
  obtain ⟨a1, c1, rfl⟩ := ha.shape
  obtain ⟨a2, c2, rfl⟩ := hb.shape
  clear ha hb
  go_enter Try.func73, Try.ntmps73
  go_wp2
  go_loopw [5] (fun i wr => ∃ k q : Nat, k ≤ x.length ∧ k ≤ y.length ∧ i = .int .i64 k ∧ wr = w.drewN q ∧ Hid (x.take k = y.take k)) (fun i _ => x.length - (intOf i).toNat)
  case atStart => exact ⟨0, 0, by omega, by omega, rfl, rfl, rfl⟩
  case round =>
    obtain ⟨k, q, hkx, hky, rfl, rfl, HT⟩ := hrel
    by_cases h1 : k < x.length
    · have d1 : decide ((k : Int) < (x.length : Int)) = true := by simpa using h1
      have d1' : (k : Int) < (x.length : Int) := by omega
      by_cases h2 : k < y.length
      · have d2 : decide ((k : Int) < (y.length : Int)) = true := by simpa using h2
        have d2' : (k : Int) < (y.length : Int) := by omega
        obtain ⟨g1, o1, rfl, e1⟩ := HA.out.at k h1
        obtain ⟨g2, o2, rfl, e2⟩ := HB.out.at k h2
        by_cases he : x.getD k [] = y.getD k []
        · have HN := hid (take_next h1 h2 HT.out he)
          rw [← he] at e2
          generalize mk (x.getD k []) = s at *
          clear he
          go_wp2_with fail
          go_quiet (fail)
          go_wp2_with fail
          go_roundw
          case rel => exact ⟨k + 1, q + nq, by omega, by omega, by go_num, rfl, HN⟩
          case measure => simp [intOf]; omega
        · have HR := hid (comL_is hkx hky HT.out (Or.inr (Or.inr he)))
          have l1 : (mk (x.getD k [])).toList = x.getD k [] := bl_mk _
          have l2 : (mk (y.getD k [])).toList = y.getD k [] := bl_mk _
          have hne : ((mk (x.getD k [])).toList == (mk (y.getD k [])).toList) = false := by rw [l1, l2]; simpa using he
          clear he l1 l2
          generalize mk (x.getD k []) = s at *
          generalize mk (y.getD k []) = s2 at *
          go_wp2_with fail
          go_quiet (fail)
          go_wp2
          go_ret
          exact ⟨ret_i (by rw [HR.out]), q + nq, by simp⟩
      · have d2 : decide ((k : Int) < (y.length : Int)) = false := by simp; omega
        have d2' : ¬ (k : Int) < (y.length : Int) := by omega
        have HR := hid (comL_is hkx hky HT.out (Or.inr (Or.inl (by omega))))
        go_wp2_with fail
        go_quiet (fail)
        go_wp2
        go_ret
        exact ⟨ret_i (by rw [HR.out]), q + nq, by simp⟩
    · have d1 : decide ((k : Int) < (x.length : Int)) = false := by simp; omega
      have d1' : ¬ (k : Int) < (x.length : Int) := by omega
      have HR := hid (comL_is hkx hky HT.out (Or.inl (by omega)))
      go_wp2_with fail
      go_quiet (fail)
      go_wp2
      go_ret
      exact ⟨ret_i (by rw [HR.out]), q + nq, by simp⟩

end Go.Proofs.Yteijkbanlpodpaa

/- Slices of texts, cut. -/
namespace Go.Proofs.Yteijkbanlpodpaa
open Go.RowKit

theorem at_off (g o j : Nat) : (⟨g, o, none⟩ : Addr).add j = ⟨g, o + j, none⟩ := by
  by_cases h0 : j = 0 <;> simp [Addr.add, h0]

/-- the first ones -/
theorem cut_to {w : World} {v : Value} {ts : List (List UInt8)} (h : Strs w v ts) (k : Nat) (hk : k ≤ ts.length) :
    ∃ vx, Strs w vx (ts.take k) ∧ (∀ W, (Instr.slice 29 v none (some (.int .i64 (k : Int))) none).run Try.prog W = .ok vx W) := by
  rcases h with ⟨ao, c, rfl, rfl, h0⟩ | ⟨g, o, c, rfl, hlt, h1, hc⟩
  · simp at hk
    subst hk
    cases ao with
    | none =>
      obtain rfl := h0 rfl
      exact ⟨.slice none 0 0, Or.inl ⟨_, _, rfl, rfl, fun _ => rfl⟩, fun W => by go_simp⟩
    | some ad => exact ⟨.slice (some ad) 0 c, Or.inl ⟨_, _, rfl, rfl, fun e => by cases e⟩, fun W => sl_to ad 0 c 0 (Nat.zero_le _) W⟩
  · have hlen : (ts.take k).length = k := by simp; omega
    refine ⟨.slice (some ⟨g, o, none⟩) k c, Or.inr ⟨g, o, c, by rw [hlen], hlt, by omega, fun j hj => ?_⟩, fun W => sl_to _ _ c k (by omega) W⟩
    rw [hlen] at hj
    rw [hc j (by omega)]
    simp [List.getD_eq_getElem?_getD, hj]
/-- what comes behind the first ones -/
theorem cut_from {w : World} {v : Value} {ts : List (List UInt8)} (h : Strs w v ts) (k : Nat) (hk : k ≤ ts.length) :
    ∃ vx, Strs w vx (ts.drop k) ∧ (∀ W, (Instr.slice 29 v (some (.int .i64 (k : Int))) none none).run Try.prog W = .ok vx W) := by
  rcases h with ⟨ao, c, rfl, rfl, h0⟩ | ⟨g, o, c, rfl, hlt, h1, hc⟩
  · simp at hk
    subst hk
    cases ao with
    | none =>
      obtain rfl := h0 rfl
      exact ⟨.slice none 0 0, Or.inl ⟨_, _, rfl, rfl, fun _ => rfl⟩, fun W => by go_simp⟩
    | some ad =>
      refine ⟨.slice (if c = 0 then some ad else some (ad.add 0)) 0 c, Or.inl ⟨_, _, rfl, rfl, fun e => ?_⟩, fun W => by go_simp⟩
      split at e <;> cases e
  · have hlen : (ts.drop k).length = ts.length - k := by simp
    have hk2 : (k : Int) ≤ (ts.length : Int) := by omega
    refine ⟨.slice (if c = k then some ⟨g, o, none⟩ else some ((⟨g, o, none⟩ : Addr).add k)) (ts.length - k) (c - k), ?_, fun W => by go_simp⟩
    by_cases hck : c = k
    · rw [if_pos hck]
      have e0 : ts.length - k = 0 := by omega
      refine Or.inl ⟨_, _, by rw [e0], ?_, fun e => by cases e⟩
      exact List.length_eq_zero_iff.1 (by rw [hlen]; exact e0)
    · rw [if_neg hck, at_off]
      refine Or.inr ⟨g, o + k, c - k, by rw [hlen], hlt, by rw [hlen]; omega, fun j hj => ?_⟩
      rw [hlen] at hj
      rw [Nat.add_assoc, hc (k + j) (by omega)]
      simp [List.getD_eq_getElem?_getD]

end Go.Proofs.Yteijkbanlpodpaa

/- The document's Split. -/
namespace Go.Proofs.Yteijkbanlpodpaa
open Go.RowKit

set_option maxRecDepth 100000 in
set_option maxHeartbeats 1000000 in
theorem rsplit_any (s : ByteArray) (w : World) (hs : (bl s).length ≤ 1048576) :
    Calls Try.prog 26 #[.string s] w fun e w' => e = .returned (.tuple #[.string (mk (spD (bl s))), .string (mk (spN (bl s))), .int .i64 (spE (bl s))]) ∧ Below w.heap.size w w' := by
  have HN := hid (rnames_any s w (by omega))
  clear hs
  go_enter Try.func26, Try.ntmps26
  go_wp2_with fail
  refine HN.out.mono ?_
  rintro e w1 ⟨⟨ok, v, rfl, ho⟩ | ⟨ok, rfl⟩, hb⟩
  · have hpl := (okP_iff _).1 ok
    have HB := hid hb
    have HPL := hid hpl
    by_cases h0 : bl s = []
    · have hD : spD (bl s) = [] := by rw [h0]; rfl
      have hN : spN (bl s) = [] := by rw [h0]; rfl
      have hE : spE (bl s) = 46 := by rw [h0]; rfl
      have hn : nms (bl s) = [] := by rw [h0]; rfl
      rw [hn] at ho
      obtain ⟨a, c, rfl⟩ := ho.strs.shape
      have H1 := hid hD
      have H2 := hid hN
      have H3 := hid hE
      clear hD hN hE hn h0 hb ok hpl HN ho HPL
      go_wp2
      go_ret3
      exact ⟨ret_ssi H1.out.symm H2.out.symm H3.out.symm, HB.out⟩
    · have hne : nms (bl s) ≠ [] := by unfold nms; rw [if_neg h0]; exact pcs_ne _
      have hpos : 0 < (nms (bl s)).length := List.length_pos_iff.2 hne
      obtain ⟨I, HI⟩ : ∃ I : Nat, Hid (I = (nms (bl s)).length - 1) := ⟨_, rfl⟩
      have hIl : I < (nms (bl s)).length := by rw [HI.out]; omega
      obtain ⟨vz, hvz, hsl⟩ := cut_to ho.strs I (by omega)
      have hl : (nms (bl s)).getLastD [] = (nms (bl s)).getD I [] := by
        rw [List.getLastD_eq_getLast?, List.getLast?_eq_getElem?, HI.out, List.getD_eq_getElem?_getD]
      have H1 := hid (show spD (bl s) = txt ((nms (bl s)).take I) by unfold spD; rw [ok, if_pos rfl, List.dropLast_eq_take, HI.out])
      have H2 := hid (show spN (bl s) = (nms (bl s)).getD I [] by unfold spN; rw [ok, if_pos rfl, hl])
      have H3 := hid (show spE (bl s) = 0 by unfold spE; rw [ok, if_pos rfl, if_neg h0])
      have hb2 := lens_pcs ((nms (bl s)).take I) (fun p hp => hpl.1 p (List.mem_of_mem_take hp))
      have hll : ((nms (bl s)).take I).length = I := by rw [List.length_take]; omega
      have h32 := hpl.2
      have HT := hid (fun q : Nat => rtext_any vz _ (w1.drewN q) hvz (by omega) (by omega))
      obtain ⟨az, cz, hzz⟩ := hvz.shape
      rw [hll] at hzz
      subst hzz
      obtain ⟨a, c, rfl⟩ := ho.strs.shape
      obtain ⟨g, o, rfl, hcell⟩ := ho.strs.at I hIl
      have i1 : IntKind.i64.wrap (((nms (bl s)).length : Int) - 1) = (I : Int) := by rw [IntKind.wrap_i64, HI.out]; omega
      have q0 : (((nms (bl s)).length : Int) == 0) = false := by simp; exact hne
      have q0' : ¬ ((nms (bl s)).length : Int) = 0 := by omega
      have q1 : (I : Int) < ((nms (bl s)).length : Int) := by omega
      have HX := hid (show mk ((nms (bl s)).getD I []) = mk (spN (bl s)) by rw [H2.out])
      generalize mk ((nms (bl s)).getD I []) = x at *
      clear hb2 hll h32 hl ok hpl hne hpos hvz hb ho HN h0
      go_wp2_with fail
      go_quiet (first | (go_at_call 46; exact Calls.quiet_of_same (HT.out _)))
      go_wp2
      go_ret3
      rw [HX.out]
      exact ⟨ret_ssi H1.out.symm rfl H3.out.symm, ⟨HB.out.os, HB.out.tape, HB.out.output, HB.out.size, HB.out.block⟩⟩
  · have HB := hid hb
    have H1 := hid (show spD (bl s) = [] by unfold spD; rw [ok]; rfl)
    have H2 := hid (show spN (bl s) = [] by unfold spN; rw [ok]; rfl)
    have H3 := hid (show spE (bl s) = 45 by unfold spE; rw [ok]; rfl)
    clear hb ok HN
    go_wp2
    go_ret3
    exact ⟨ret_ssi H1.out.symm H2.out.symm H3.out.symm, HB.out⟩

end Go.Proofs.Yteijkbanlpodpaa

/- The document's Compare. -/
namespace Go.Proofs.Yteijkbanlpodpaa
open Go.RowKit

theorem less_cb : ∀ x y, Op.bytesLess x y = decide (cb x y < 0)
  | [], [] => by decide
  | _ :: _, [] => by simp [Op.bytesLess, cb, Lib.compareBytes]
  | [], _ :: _ => by simp [Op.bytesLess, cb, Lib.compareBytes]
  | a :: x, b :: y => by
    have ih := less_cb x y
    have hc : cb (a :: x) (b :: y) = if a < b then -1 else if b < a then 1 else cb x y := by
      show Lib.compareBytes _ _ = _
      rw [Lib.compareBytes]
      rfl
    simp only [Op.bytesLess, ih]
    rw [hc]
    by_cases h1 : a < b
    · rw [if_pos h1]; simp [h1]
    · rw [if_neg h1]
      by_cases h2 : b < a
      · rw [if_pos h2]
        have hne : ¬ a = b := fun e => by subst e; exact h1 h2
        simp [h1, hne]
      · rw [if_neg h2]
        have he := u8_eq h1 h2
        subst he
        simp [h1]

/-- the order by the names that both begin with -/
theorem cmp_com : ∀ x y : List (List UInt8), (comL x y = x.length ∧ comL x y = y.length → cmpL x y = 0) ∧ (comL x y = x.length ∧ comL x y ≠ y.length → cmpL x y = -1) ∧ (comL x y ≠ x.length ∧ comL x y = y.length → cmpL x y = 1) ∧ (comL x y ≠ x.length ∧ comL x y ≠ y.length → cmpL x y = cb (x.getD (comL x y) []) (y.getD (comL x y) []) ∧ cmpL x y ≠ 0)
  | [], [] => by simp [comL, cmpL]
  | [], _ :: _ => by simp [comL, cmpL]
  | _ :: _, [] => by simp [comL, cmpL]
  | x :: a, y :: b => by
    have ih := cmp_com a b
    by_cases h : x = y
    · subst h
      rw [show comL (x :: a) (x :: b) = comL a b + 1 by simp [comL], show cmpL (x :: a) (x :: b) = cmpL a b by rw [cmpL, if_pos (cb_self x)]]
      simpa using ih
    · have hc : ¬ cb x y = 0 := fun e => h (cb_zero e)
      rw [show comL (x :: a) (y :: b) = 0 by simp [comL, h], show cmpL (x :: a) (y :: b) = cb x y by rw [cmpL, if_neg hc]]
      simp [hc]

set_option maxRecDepth 100000 in
set_option maxHeartbeats 1000000 in
theorem rcompare_any (a b : ByteArray) (w : World) (ha : (bl a).length ≤ 1048576) (hb : (bl b).length ≤ 1048576) :
    Calls Try.prog 55 #[.string a, .string b] w fun e w' => e = .returned (.tuple #[.int .i64 (cmP (bl a) (bl b)), .int .i64 (pN (bl a) (bl b))]) ∧ Below w.heap.size w w' := by
  have HA := hid (rnames_any a w (by omega))
  have HBN := hid (rnames_any b · (by omega))
  clear ha hb
  go_enter Try.func55, Try.ntmps55
  go_wp2_with fail
  refine HA.out.mono ?_
  rintro e w1 ⟨⟨oa, va, rfl, hoa⟩ | ⟨oa, rfl⟩, hb1⟩
  · obtain ⟨aa, ca, rfl⟩ := hoa.strs.shape
    have HOA := hid hoa
    have HB1 := hid hb1
    have hxl := ((okP_iff _).1 oa).2
    have HOKA := hid oa
    clear hoa hb1 oa HA
    go_wp2_with fail
    refine (HBN.out w1).mono ?_
    rintro e w2 ⟨⟨ob, vb, rfl, hob⟩ | ⟨ob, rfl⟩, hb2⟩
    · obtain ⟨ab, cb', rfl⟩ := hob.strs.shape
      have hyl := ((okP_iff _).1 ob).2
      have HB2 := hid (below_tr HB1.out (below_le hb2 HB1.out.size))
      have HSA := hid (HOA.out.below hb2).strs
      have HSB := hid hob.strs
      have HSH := hid (rcommon_any _ _ _ _ w2 (HOA.out.below hb2).strs hob.strs (by omega) (by omega))
      have HP := hid (show pN (bl a) (bl b) = 0 by unfold pN; rw [if_pos ⟨HOKA.out, ob⟩])
      have HCM := hid (show cmP (bl a) (bl b) = cmpL (nms (bl a)) (nms (bl b)) by unfold cmP; rw [if_pos ⟨HOKA.out, ob⟩])
      have HUP := hid (cmp_com (nms (bl a)) (nms (bl b)))
      have HLE := hid (comL_le (nms (bl a)) (nms (bl b)))
      have HRG := hid (cmpL_range (nms (bl a)) (nms (bl b)))
      clear hob hb2 ob HBN HOA HB1
      generalize nms (bl a) = x at *
      generalize nms (bl b) = y at *
      by_cases h1 : comL x y = x.length
      · have q1 : ((comL x y : Int) == (x.length : Int)) = true := by simp; omega
        have q1' : (comL x y : Int) = (x.length : Int) := by omega
        by_cases h2 : comL x y = y.length
        · have HT := hid (HUP.out.1 ⟨h1, h2⟩)
          have q2 : ((comL x y : Int) == (y.length : Int)) = true := by simp; omega
          have q2' : (comL x y : Int) = (y.length : Int) := by omega
          generalize comL x y = cc at *
          clear h1 h2
          go_wp2_with (go_at_call 73; refine HSH.out.mono ?_; rintro e w' ⟨rfl, n, rfl⟩)
          go_ret2
          exact ⟨ret_ii (by rw [HCM.out, HT.out]) HP.out.symm, ⟨HB2.out.os, HB2.out.tape, HB2.out.output, HB2.out.size, HB2.out.block⟩⟩
        · have HT := hid (HUP.out.2.1 ⟨h1, h2⟩)
          have q2 : ((comL x y : Int) == (y.length : Int)) = false := by simp; omega
          have q2' : ¬ (comL x y : Int) = (y.length : Int) := by omega
          generalize comL x y = cc at *
          clear h1 h2
          go_wp2_with (go_at_call 73; refine HSH.out.mono ?_; rintro e w' ⟨rfl, n, rfl⟩)
          go_ret2
          exact ⟨ret_ii (by rw [HCM.out, HT.out]) HP.out.symm, ⟨HB2.out.os, HB2.out.tape, HB2.out.output, HB2.out.size, HB2.out.block⟩⟩
      · have q1 : ((comL x y : Int) == (x.length : Int)) = false := by simp; omega
        have q1' : ¬ (comL x y : Int) = (x.length : Int) := by omega
        by_cases h2 : comL x y = y.length
        · have HT := hid (HUP.out.2.2.1 ⟨h1, h2⟩)
          have q2 : ((comL x y : Int) == (y.length : Int)) = true := by simp; omega
          have q2' : (comL x y : Int) = (y.length : Int) := by omega
          generalize comL x y = cc at *
          clear h1 h2
          go_wp2_with (go_at_call 73; refine HSH.out.mono ?_; rintro e w' ⟨rfl, n, rfl⟩)
          go_ret2
          exact ⟨ret_ii (by rw [HCM.out, HT.out]) HP.out.symm, ⟨HB2.out.os, HB2.out.tape, HB2.out.output, HB2.out.size, HB2.out.block⟩⟩
        · have q2 : ((comL x y : Int) == (y.length : Int)) = false := by simp; omega
          have q2' : ¬ (comL x y : Int) = (y.length : Int) := by omega
          have hlx : comL x y < x.length := by have := HLE.out.1; omega
          have hly : comL x y < y.length := by have := HLE.out.2.1; omega
          obtain ⟨g1, o1, rfl, e1⟩ := HSA.out.at (comL x y) hlx
          obtain ⟨g2, o2, rfl, e2⟩ := HSB.out.at (comL x y) hly
          have HX := hid (HUP.out.2.2.2 ⟨h1, h2⟩)
          have l1 : (mk (x.getD (comL x y) [])).toList = x.getD (comL x y) [] := bl_mk _
          have l2 : (mk (y.getD (comL x y) [])).toList = y.getD (comL x y) [] := bl_mk _
          have q3 : ((comL x y : Nat) : Int) < (x.length : Int) := by omega
          have q4 : ((comL x y : Nat) : Int) < (y.length : Int) := by omega
          by_cases h3 : cmpL x y < 0
          · have hls : Op.bytesLess (mk (x.getD (comL x y) [])).toList (mk (y.getD (comL x y) [])).toList = true := by
              rw [l1, l2, less_cb, ← HX.out.1]; simpa using h3
            have HT := hid (show cmpL x y = -1 by have := HRG.out; omega)
            clear l1 l2 h3
            generalize mk (x.getD (comL x y) []) = s1 at *
            generalize mk (y.getD (comL x y) []) = s2 at *
            generalize comL x y = cc at *
            clear h1 h2
            go_wp2_with (go_at_call 73; refine HSH.out.mono ?_; rintro e w' ⟨rfl, n, rfl⟩)
            go_quiet (fail)
            go_wp2
            go_ret2
            exact ⟨ret_ii (by rw [HCM.out, HT.out]) HP.out.symm, ⟨HB2.out.os, HB2.out.tape, HB2.out.output, HB2.out.size, HB2.out.block⟩⟩
          · have hls : Op.bytesLess (mk (x.getD (comL x y) [])).toList (mk (y.getD (comL x y) [])).toList = false := by
              rw [l1, l2, less_cb, ← HX.out.1]; simpa using h3
            have HT := hid (show cmpL x y = 1 by have := HRG.out; have := HX.out.2; omega)
            clear l1 l2 h3
            generalize mk (x.getD (comL x y) []) = s1 at *
            generalize mk (y.getD (comL x y) []) = s2 at *
            generalize comL x y = cc at *
            clear h1 h2
            go_wp2_with (go_at_call 73; refine HSH.out.mono ?_; rintro e w' ⟨rfl, n, rfl⟩)
            go_quiet (fail)
            go_wp2
            go_ret2
            exact ⟨ret_ii (by rw [HCM.out, HT.out]) HP.out.symm, ⟨HB2.out.os, HB2.out.tape, HB2.out.output, HB2.out.size, HB2.out.block⟩⟩
    · have HB2 := hid (below_tr HB1.out (below_le hb2 HB1.out.size))
      have HP := hid (show pN (bl a) (bl b) = 45 by unfold pN; rw [if_neg (by rw [ob]; simp)])
      have HAB := hid (show cmP (bl a) (bl b) = 0 by unfold cmP; rw [if_neg (by rw [ob]; simp)])
      clear hb2 ob HBN HOA HB1
      go_wp2
      go_ret2
      exact ⟨ret_ii HAB.out.symm HP.out.symm, HB2.out⟩
  · have HB1 := hid hb1
    have HP := hid (show pN (bl a) (bl b) = 45 by unfold pN; rw [if_neg (by rw [oa]; simp)])
    have HAB := hid (show cmP (bl a) (bl b) = 0 by unfold cmP; rw [if_neg (by rw [oa]; simp)])
    clear hb1 oa HA
    go_wp2_with fail
    refine (HBN.out w1).mono ?_
    rintro e w2 ⟨⟨ob, vb, rfl, hob⟩ | ⟨ob, rfl⟩, hb2⟩
    · obtain ⟨ab, cb', rfl⟩ := hob.strs.shape
      have HB2 := hid (below_tr HB1.out (below_le hb2 HB1.out.size))
      clear hb2 ob HBN HB1 hob
      go_wp2
      go_ret2
      exact ⟨ret_ii HAB.out.symm HP.out.symm, HB2.out⟩
    · have HB2 := hid (below_tr HB1.out (below_le hb2 HB1.out.size))
      clear hb2 ob HBN HB1
      go_wp2
      go_ret2
      exact ⟨ret_ii HAB.out.symm HP.out.symm, HB2.out⟩

end Go.Proofs.Yteijkbanlpodpaa
