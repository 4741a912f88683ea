/- Contracts and pure facts that the proof needs, joined. -/
import Derived.Shelf.Strings.Builder1
import Derived.Shelf.Strings.Builder2
import Derived.Shelf.Strings.OnBuilder
import Derived.Shelf.Small.Strs
import Derived.Shelf.Strings.BuilderF
import Derived.Shelf.Strings.BuilderK
import Derived.Shelf.Utf8.RuneCount
import Derived.Shelf.Strconv.Clone
import Derived.Shelf.Strings.Search1
import Derived.Shelf.Strings.Search2
import Derived.Shelf.Strings.Search3
import Derived.Shelf.Strings.Cut
import Derived.Shelf.Strings.Count
import Derived.Shelf.Strings.LastIndex
import Derived.Shelf.Strings.Prefix
import Derived.Shelf.Strings.Split
import Derived.Shelf.Strings.SplitShaped
import Derived.Shelf.Strings.RuneCount
import Derived.Shelf.Strings.Explode
import Derived.Test.YtlpengaclkidiaaGreatDoorProg
import Derived.WalkKit
import Derived.WalkSpells
import Derived.WalkLawsBesides
import Derived.BigQuiet
import Derived.Deep.QuietTactic
import Derived.Laws.AppendOwnNone
import Derived.Laws.OwnMore
import Derived.Lib.AppendStr
import Derived.Laws.BytesString
import Derived.Laws.IdiomStrings
import Derived.Deep.WholeRow
import Derived.Deep.MidRow
import Derived.Deep.RegionHeld3
import Derived.Lib.Join
import Derived.Lib.Index
import Derived.Lib.SplitLaws
import Derived.Lib.IndexLaws

/- Contracts of the library, laid over this dump. -/
namespace Go.Proofs
open Go.Shelf
def Tryz.lays137_ren : Go.Shelf.Ren := ⟨fun | 137 => 101 | 217 => 110 | 266 => 116 | n => n, fun | 9 => 9 | 5 => 5 | 3 => 3 | n => n, fun | n => n⟩
theorem Tryz.lays137 : Go.Proofs.Lays.n137 Tryz.prog Tryz.lays137_ren := {
  mixed := by kernel_rfl
  f137 := Tryz.func101.trans (congrArg some (by kernel_rfl))
  f217 := Tryz.func110.trans (congrArg some (by kernel_rfl))
  f266 := Tryz.func116.trans (congrArg some (by kernel_rfl))
  t3 := Tryz.underlying3
  a3 := Tryz.isAgg3
  z3 := Tryz.sizeOf3
  v3 := Tryz.zeroValue3
  t5 := Tryz.underlying5
  a5 := Tryz.isAgg5
  z5 := Tryz.sizeOf5
  v5 := Tryz.zeroValue5
  t9 := Tryz.underlying9
  a9 := Tryz.isAgg9
  z9 := Tryz.sizeOf9
  v9 := Tryz.zeroValue9 }
open Go.RowKit in
theorem Tryz.strings_IndexByte (s : ByteArray) (c : Int) (w : World) :
    Calls Tryz.prog 101 #[.string s, .int .u8 c] w fun e w' => e = .returned (.int .i64 (Lib.indexByte s.data.toList c.toNat.toUInt8)) ∧ w' = w := Any.strings_IndexByte Tryz.lays137 s c w
def Tryz.lays99_ren : Go.Shelf.Ren := ⟨fun | 99 => 100 | 206 => 109 | n => n, fun | 9 => 9 | 4 => 4 | 3 => 3 | n => n, fun | n => n⟩
theorem Tryz.lays99 : Go.Proofs.Lays.n99 Tryz.prog Tryz.lays99_ren := {
  mixed := by kernel_rfl
  f99 := Tryz.func100.trans (congrArg some (by kernel_rfl))
  f206 := Tryz.func109.trans (congrArg some (by kernel_rfl))
  t3 := Tryz.underlying3
  a3 := Tryz.isAgg3
  z3 := Tryz.sizeOf3
  v3 := Tryz.zeroValue3
  t4 := Tryz.underlying4
  a4 := Tryz.isAgg4
  z4 := Tryz.sizeOf4
  v4 := Tryz.zeroValue4
  t9 := Tryz.underlying9
  a9 := Tryz.isAgg9
  z9 := Tryz.sizeOf9
  v9 := Tryz.zeroValue9 }
open Go.RowKit Go.Lib in
theorem Tryz.strings_HasPrefix (s p : ByteArray) (w : World) :
    Calls Tryz.prog 100 #[.string s, .string p] w fun e w' => e = .returned (.bool (Lib.hasPrefix s.data.toList p.data.toList)) ∧ w' = w := Any.strings_HasPrefix Tryz.lays99 s p w
end Go.Proofs

/- Small laws on worlds that only grew; bytes of one's own, bytes that lie somewhere; append and make. -/
namespace Go.Proofs.YtlpengaclkidiaaGreatDoor
open Go.RowKit

theorem Tryz.infoU8 : (Tryz.prog.info? 5).map (fun i => (i.zero, i.size, i.bytes)) = some (some (.int .u8 0), 1, 1) := by kernel_rfl

theorem gb_refl (w : World) (row : Option Nat) : w.grownBy w row := ⟨rfl, rfl, rfl, Nat.le_refl _, fun _ _ _ => rfl⟩
theorem gb_trans {a b c : World} {row : Option Nat} (h : a.grownBy b row) (k : b.grownBy c row) : a.grownBy c row :=
  ⟨k.os.trans h.os, k.tape.trans h.tape, k.output.trans h.output, Nat.le_trans h.size k.size,
    fun i hi hne => (k.block i (Nat.lt_of_lt_of_le hi h.size) hne).trans (h.block i hi hne)⟩
/-- a second growth may write what is new since the first world -/
theorem gb_then {a b c : World} {row row' : Option Nat} (h : a.grownBy b row) (k : b.grownBy c row') (hr : ∀ j, row' = some j → a.heap.size ≤ j ∨ row = some j) : a.grownBy c row :=
  ⟨k.os.trans h.os, k.tape.trans h.tape, k.output.trans h.output, Nat.le_trans h.size k.size,
    fun i hi hne => (k.block i (Nat.lt_of_lt_of_le hi h.size) (fun e => by
      rcases hr i e.symm with h1 | h1
      · omega
      · exact hne h1.symm)).trans (h.block i hi hne)⟩
theorem gb_drewN (w : World) (n : Nat) (row : Option Nat) : w.grownBy (w.drewN n) row := ⟨rfl, rfl, rfl, Nat.le_refl _, fun _ _ _ => rfl⟩
theorem gb_drew (w : World) (row : Option Nat) : w.grownBy w.drew row := ⟨rfl, rfl, rfl, Nat.le_refl _, fun _ _ _ => rfl⟩
theorem gb_alloc (w : World) (o : Obj) (row : Option Nat) : w.grownBy (w.alloc o) row :=
  ⟨rfl, rfl, rfl, by simp, fun k hk _ => Below.heap_alloc w o k hk⟩
theorem gb_set (w : World) (a : Addr) (u : Value) : w.grownBy (w.setCell a u) (some a.block) :=
  ⟨rfl, rfl, rfl, by simp, fun k _ hk => Below.heap_setCell w a u k (fun e => hk (by rw [e]))⟩
theorem gb_below {w w' : World} (h : w.grownBy w' none) : Below w.heap.size w w' := ⟨h.os, h.tape, h.output, h.size, fun k hk => h.block k hk (by simp)⟩
theorem below_gb {w w' : World} (h : Below w.heap.size w w') (row : Option Nat) : w.grownBy w' row := ⟨h.os, h.tape, h.output, h.size, fun k hk _ => h.block k hk⟩
theorem gb_any {w w' : World} (h : w.grownBy w' none) (row : Option Nat) : w.grownBy w' row := ⟨h.os, h.tape, h.output, h.size, fun k hk _ => h.block k hk (by simp)⟩
theorem below_walk (w : World) (o : Obj) : Below w.heap.size w (w.alloc o) := (Below.refl _ _).alloc (Nat.le_refl _) _
theorem below_walk2 (w : World) (o p : Obj) : Below w.heap.size w ((w.alloc o).alloc p) := (below_walk w o).alloc (by simp) _

/-- bytes, as cells -/
def bytesV (bs : List UInt8) : List Value := bs.map fun c => Value.int .u8 c.toNat
theorem bytesV_length (bs : List UInt8) : (bytesV bs).length = bs.length := by simp [bytesV]
theorem bytesV_append (a b : List UInt8) : bytesV (a ++ b) = bytesV a ++ bytesV b := by simp [bytesV]
theorem bytesV_get (bs : List UInt8) (j : Nat) : (bytesV bs)[j]? = (bs[j]?).map (fun c => Value.int .u8 c.toNat) := by simp [bytesV]
theorem bytesV_one (bs : List UInt8) : ∀ u ∈ bytesV bs, u.oneCell' = true := by
  intro u hu
  simp only [bytesV, List.mem_map] at hu
  obtain ⟨c, _, rfl⟩ := hu
  rfl
theorem bytesV_inj {a b : List UInt8} (h : bytesV a = bytesV b) : a = b := by
  unfold bytesV at h
  refine (List.map_inj_right ?_).1 h
  intro x y hxy
  simp only [Value.int.injEq, true_and] at hxy
  exact UInt8.toNat_inj.1 (by omega)

theorem addr_add (g j : Nat) : (⟨g, 0, none⟩ : Addr).add j = ⟨g, j, none⟩ := by
  by_cases h : j = 0
  · subst h; simp [Addr.add]
  · simp [Addr.add, h]

/-- v owns the bytes bs, in memory from block 'base' on -/
def OwnB (w : World) (base : Nat) (v : Value) (bs : List UInt8) : Prop := w.ownsRow base 5 1 v bs.length (bytesV bs)
theorem OwnB.kept {w w' : World} {base : Nat} {v : Value} {bs : List UInt8} {row : Option Nat} (h : OwnB w base v bs) (hg : w.grownBy w' row) (hne : v.ownBlock = none ∨ v.ownBlock ≠ row) : OwnB w' base v bs := World.ownsRow.kept h hg hne
theorem OwnB.below {w w' : World} {base : Nat} {v : Value} {bs : List UInt8} (h : OwnB w base v bs) (hb : Below w.heap.size w w') : OwnB w' base v bs :=
  World.ownsRow.kept h (below_gb hb none) (by cases e : v.ownBlock <;> simp)
theorem OwnB.le {w : World} {base base' : Nat} {v : Value} {bs : List UInt8} (h : OwnB w base v bs) (hb : base' ≤ base) : OwnB w base' v bs :=
  ⟨h.1, h.2.elim Or.inl (fun ⟨g, cap, cur, hv, hg, r⟩ => Or.inr ⟨g, cap, cur, hv, Nat.le_trans hb hg, r⟩)⟩
theorem OwnB.forms {w : World} {base : Nat} {v : Value} {bs : List UInt8} (h : OwnB w base v bs) :
    (v = .slice none 0 0 ∧ bs = []) ∨ ∃ g cap, v = .slice (some ⟨g, 0, none⟩) bs.length cap ∧ base ≤ g ∧ g < w.heap.size ∧ bs.length ≤ cap ∧ cap ≤ maxLen ∧ (∀ j, w.frozen? ⟨g, j, none⟩ = false) ∧ ∀ j, j < bs.length → w.cell? ⟨g, j, none⟩ = some (.int .u8 (bs.getD j 0).toNat) := by
  have h' := h
  rcases h.2 with ⟨h0, h1⟩ | ⟨g, cap, cur, hv, hb, hh, h1, h2, _, _⟩
  · exact Or.inl ⟨h0, List.length_eq_zero_iff.1 h1⟩
  · refine Or.inr ⟨g, cap, hv, hb, ?_, h1, h2, ?_, ?_⟩
    · exact (World.ownsRow.lt h' g (by rw [hv]; rfl)).2
    · intro j; simp [World.frozen?, hh]
    · intro j hj
      have := World.ownsRow.cells h' (g := g) (by rw [hv]; rfl) j (.int .u8 (bs.getD j 0).toNat) (by rw [bytesV_get]; simp [List.getElem?_eq_getElem hj, List.getD_eq_getElem?_getD])
      rw [addr_add] at this
      exact this
theorem OwnB.len {w : World} {base : Nat} {v : Value} {bs : List UInt8} (h : OwnB w base v bs) : bs.length ≤ maxLen := by
  rcases h.forms with ⟨_, rfl⟩ | ⟨g, cap, _, _, _, h1, h2, _⟩
  · simp
  · omega
theorem OwnB.shape {w : World} {base : Nat} {v : Value} {bs : List UInt8} (h : OwnB w base v bs) : ∃ a cap, v = .slice a bs.length cap := by
  rcases h.forms with ⟨h1, rfl⟩ | ⟨g, cap, h1, _⟩
  · exact ⟨none, 0, h1⟩
  · exact ⟨_, _, h1⟩
theorem OwnB.lt {w : World} {base : Nat} {v : Value} {bs : List UInt8} (h : OwnB w base v bs) : ∀ k, v.ownBlock = some k → base ≤ k ∧ k < w.heap.size := World.ownsRow.lt h
theorem OwnB.nil (w : World) (base : Nat) : OwnB w base (.slice none 0 0) [] := World.ownsRow_nil _ _ _ _

/-- v is a slice that holds the bytes bs, wherever they lie -/
def Src (w : World) (v : Value) (bs : List UInt8) : Prop :=
  bs.length ≤ 140737488355327 ∧ ((v = .slice none 0 0 ∧ bs = []) ∨ ∃ ad cap, v = .slice (some ad) bs.length cap ∧ bs.length ≤ cap ∧ cap ≤ maxLen ∧ (0 < bs.length → ad.block < w.heap.size) ∧ ∀ j, j < bs.length → w.cell? (ad.add j) = some (.int .u8 (bs.getD j 0).toNat))
theorem addr_block (ad : Addr) (j : Nat) : (ad.add j).block = ad.block := by unfold Addr.add; split <;> rfl
theorem Src.below {w w' : World} {v : Value} {bs : List UInt8} (h : Src w v bs) (hb : Below w.heap.size w w') : Src w' v bs := by
  obtain ⟨h0, h | ⟨ad, cap, rfl, h1, h2, hlt, h3⟩⟩ := h
  · exact ⟨h0, Or.inl h⟩
  · exact ⟨h0, Or.inr ⟨ad, cap, rfl, h1, h2, fun h => Nat.lt_of_lt_of_le (hlt h) hb.size, fun j hj => by rw [hb.cell (p := ad.add j) (by rw [addr_block]; exact hlt (by omega))]; exact h3 j hj⟩⟩
theorem Src.grown {w w' : World} {v : Value} {bs : List UInt8} {row : Option Nat} (h : Src w v bs) (hg : w.grownBy w' row) (hne : v.ownBlock = none ∨ v.ownBlock ≠ row) : Src w' v bs := by
  obtain ⟨h0, h | ⟨ad, cap, rfl, h1, h2, hlt, h3⟩⟩ := h
  · exact ⟨h0, Or.inl h⟩
  · refine ⟨h0, Or.inr ⟨ad, cap, rfl, h1, h2, fun h => Nat.lt_of_lt_of_le (hlt h) hg.size, fun j hj => ?_⟩⟩
    rw [World.cell?_of_block (hg.block (ad.add j).block (by rw [addr_block]; exact hlt (by omega)) (by rw [addr_block]; simpa [Value.ownBlock] using hne))]
    exact h3 j hj
theorem OwnB.src {w : World} {base : Nat} {v : Value} {bs : List UInt8} (h : OwnB w base v bs) (hl : bs.length ≤ 140737488355327) : Src w v bs := by
  refine ⟨hl, ?_⟩
  rcases h.forms with h0 | ⟨g, cap, hv, _, hlt, h1, h2, _, hc⟩
  · exact Or.inl h0
  · exact Or.inr ⟨⟨g, 0, none⟩, cap, hv, h1, h2, fun _ => hlt, fun j hj => by rw [addr_add]; exact hc j hj⟩

section
variable {w : World} {b : Nat}
theorem blk_set {cs : Array Value} {T : TypeId} {i : Nat} (hb : w.heap[b]? = some (.cells cs T (0, 0))) (u : Value) :
    (w.setCell ⟨b, i, none⟩ u).heap[b]? = some (.cells (cs.setIfInBounds i u) T (0, 0)) := by
  simp [World.setCell, Array.getElem?_modify, hb]
end

theorem hid {p : Prop} (h : p) : Hid p := h

theorem src_cells {w : World} {ad : Addr} {bs : List UInt8} (hc : ∀ j, j < bs.length → w.cell? (ad.add j) = some (.int .u8 (bs.getD j 0).toNat)) :
    ∀ j u, (bytesV bs)[j]? = some u → w.cell? (ad.add j) = some u := by
  intro j u hj
  rw [bytesV_get] at hj
  have hjl : j < bs.length := by
    rcases Nat.lt_or_ge j bs.length with h | h
    · exact h
    · rw [List.getElem?_eq_none h] at hj; cases hj
  rw [hc j hjl, ← hj]
  simp [List.getElem?_eq_getElem hjl, List.getD_eq_getElem?_getD]

/-- append(own, bytes...) -/
theorem app_src {w : World} {ops : Array Oper} {rest : List Oper} {o : Oper} {a : Act} {Q : Exit → Act → World → Prop} (hgd : o.guard = none) (s x : Operand)
    (ho : o.op = .call { callee := .builtin .append, args := #[s, x], argTypes := #[58, 58] })
    (base : Nat) (v : Value) (bs : List UInt8) (hs : a.eval s = v) (hown : OwnB w base v bs) (vx : Value) (cs : List UInt8) (hx : a.eval x = vx) (hsrc : Src w vx cs)
    (hlen : bs.length + cs.length ≤ 140737488355327) (hbase : base ≤ w.heap.size)
    (h : ∀ v' w', OwnB w' base v' (bs ++ cs) → w.grownBy w' v.ownBlock → wpList Tryz.prog ops Q rest (a.put o.dst v') w') : wpList Tryz.prog ops Q (o :: rest) a w := by
  obtain ⟨i0, hi, hz0, hz1, hz2⟩ := info_parts Tryz.infoU8
  obtain ⟨_, ⟨rfl, rfl⟩ | ⟨ad, cap, rfl, h1, h2, hlt, hc⟩⟩ := hsrc
  · refine wpList_append_own_none hgd s x 58 ho base 5 i0 1 Tryz.underlying58 hi v bs.length (bytesV bs) hs hown hx ?_
    exact h v w (by simpa using hown) (gb_refl _ _)
  · refine wpList_append_own w hgd s x 58 ho base 5 i0 (.int .u8 0) 1 1 Tryz.underlying58 hi hz0 hz1 hz2 rfl (by decide) v bs.length (bytesV bs) hs hown ad cs.length cap (bytesV cs) hx (by simp [bytesV]) (src_cells hc) (bytesV_one cs) (by unfold maxLen; omega) (by omega) hbase ?_
    intro v' w' h3 h4 _
    exact h v' w' (by unfold OwnB; rw [bytesV_append, List.length_append]; exact h3) h4

/-- append(own, text...) -/
theorem app_str {w : World} {ops : Array Oper} {rest : List Oper} {o : Oper} {a : Act} {Q : Exit → Act → World → Prop} (hgd : o.guard = none) (s x : Operand)
    (ho : o.op = .call { callee := .builtin .append, args := #[s, x], argTypes := #[58, 9] })
    (base : Nat) (v : Value) (bs : List UInt8) (hs : a.eval s = v) (hown : OwnB w base v bs) (t : ByteArray) (hx : a.eval x = .string t)
    (hlen : bs.length + t.size ≤ 140737488355327) (hbase : base ≤ w.heap.size)
    (h : ∀ v' w', OwnB w' base v' (bs ++ t.data.toList) → w.grownBy w' v.ownBlock → wpList Tryz.prog ops Q rest (a.put o.dst v') w') : wpList Tryz.prog ops Q (o :: rest) a w := by
  obtain ⟨i0, hi, hz0, hz1, hz2⟩ := info_parts Tryz.infoU8
  refine Lib.wpList_append_own_string w hgd s x 58 9 ho base 5 i0 Tryz.underlying58 Tryz.underlying9 hi hz0 hz1 hz2 v bs.length (bytesV bs) hs hown t hx (by unfold maxLen; omega) (by omega) hbase ?_
  intro v' w' h3 h4 _
  refine h v' w' ?_ h4
  unfold OwnB
  rw [bytesV_append, List.length_append]
  exact h3

/-- make([]byte, 0, n) -/
theorem make_own {w : World} {ops : Array Oper} {rest : List Oper} {o : Oper} {a : Act} {Q : Exit → Act → World → Prop} (hgd : o.guard = none) (l c : Operand) (ho : o.op = Op.makeSlice 58 l c)
    (C : Int) (n : Nat) (hl : a.eval l = .int .i64 0) (hc : a.eval c = .int .i64 C) (hC : C = (n : Int)) (hn : n ≤ 140737488355327)
    (h : ∀ v' w', OwnB w' w.heap.size v' [] → Below w.heap.size w w' → wpList Tryz.prog ops Q rest (a.put o.dst v') w') : wpList Tryz.prog ops Q (o :: rest) a w := by
  obtain ⟨i0, hi, hz0, hz1, hz2⟩ := info_parts Tryz.infoU8
  refine wpList_make_own w hgd l c 58 ho w.heap.size 5 i0 (.int .u8 0) 1 Tryz.underlying58 hi hz0 hz1 .i64 .i64 C n hl hc hC (by rw [hz2]; omega) (by unfold maxLen; omega) (Nat.le_refl _) ?_
  intro w' h1 h2
  exact h _ w' h1 (gb_below h2)

/-- string(bytes) -/
theorem run_str {w : World} {v : Value} {bs : List UInt8} (h : Src w v bs) : (convert 58 9 v).run Tryz.prog w = .ok (.string ⟨bs.toArray⟩) w := by
  obtain ⟨_, ⟨rfl, rfl⟩ | ⟨ad, cap, rfl, h1, h2, hlt, hc⟩⟩ := h
  · rw [run_convert_bytes_string w 58 9 5 none 0 0 Tryz.underlying58 Tryz.underlying5 Tryz.underlying9]
    rfl
  · refine run_convert_bytes_back w 58 9 5 ad cap bs Tryz.underlying58 Tryz.underlying5 Tryz.underlying9 ?_
    intro j hj
    rw [hc j hj]
    simp [List.getElem?_eq_getElem hj, List.getD_eq_getElem?_getD]


end Go.Proofs.YtlpengaclkidiaaGreatDoor

/- A whole array or struct out of a block and into it, as one law each; an answer that lies in a variable. -/
namespace Go.Proofs.YtlpengaclkidiaaGreatDoor
open Go.RowKit
variable {P : Program}

theorem hp_new (w : World) (o : Obj) : (w.alloc o).heap[w.heap.size]? = some o := heap_alloc_last w o
theorem hp_old (w : World) (o : Obj) (k : Nat) (h : k < w.heap.size) : (w.alloc o).heap[k]? = w.heap[k]? := Below.heap_alloc w o k h
theorem hp_set (w : World) (b c i : Nat) (v : Value) (h : b ≠ c) : (w.setCell ⟨c, i, none⟩ v).heap[b]? = w.heap[b]? := Below.heap_setCell w _ v b (by simpa using h)
theorem hp_size (w : World) (o : Obj) : (w.alloc o).heap.size = w.heap.size + 1 := by simp
theorem hp_lt {w : World} {b : Nat} {o : Obj} (h : w.heap[b]? = some o) : b < w.heap.size := (Array.getElem?_eq_some_iff.1 h).1

/-- a whole row is read -/
theorem ld_row {w : World} {ops : Array Oper} {rest : List Oper} {op : Oper} {a : Act} {Q : Exit → Act → World → Prop} (hgd : op.guard = none) (ty : TypeId) (x : Operand) (ho : op.op = .load ty x)
    (g : Nat) (hx : a.eval x = .pointer (some ⟨g, 0, none⟩)) (cs : List Value) (t : TypeId) (hb : w.heap[g]? = some (.cells cs.toArray t (0, 0))) (d : TypeDesc)
    (hu : P.underlying ty = some d) (hd : d.isRow = true) (hi : (P.info? ty).map (·.size) = some cs.length)
    (h : wpList P ops Q rest (a.put op.dst (.agg cs.toArray)) w) : wpList P ops Q (op :: rest) a w :=
  wpList_load_mid hgd ty x ho g 0 hx cs d (fun j v hv => by rw [Nat.zero_add, cell_of_row w g j cs.toArray t (0, 0) hb]; simpa using hv) hu hd hi h

/-- the world behind a whole row's store -/
structure RowSet (w w' : World) (g : Nat) (cs : List Value) (t : TypeId) : Prop where
  blk : w'.heap[g]? = some (.cells cs.toArray t (0, 0))
  grown : w.grownBy w' (some g)
  size : w'.heap.size = w.heap.size

theorem rowSet (w : World) (g : Nat) (cs : List Value) (t : TypeId) (old : Array Value) (hg : w.heap[g]? = some (.cells old t (0, 0))) : RowSet w (w.setRow g cs.toArray) g cs t := by
  refine ⟨?_, ⟨rfl, rfl, rfl, ?_, ?_⟩, ?_⟩
  · simp [World.setRow, Array.getElem?_modify, hg]
  · simp [World.setRow]
  · intro i hi hne
    have : g ≠ i := fun e => hne (by rw [e])
    simp [World.setRow, Array.getElem?_modify, this]
  · simp [World.setRow]

/-- a whole row is written -/
theorem st_row {w : World} {ops : Array Oper} {rest : List Oper} {o : Oper} {a : Act} {Q : Exit → Act → World → Prop} (hgd : o.guard = none) (ty : TypeId) (x y : Operand) (ho : o.op = .store ty x y)
    (g : Nat) (cs : List Value) (hx : a.eval x = .pointer (some ⟨g, 0, none⟩)) (hy : a.eval y = .agg cs.toArray)
    (t : TypeId) (old : Array Value) (hg : w.heap[g]? = some (.cells old t (0, 0))) (hi : (P.info? ty).map (·.size) = some cs.length)
    (hold : old.size = cs.length) (h1 : ∀ v ∈ cs, v.oneCell' = true)
    (h : ∀ w', RowSet w w' g cs t → wpList P ops Q rest (a.put o.dst undef) w') : wpList P ops Q (o :: rest) a w :=
  wpList_store_row hgd ty x y ho g cs.toArray hx hy t old hg (by simpa using hi) (by simpa using hold) (all_oneCell_toArray h1) (h _ (rowSet w g cs t old hg))

/-- a new variable -/
theorem al_row {w : World} {ops : Array Oper} {rest : List Oper} {o : Oper} {a : Act} {Q : Exit → Act → World → Prop} (hgd : o.guard = none) (ty : TypeId) (ho : o.op = .alloc ty)
    (cs : Array Value) (hz : ∀ w, (zeroValue ty).run P w = .ok (.agg cs) w)
    (h : wpList P ops Q rest (a.put o.dst (.pointer (some ⟨w.heap.size, 0, none⟩))) (w.alloc (.cells cs ty))) : wpList P ops Q (o :: rest) a w := by
  refine wpList_plain hgd fun K hK => ?_
  unfold Oper.wp execOp
  simp only [ho, Instr.alloc, Sem.run_bind, hz, newVar, newRow, run_newObj_alloc, Sem.run_pure, Result.andThen_ok, Value.cells]
  exact hK _ _ h

/-- a whole row is written into the block that was made last -/
theorem st_new {w : World} {ops : Array Oper} {rest : List Oper} {o : Oper} {a : Act} {Q : Exit → Act → World → Prop} (hgd : o.guard = none) (ty : TypeId) (x y : Operand) (ho : o.op = .store ty x y)
    (cs : List Value) (hx : a.eval x = .pointer (some ⟨w.heap.size, 0, none⟩)) (hy : a.eval y = .agg cs.toArray)
    (t : TypeId) (old : Array Value) (hi : (P.info? ty).map (·.size) = some cs.length) (hold : old.size = cs.length) (h1 : ∀ v ∈ cs, v.oneCell' = true)
    (h : wpList P ops Q rest (a.put o.dst undef) (w.alloc (.cells cs.toArray t))) : wpList P ops Q (o :: rest) a (w.alloc (.cells old t)) :=
  wpList_store_row hgd ty x y ho w.heap.size cs.toArray hx hy t old (hp_new w _) (by simpa using hi) (by simpa using hold) (all_oneCell_toArray h1) (by rw [World.setRow_alloc_new]; exact h)

/-- a composite literal -/
theorem bd_row {w : World} {ops : Array Oper} {rest : List Oper} {o : Oper} {a : Act} {Q : Exit → Act → World → Prop} (hgd : o.guard = none) (t : TypeId) (parts : Array (Nat × Operand)) (ho : o.op = .build t parts)
    (vs : List (Nat × Value)) (hvs : (parts.map fun (i, x) => (i, a.eval x)).toList = vs) (cs : Array Value) (hb : P.built t vs = some cs)
    (h : wpList P ops Q rest (a.put o.dst (.agg cs)) w) : wpList P ops Q (o :: rest) a w :=
  wpList_build hgd t parts ho (by rw [hvs, hb]; rfl) (by rw [hvs, hb]; exact h)

/-- a new variable that holds a row -/
theorem bx_row {w : World} {ops : Array Oper} {rest : List Oper} {o : Oper} {a : Act} {Q : Exit → Act → World → Prop} (hgd : o.guard = none) (t : TypeId) (x : Operand) (ho : o.op = .box t x)
    (cs : Array Value) (hx : a.eval x = .agg cs)
    (h : wpList P ops Q rest (a.put o.dst (.pointer (some ⟨w.heap.size, 0, none⟩))) (w.alloc (.cells cs t))) : wpList P ops Q (o :: rest) a w := by
  refine wpList_plain hgd fun K hK => ?_
  unfold Oper.wp execOp
  simp only [ho, hx, Sem.run_bind, Instr.box, newVar, newRow, run_newObj_alloc, Sem.run_pure, Result.andThen_ok, Value.cells]
  exact hK _ _ h

theorem results_cell {fn : Func} {p : Tmp} {ty : TypeId} (h : fn.results = #[.cell p ty]) (tmps : Array Value) (P : Program) (w : World) :
    (results fn tmps).run P w = ((asAddr (tmps.getD p undef)).run P w).andThen fun a w₁ => (loadVar ty a).run P w₁ := by
  simp only [results, h]
  simp [Sem.run_bind, Result.andThen]

/-- the answer is a whole row that lies in a variable -/
theorem ret_row {fn : Func} {R : Ending → World → Prop} {a : Act} {w : World} (p : Tmp) (ty : TypeId) (h : fn.results = #[.cell p ty]) (g : Nat) (hp : a.tmps.getD p undef = .pointer (some ⟨g, 0, none⟩))
    (cs : List Value) (t : TypeId) (hb : w.heap[g]? = some (.cells cs.toArray t (0, 0))) (d : TypeDesc) (hu : P.underlying ty = some d) (hd : d.isRow = true) (hi : (P.info? ty).map (·.size) = some cs.length)
    (hdf : a.defers = []) (hR : R (.returned (.agg cs.toArray)) w) : bodyPost P fn R .ret a w := by
  refine bodyPost_ret (v := .agg cs.toArray) ?_ hdf hR
  rw [results_cell h, hp]
  have := run_loadVar_mid (P := P) w g 0 ty cs d (fun j v hv => by rw [Nat.zero_add, cell_of_row w g j cs.toArray t (0, 0) hb]; simpa using hv) hu hd hi
  simp [asAddr, this]

end Go.Proofs.YtlpengaclkidiaaGreatDoor

/- (as PBase, over SRow) Texts as lists of bytes; slices of texts in memory, of one's own or wherever they lie. -/
namespace Go.Proofs.YtlpengaclkidiaaGreatDoor
open Go.RowKit

/-- a text's bytes, and the text of bytes -/
def bl (s : ByteArray) : List UInt8 := s.toList
def mk (l : List UInt8) : ByteArray := ⟨l.toArray⟩
theorem bl_eq (s : ByteArray) : bl s = s.data.toList := ByteArray.toList_eq s
theorem bl_mk (l : List UInt8) : bl (mk l) = l := ByteArray.toList_mk l
theorem mk_bl (s : ByteArray) : mk (bl s) = s := by
  rw [bl_eq]; exact Lib.mk_data s
theorem bl_size (s : ByteArray) : s.size = (bl s).length := by rw [bl_eq]; exact Lib.size_eq s
theorem mk_size (l : List UInt8) : (mk l).size = l.length := by rw [bl_size, bl_mk]
theorem bl_inj {s t : ByteArray} (h : bl s = bl t) : s = t := by rw [← mk_bl s, h, mk_bl]
theorem mk_inj {a b : List UInt8} (h : mk a = mk b) : a = b := by rw [← bl_mk a, h, bl_mk]
theorem ext_bl (s : ByteArray) (a b : Nat) : s.extract a b = mk (((bl s).take b).drop a) := by
  rw [bl_eq, Lib.extract_eq, List.drop_take]
  rfl


theorem Tryz.infoStr : (Tryz.prog.info? 9).map (fun i => (i.zero, i.size, i.bytes)) = some (some (.string ⟨#[]⟩), 1, 16) := by kernel_rfl

def strV (ts : List (List UInt8)) : List Value := ts.map fun t => Value.string (mk t)
theorem strV_length (ts : List (List UInt8)) : (strV ts).length = ts.length := by simp [strV]
theorem strV_one (ts : List (List UInt8)) : ∀ u ∈ strV ts, u.oneCell' = true := by
  intro u hu
  simp only [strV, List.mem_map] at hu
  obtain ⟨c, _, rfl⟩ := hu
  rfl
theorem strV_get (ts : List (List UInt8)) (j : Nat) (hj : j < ts.length) : (strV ts)[j]? = some (.string (mk (ts.getD j []))) := by
  simp [strV, List.getD_eq_getElem?_getD, hj]

/-- v is a slice that holds the texts ts, wherever they lie -/
def Strs (w : World) (v : Value) (ts : List (List UInt8)) : Prop :=
  (∃ ao c, v = .slice ao 0 c ∧ ts = [] ∧ (ao = none → c = 0)) ∨ ∃ g o c, v = .slice (some ⟨g, o, none⟩) ts.length c ∧ g < w.heap.size ∧ ts.length ≤ c ∧ ∀ j, j < ts.length → w.cell? ⟨g, o + j, none⟩ = some (.string (mk (ts.getD j [])))
theorem Strs.below {w w' : World} {v : Value} {ts : List (List UInt8)} (h : Strs w v ts) (hb : Below w.heap.size w w') : Strs w' v ts := by
  rcases h with h | ⟨g, o, c, hv, hlt, h1, hc⟩
  · exact Or.inl h
  · exact Or.inr ⟨g, o, c, hv, Nat.lt_of_lt_of_le hlt hb.size, h1, fun j hj => by rw [hb.cell (p := ⟨g, o + j, none⟩) hlt]; exact hc j hj⟩
theorem Strs.shape {w : World} {v : Value} {ts : List (List UInt8)} (h : Strs w v ts) : ∃ ao c, v = .slice ao ts.length c := by
  rcases h with ⟨ao, c, hv, rfl, _⟩ | ⟨g, o, c, hv, _⟩
  · exact ⟨ao, c, hv⟩
  · exact ⟨_, _, hv⟩
theorem Strs.at {w : World} {ao : Option Addr} {n c : Nat} {ts : List (List UInt8)} (h : Strs w (.slice ao n c) ts) (k : Nat) (hk : k < ts.length) :
    ∃ g o, ao = some ⟨g, o, none⟩ ∧ w.cell? ⟨g, o + k, none⟩ = some (.string (mk (ts.getD k []))) := by
  rcases h with ⟨_, _, _, h0, _⟩ | ⟨g, o, c, hv, _, _, hc⟩
  · rw [h0] at hk; simp at hk
  · injection hv with h1 _ _
    exact ⟨g, o, h1, hc k hk⟩

/-- v owns the texts ts, in memory from block 'base' on -/
def OwnS (w : World) (base : Nat) (v : Value) (ts : List (List UInt8)) : Prop := w.ownsRow base 9 1 v ts.length (strV ts)
theorem OwnS.nil (w : World) (base : Nat) : OwnS w base (.slice none 0 0) [] := World.ownsRow_nil _ _ _ _
theorem OwnS.lt {w : World} {base : Nat} {v : Value} {ts : List (List UInt8)} (h : OwnS w base v ts) : ∀ k, v.ownBlock = some k → base ≤ k ∧ k < w.heap.size := World.ownsRow.lt h
theorem OwnS.kept {w w' : World} {base : Nat} {v : Value} {ts : List (List UInt8)} {row : Option Nat} (h : OwnS w base v ts) (hg : w.grownBy w' row) (hne : v.ownBlock = none ∨ v.ownBlock ≠ row) : OwnS w' base v ts := World.ownsRow.kept h hg hne
theorem OwnS.below {w w' : World} {base : Nat} {v : Value} {ts : List (List UInt8)} (h : OwnS w base v ts) (hb : Below w.heap.size w w') : OwnS w' base v ts :=
  World.ownsRow.kept h (below_gb hb none) (by cases e : v.ownBlock <;> simp)
theorem OwnS.le {w : World} {base base' : Nat} {v : Value} {ts : List (List UInt8)} (h : OwnS w base v ts) (hb : base' ≤ base) : OwnS w base' v ts :=
  ⟨h.1, h.2.elim Or.inl (fun ⟨g, cap, cur, hv, hg, r⟩ => Or.inr ⟨g, cap, cur, hv, Nat.le_trans hb hg, r⟩)⟩
theorem OwnS.forms {w : World} {base : Nat} {v : Value} {ts : List (List UInt8)} (h : OwnS w base v ts) :
    (v = .slice none 0 0 ∧ ts = []) ∨ ∃ g cap, v = .slice (some ⟨g, 0, none⟩) ts.length cap ∧ base ≤ g ∧ g < w.heap.size ∧ ts.length ≤ cap ∧ cap ≤ maxLen ∧ (∀ j, w.frozen? ⟨g, j, none⟩ = false) ∧ ∀ j, j < ts.length → w.cell? ⟨g, j, none⟩ = some (.string (mk (ts.getD j []))) := by
  have h' := h
  rcases h.2 with ⟨h0, h1⟩ | ⟨g, cap, cur, hv, hb, hh, h1, h2, _, _⟩
  · exact Or.inl ⟨h0, List.length_eq_zero_iff.1 h1⟩
  · refine Or.inr ⟨g, cap, hv, hb, ?_, h1, h2, ?_, ?_⟩
    · exact (World.ownsRow.lt h' g (by rw [hv]; rfl)).2
    · intro j; simp [World.frozen?, hh]
    · intro j hj
      have := World.ownsRow.cells h' (g := g) (by rw [hv]; rfl) j _ (strV_get ts j hj)
      rw [addr_add] at this
      exact this
theorem OwnS.strs {w : World} {base : Nat} {v : Value} {ts : List (List UInt8)} (h : OwnS w base v ts) : Strs w v ts := by
  rcases h.forms with ⟨rfl, rfl⟩ | ⟨g, cap, rfl, h1, h2, h3, h4, h5, h6⟩
  · exact Or.inl ⟨_, _, rfl, rfl, fun _ => rfl⟩
  · exact Or.inr ⟨g, 0, cap, rfl, h2, h3, fun j hj => by rw [Nat.zero_add]; exact h6 j hj⟩
/-- a row that was laid at once -/
theorem OwnS.made {w : World} {g base : Nat} {ts : List (List UInt8)} (hb : w.heap[g]? = some (.cells (strV ts).toArray 9 (0, 0))) (hl : ts.length ≤ 1099511627776) (hg : base ≤ g) (n : Nat) (hn : n = ts.length) :
    OwnS w base (.slice (some ⟨g, 0, none⟩) n n) ts := by
  subst hn
  refine ⟨by simp [strV], Or.inr ⟨g, ts.length, (strV ts).toArray, rfl, hg, hb, Nat.le_refl _, by unfold maxLen; omega, ?_, ?_⟩⟩
  · simp [strV]
  · rw [Nat.mul_one, ← strV_length ts, List.take_length]
/-- without the last ones -/
theorem OwnS.take {w : World} {base g cap : Nat} {ts : List (List UInt8)} (h : OwnS w base (.slice (some ⟨g, 0, none⟩) ts.length cap) ts) (n : Nat) (hn : n ≤ ts.length) : OwnS w base (.slice (some ⟨g, 0, none⟩) n cap) (ts.take n) := by
  obtain ⟨h0, h | ⟨g', cap', cur, hv, hb, hh, h1, h2, h3, h4⟩⟩ := h
  · cases h.1
  · injection hv with e1 e2 e3
    injection e1 with e1
    injection e1 with e1
    subst e1 e3
    have el : (ts.take n).length = n := by rw [List.length_take]; omega
    unfold OwnS
    rw [el]
    refine ⟨by rw [strV_length, el]; omega, Or.inr ⟨g, cap, cur, rfl, hb, hh, by omega, h2, h3, ?_⟩⟩
    have e : strV (ts.take n) = (strV ts).take n := by simp [strV, List.map_take]
    rw [e, ← h4, List.take_take]
    congr 1
    omega

/-- where an append lies: where it lay, or at the end -/
theorem app_place {P : Program} (w : World) (base : Nat) (t ty e : TypeId) (i : TypeInfo) (z : Value) (size bytes : Nat) (ht : P.underlying t = some (.slice e)) (hi : P.info? e = some i) (hz : i.zero = some z)
    (hsize : i.size = size) (hby : i.bytes = bytes)
    (v : Value) (n : Nat) (xs : List Value) (hown : w.ownsRow base e size v n xs)
    (a : Addr) (m c : Nat) (news : List Value) (hl : news.length = m * size) (hnews : ∀ j u, news[j]? = some u → w.cell? (a.add j) = some u) (h1 : ∀ u ∈ news, u.oneCell' = true)
    (h63 : n + m ≤ maxLen) (hbytes : (n + m) * bytes ≤ 140737488355328) (v' : Value) (w' : World)
    (hr : (Builtin.append_ #[t, t] ty #[v, .slice (some a) m c]).run P w = .ok v' w') : v'.ownBlock = v.ownBlock ∨ v'.ownBlock = some w.heap.size := by
  subst hsize
  subst hby
  have hsmall : n + m ≤ 9223372036854775807 := by simp only [maxLen] at h63; omega
  rcases hown.2 with ⟨rfl, rfl⟩ | ⟨g, cap, cur, rfl, hbg, hg, hnc, hcm, hcs, htake⟩
  · by_cases hm : m = 0
    · subst hm
      simp [Builtin.append_, run_underlying ht, sizeOf, typeInfo, hi, Builtin.lenOf, Builtin.firstCells, loadCells, loadCellsFrom] at hr
      rw [← hr.1]
      exact Or.inl rfl
    · have hr2 := run_append_nil (P := P) w t ty e i z ht hi hz a m c news hl hnews (by omega) (by omega) (by have hb := hbytes; simp only [Nat.zero_add] at hb; omega)
      rw [hr] at hr2
      injection hr2 with e1 e2
      rw [e1]
      exact Or.inr rfl
  · by_cases hroom : n + m ≤ cap
    · have hfit : n * i.size + news.length ≤ cur.size := by rw [hl, hcs, ← Nat.add_mul]; exact Nat.mul_le_mul_right _ hroom
      have hr2 := run_append_room (P := P) w t ty e i ht hi g n cap cur hg a m c news hl hnews h1 hroom hfit
      rw [hr] at hr2
      injection hr2 with e1 e2
      rw [e1]
      exact Or.inl rfl
    · have holds : ∀ j u, xs[j]? = some u → w.cell? ((⟨g, 0, none⟩ : Addr).add j) = some u := hown.cells (g := g) rfl
      have hr2 := run_append_grow (P := P) w t ty e i z ht hi hz ⟨g, 0, none⟩ n cap xs hown.1 holds a m c news hl hnews (by omega) (by omega) (growslice_fits (by omega) hbytes)
      rw [hr] at hr2
      injection hr2 with e1 e2
      rw [e1]
      exact Or.inr rfl

/-- append(own, texts...) -/
theorem app_text {w : World} {ops : Array Oper} {rest : List Oper} {o : Oper} {a : Act} {Q : Exit → Act → World → Prop} (hgd : o.guard = none) (s x : Operand)
    (ho : o.op = .call { callee := .builtin .append, args := #[s, x], argTypes := #[34, 34] })
    (base : Nat) (v : Value) (ts : List (List UInt8)) (hs : a.eval s = v) (hown : OwnS w base v ts) (us : List (List UInt8)) (vx : Value) (hx : a.eval x = vx) (hc : Strs w vx us)
    (hlen : ts.length + us.length ≤ 8796093022208) (hbase : base ≤ w.heap.size)
    (h : ∀ v' w', OwnS w' base v' (ts ++ us) → w.grownBy w' v.ownBlock → (v'.ownBlock = v.ownBlock ∨ v'.ownBlock = some w.heap.size) → wpList Tryz.prog ops Q rest (a.put o.dst v') w') : wpList Tryz.prog ops Q (o :: rest) a w := by
  obtain ⟨i0, hi, hz0, hz1, hz2⟩ := info_parts Tryz.infoStr
  have fin : ∀ (ad : Addr) (m c : Nat) (news : List Value), news = strV us → vx = .slice (some ad) m c → m = us.length → (∀ j u, news[j]? = some u → w.cell? (ad.add j) = some u) → wpList Tryz.prog ops Q (o :: rest) a w := by
    intro ad m c news hn hv hm hcl
    subst hn hv hm
    refine wpList_plain hgd fun K hK => ?_
    have hl : (strV us).length = us.length * 1 := by rw [strV_length]; omega
    obtain ⟨v', w', hr, h2, h3, _⟩ := run_append_own (P := Tryz.prog) w base 34 o.type 9 i0 (.string ⟨#[]⟩) 1 16 Tryz.underlying34 hi hz0 hz1 hz2 rfl (by decide) v ts.length (strV ts) hown ad us.length c (strV us) hl hcl (strV_one us) (by unfold maxLen; omega) (by omega) hbase
    have hp := app_place (P := Tryz.prog) w base 34 o.type 9 i0 (.string ⟨#[]⟩) 1 16 Tryz.underlying34 hi hz0 hz1 hz2 v ts.length (strV ts) hown ad us.length c (strV us) hl hcl (strV_one us) (by unfold maxLen; omega) (by omega) v' w' hr
    unfold Oper.wp execOp
    simp only [ho, resolve, invoke, builtin, Sem.run_bind, Sem.run_pure, Result.andThen_ok, List.map_toArray, List.map_cons, List.map_nil, hs, hx, hr]
    refine hK _ _ (h v' w' ?_ h3 hp)
    unfold OwnS
    rw [List.length_append, show strV (ts ++ us) = strV ts ++ strV us by simp [strV]]
    exact h2
  rcases hc with ⟨ao, c, rfl, rfl, h0⟩ | ⟨g, off, c, rfl, hlt, h1, h2⟩
  · cases ao with
    | none =>
      obtain rfl := h0 rfl
      refine wpList_append_own_none hgd s x 34 ho base 9 i0 1 Tryz.underlying34 hi v ts.length _ hs hown hx ?_
      exact h v w (by simpa using hown) (gb_refl _ _) (Or.inl rfl)
    | some ad => exact fin ad 0 c [] rfl rfl rfl (fun j u hj => by simp at hj)
  · refine fin ⟨g, off, none⟩ _ c _ rfl rfl rfl ?_
    intro j u hj
    have hjl : j < us.length := by
      rcases Nat.lt_or_ge j us.length with h | h
      · exact h
      · rw [List.getElem?_eq_none (by rw [strV_length]; exact h)] at hj; cases hj
    rw [strV_get us j hjl] at hj
    have hj := Option.some.inj hj
    rw [← hj]
    have := h2 j hjl
    rw [show (⟨g, off, none⟩ : Addr).add j = ⟨g, off + j, none⟩ by by_cases h0 : j = 0 <;> simp [Addr.add, h0]]
    exact this

/-- a slice's beginning -/
theorem sl_to (ad : Addr) (n cap k : Nat) (hk : k ≤ cap) (W : World) : (Instr.slice 34 (.slice (some ad) n cap) none (some (.int .i64 (k : Int))) none).run Tryz.prog W = .ok (.slice (some ad) k cap) W := by
  have hk2 : (k : Int) ≤ (cap : Int) := by omega
  go_simp

end Go.Proofs.YtlpengaclkidiaaGreatDoor

/- The tokens of a source, plainly: gaps, words, numbers, texts, signs. -/
namespace Go.Proofs.YtlpengaclkidiaaGreatDoor

/-- a letter or _, a digit, a blank, a byte that stands for itself in a text -/
def ltI (c : Int) : Bool := decide ((65 ≤ c ∧ c ≤ 90) ∨ (97 ≤ c ∧ c ≤ 122) ∨ c = 95)
def dgI (c : Int) : Bool := decide (48 ≤ c ∧ c ≤ 57)
def bkI (c : Int) : Bool := decide (c = 32 ∨ c = 9 ∨ c = 10 ∨ c = 13)
def plI (c : Int) : Bool := decide (32 ≤ c ∧ c ≤ 126 ∧ c ≠ 34 ∧ c ≠ 92)
def ltB (c : UInt8) : Bool := ltI (c.toNat : Nat)
def dgB (c : UInt8) : Bool := dgI (c.toNat : Nat)
def bkB (c : UInt8) : Bool := bkI (c.toNat : Nat)
def plB (c : UInt8) : Bool := plI (c.toNat : Nat)
def wdB (c : UInt8) : Bool := ltB c || dgB c

/-- how many bytes of a kind stand ahead -/
def twN (p : UInt8 → Bool) : List UInt8 → Nat
  | [] => 0
  | c :: t => if p c then twN p t + 1 else 0
theorem twN_le (p : UInt8 → Bool) (l : List UInt8) : twN p l ≤ l.length := by
  induction l with
  | nil => exact Nat.le_refl _
  | cons c t ih => unfold twN; split <;> simp <;> omega
theorem twN_in {p : UInt8 → Bool} {l : List UInt8} {k : Nat} (h : k < twN p l) : p (l.getD k 0) = true := by
  induction l generalizing k with
  | nil => simp [twN] at h
  | cons c t ih =>
    unfold twN at h
    split at h
    · cases k with
      | zero => simpa
      | succ k => simpa using ih (k := k) (by omega)
    · omega
theorem twN_end {p : UInt8 → Bool} {l : List UInt8} (h : twN p l < l.length) : p (l.getD (twN p l) 0) = false := by
  induction l with
  | nil => simp at h
  | cons c t ih =>
    unfold twN at h ⊢
    split at h
    · rename_i hp
      rw [if_pos hp]
      simpa using ih (by simp at h; omega)
    · rename_i hp
      rw [if_neg hp]
      simpa using hp
theorem twN_eq {p : UInt8 → Bool} {l : List UInt8} {k : Nat} (h1 : k ≤ l.length) (h2 : ∀ j, j < k → p (l.getD j 0) = true) (h3 : k < l.length → p (l.getD k 0) = false) : twN p l = k := by
  rcases Nat.lt_trichotomy (twN p l) k with h | h | h
  · have a := h2 _ h
    have b := twN_end (p := p) (l := l) (by omega)
    rw [b] at a
    cases a
  · exact h
  · have a := twN_in h
    have hl := twN_le p l
    rw [h3 (by omega)] at a
    cases a
theorem twN_cons {p : UInt8 → Bool} {c : UInt8} {t : List UInt8} (h : p c = true) : twN p (c :: t) = twN p t + 1 := by simp [twN, h]
theorem twN_none {p : UInt8 → Bool} {c : UInt8} {t : List UInt8} (h : p c = false) : twN p (c :: t) = 0 := by simp [twN, h]
/-- what stands behind matters by its first byte alone -/
theorem twN_cut {p : UInt8 → Bool} {l r : List UInt8} (h : ∀ c, r.head? = some c → p c = false) : twN p (l.take (twN p l) ++ r) = twN p l := by
  induction l with
  | nil =>
    cases r with
    | nil => rfl
    | cons c t => simp [twN, h c rfl]
  | cons c t ih =>
    by_cases hp : p c = true
    · rw [twN_cons hp, List.take_succ_cons, List.cons_append, twN_cons hp, ih]
    · have hp : p c = false := by simpa using hp
      rw [twN_none hp]
      cases r with
      | nil => rfl
      | cons d u => simp [twN, h d rfl]

/-- the bytes of the gap ahead; false: not within a remark -/
def gapN : Bool → List UInt8 → Nat
  | _, [] => 0
  | false, c :: t => if bkB c = true then gapN false t + 1 else if c = 47 ∧ t.head? = some 47 then gapN true t + 1 else 0
  | true, c :: t => if c = 10 then gapN false t + 1 else gapN true t + 1
def gapP (l : List UInt8) : Nat := gapN false l
theorem gapN_le (b : Bool) (l : List UInt8) : gapN b l ≤ l.length := by
  induction l generalizing b with
  | nil => cases b <;> exact Nat.le_refl _
  | cons c t ih =>
    have h1 := ih false
    have h2 := ih true
    cases b <;> unfold gapN <;> simp only [List.length_cons] <;> repeat' split
    all_goals omega
theorem gapP_le (l : List UInt8) : gapP l ≤ l.length := gapN_le _ _
/-- a cut behind a gap -/
theorem gapN_take (b : Bool) (l : List UInt8) (m : Nat) (h : gapN b l ≤ m) : gapN b (l.take m) = gapN b l := by
  induction l generalizing b m with
  | nil => simp
  | cons c t ih =>
    cases m with
    | zero =>
      have e : gapN b (c :: t) = 0 := by omega
      rw [e]
      cases b <;> rfl
    | succ m =>
      rw [List.take_succ_cons]
      have hh : (t.take m).head? = some 47 → t.head? = some 47 := by
        intro e
        cases t with
        | nil => simp at e
        | cons d u =>
          cases m with
          | zero => simp at e
          | succ m => simpa using e
      cases b with
      | true =>
        unfold gapN at h ⊢
        split at h
        · rename_i hc
          rw [if_pos hc, if_pos hc, ih _ _ (by omega)]
        · rename_i hc
          rw [if_neg hc, if_neg hc, ih _ _ (by omega)]
      | false =>
        unfold gapN at h ⊢
        split at h
        · rename_i hc
          rw [if_pos hc, if_pos hc, ih _ _ (by omega)]
        · rename_i hc
          rw [if_neg hc, if_neg hc]
          split at h
          · rename_i h2
            rw [if_pos h2]
            have hm : 1 ≤ m := by
              obtain ⟨_, h3⟩ := h2
              cases t with
              | nil => simp at h3
              | cons d u =>
                unfold gapN at h
                split at h <;> omega
            have h3 : c = 47 ∧ (t.take m).head? = some 47 := by
              refine ⟨h2.1, ?_⟩
              cases t with
              | nil => simpa using h2.2
              | cons d u =>
                cases m with
                | zero => omega
                | succ m => simpa using h2.2
            rw [if_pos h3, ih _ _ (by omega)]
          · rename_i h2
            rw [if_neg h2, if_neg (fun h3 => h2 ⟨h3.1, hh h3.2⟩)]
theorem gapP_take {l : List UInt8} {m : Nat} (h : gapP l ≤ m) : gapP (l.take m) = gapP l := gapN_take _ _ _ h
/-- behind a gap there is none -/
theorem gapN_idle (b : Bool) (l : List UInt8) : gapP (l.drop (gapN b l)) = 0 := by
  unfold gapP
  induction l generalizing b with
  | nil => cases b <;> rfl
  | cons c t ih =>
    cases b with
    | true =>
      by_cases h1 : c = 10
      · have e : gapN true (c :: t) = gapN false t + 1 := by rw [gapN, if_pos h1]
        rw [e, List.drop_succ_cons]; exact ih _
      · have e : gapN true (c :: t) = gapN true t + 1 := by rw [gapN, if_neg h1]
        rw [e, List.drop_succ_cons]; exact ih _
    | false =>
      by_cases h1 : bkB c = true
      · have e : gapN false (c :: t) = gapN false t + 1 := by rw [gapN, if_pos h1]
        rw [e, List.drop_succ_cons]; exact ih _
      · by_cases h2 : c = 47 ∧ t.head? = some 47
        · have e : gapN false (c :: t) = gapN true t + 1 := by rw [gapN, if_neg h1, if_pos h2]
          rw [e, List.drop_succ_cons]; exact ih _
        · have e : gapN false (c :: t) = 0 := by rw [gapN, if_neg h1, if_neg h2]
          rw [e, List.drop_zero, e]
theorem gapP_idle (l : List UInt8) : gapP (l.drop (gapP l)) = 0 := gapN_idle _ _
/-- blanks ahead -/
def bkN (l : List UInt8) : Nat := twN bkB l
/-- the remark ahead -/
def nlB (c : UInt8) : Bool := !decide (c = 10)
def rmN (l : List UInt8) : Nat := if l.take 2 = [47, 47] then twN nlB l else 0
theorem bkB_47 : bkB 47 = false := by decide
theorem gapP_bk (l : List UInt8) : gapP l = bkN l + gapP (l.drop (bkN l)) := by
  unfold gapP bkN
  induction l with
  | nil => rfl
  | cons c t ih =>
    by_cases h1 : bkB c = true
    · rw [twN_cons h1, List.drop_succ_cons, gapN, if_pos h1, ih]; omega
    · rw [twN_none (by simpa using h1), List.drop_zero]; omega
theorem gapT_rm (l : List UInt8) : gapN true l = twN nlB l + gapN false (l.drop (twN nlB l)) := by
  induction l with
  | nil => rfl
  | cons c t ih =>
    by_cases h1 : c = 10
    · subst h1
      have e1 : gapN true (10 :: t) = gapN false t + 1 := by rw [gapN, if_pos rfl]
      have e2 : gapN false (10 :: t) = gapN false t + 1 := by rw [gapN, if_pos (by decide)]
      rw [twN_none (by decide), List.drop_zero, e1, e2]; omega
    · rw [twN_cons (by simpa [nlB] using h1), List.drop_succ_cons, gapN, if_neg h1, ih]; omega
theorem gapP_rm (l : List UInt8) : gapP l = rmN l + gapP (l.drop (rmN l)) := by
  unfold rmN
  split
  · rename_i h
    match l, h with
    | c :: d :: t, h =>
      simp only [List.take_succ_cons, List.take_zero, List.cons.injEq, and_true] at h
      obtain ⟨rfl, rfl⟩ := h
      rw [twN_cons (by decide), List.drop_succ_cons]
      unfold gapP
      rw [gapN, if_neg (by decide), if_pos ⟨rfl, rfl⟩, gapT_rm]
      omega
  · simp
theorem gapP_none {l : List UInt8} (h1 : bkN l = 0) (h2 : rmN l = 0) : gapP l = 0 := by
  match l with
  | [] => rfl
  | c :: t =>
    have hb : bkB c = false := by
      by_cases hb : bkB c = true
      · unfold bkN at h1; rw [twN_cons hb] at h1; omega
      · simpa using hb
    unfold gapP
    rw [gapN, if_neg (by simp [hb])]
    rw [if_neg]
    rintro ⟨rfl, ht⟩
    match t, ht with
    | d :: u, ht =>
      simp only [List.head?_cons, Option.some.injEq] at ht
      subst ht
      unfold rmN at h2
      rw [if_pos (show List.take 2 (47 :: 47 :: u) = [47, 47] from rfl), twN_cons (by decide)] at h2
      omega

/-- what digits stand for -/
def valP (ds : List UInt8) : Nat := ds.foldl (fun n c => 10 * n + (c.toNat - 48)) 0
theorem valF_le (ds : List UInt8) (n : Nat) : n ≤ ds.foldl (fun n c => 10 * n + (c.toNat - 48)) n := by
  induction ds generalizing n with
  | nil => exact Nat.le_refl _
  | cons c t ih => rw [List.foldl_cons]; exact Nat.le_trans (by omega) (ih _)
theorem valP_append (a b : List UInt8) : valP a ≤ valP (a ++ b) := by
  unfold valP; rw [List.foldl_append]; exact valF_le _ _
theorem valP_succ {l : List UInt8} {k : Nat} (h : k < l.length) : valP (l.take (k + 1)) = 10 * valP (l.take k) + ((l.getD k 0).toNat - 48) := by
  rw [List.take_add_one, List.getElem?_eq_getElem h, Option.toList_some]
  unfold valP
  rw [List.foldl_append]
  simp [List.getD_eq_getElem?_getD, h]
theorem valP_take (l : List UInt8) (k : Nat) : valP (l.take k) ≤ valP l := by
  have h := valP_append (l.take k) (l.drop k)
  rwa [List.take_append_drop] at h

/-- keys and signs -/
def kyL : List (List UInt8) := [[105, 110, 99, 108, 117, 100, 101], [97, 115], [101, 120, 112, 111, 114, 116], [99, 111, 110, 115, 116], [102, 117, 110, 99], [118, 97, 114], [105, 102], [101, 108, 115, 101], [119, 104, 105, 108, 101], [114, 101, 116, 117, 114, 110], [112, 114, 105, 110, 116], [116, 114, 117, 101], [102, 97, 108, 115, 101], [105, 110, 116], [98, 111, 111, 108], [116, 101, 120, 116]]
def sg2 : List (List UInt8) := [[61, 61], [33, 61], [60, 61], [62, 61], [43, 43], [38, 38], [124, 124]]
def sg1 : List (List UInt8) := [[40], [41], [123], [125], [44], [59], [58], [46], [61], [60], [62], [43], [45], [42], [47], [37], [33], [35]]
def sgP (l : List UInt8) : Nat := if l.take 2 ∈ sg2 then 2 else if l.take 1 ∈ sg1 then 1 else 0
/-- a digit of a coded byte -/
def hxN (c : UInt8) : Nat := if dgB c = true then c.toNat - 48 else if 97 ≤ c.toNat ∧ c.toNat ≤ 102 then c.toNat - 87 else 16
/-- a piece of a text: its byte, and its size -/
def pcP (l : List UInt8) : UInt8 × Nat :=
  if l.length = 0 then (0, 0)
  else if l.getD 0 0 ≠ 92 then (if plB (l.getD 0 0) = true then (l.getD 0 0, 1) else (0, 0))
  else if l.length < 2 then (0, 0)
  else if l.getD 1 0 = 110 then (10, 2)
  else if l.getD 1 0 = 116 then (9, 2)
  else if l.getD 1 0 = 34 ∨ l.getD 1 0 = 92 then (l.getD 1 0, 2)
  else if l.getD 1 0 = 120 ∧ 4 ≤ l.length ∧ hxN (l.getD 2 0) < 16 ∧ hxN (l.getD 3 0) < 16 then (UInt8.ofNat (16 * hxN (l.getD 2 0) + hxN (l.getD 3 0)), 4)
  else (0, 0)
theorem pcP_le (l : List UInt8) : (pcP l).2 ≤ l.length := by
  unfold pcP
  repeat' split
  all_goals (simp; try omega)
/-- a text's value, and its size, from behind the first quote on; so many pieces at most -/
def txF : Nat → List UInt8 → Option (List UInt8 × Nat)
  | 0, _ => none
  | n + 1, l => if l.getD 0 0 = 34 then some ([], 1)
    else if (pcP l).2 = 0 then none
    else (txF n (l.drop (pcP l).2)).map (fun r => ((pcP l).1 :: r.1, (pcP l).2 + r.2))
theorem txF_more : ∀ (n m : Nat) (l : List UInt8), l.length < n → l.length < m → txF n l = txF m l
  | 0, _, l, h, _ => by omega
  | _ + 1, 0, l, _, h => by omega
  | n + 1, m + 1, l, h1, h2 => by
    unfold txF
    by_cases hq : l.getD 0 0 = 34
    · rw [if_pos hq, if_pos hq]
    · by_cases hp : (pcP l).2 = 0
      · rw [if_neg hq, if_neg hq, if_pos hp, if_pos hp]
      · have := pcP_le l
        rw [if_neg hq, if_neg hq, if_neg hp, if_neg hp, txF_more n m (l.drop (pcP l).2) (by rw [List.length_drop]; omega) (by rw [List.length_drop]; omega)]
def txP (l : List UInt8) : Option (List UInt8 × Nat) := txF (l.length + 1) l

/-- tokens: the kind, the size, the error -/
def wdP (l : List UInt8) : Nat × Nat × Int :=
  if 32 < twN wdB l then (0, 0, 123) else if l.take (twN wdB l) ∈ kyL then (4, twN wdB l, 0) else (1, twN wdB l, 0)
def nuP (l : List UInt8) : Nat × Nat × Int :=
  if (l.getD 0 0 = 48 ∧ 1 < twN dgB l) ∨ ltB (l.getD (twN dgB l) 0) = true ∨ 9223372036854775807 < valP (l.take (twN dgB l)) then (0, 0, 121) else (2, twN dgB l, 0)
def tqP (l : List UInt8) : Nat × Nat × Int :=
  match txP (l.drop 1) with
  | none => (0, 0, 122)
  | some r => if r.1.length ≤ 4096 then (3, r.2 + 1, 0) else (0, 0, 122)
def sqP (l : List UInt8) : Nat × Nat × Int := if sgP l = 0 then (0, 0, 120) else (5, sgP l, 0)
def tokP (l : List UInt8) : Nat × Nat × Int :=
  if l.length = 0 then (0, 0, 0)
  else if ltB (l.getD 0 0) = true then wdP l
  else if dgB (l.getD 0 0) = true then nuP l
  else if l.getD 0 0 = 34 then tqP l
  else sqP l

end Go.Proofs.YtlpengaclkidiaaGreatDoor

/- A token stands by its own bytes and the first one behind it. -/
namespace Go.Proofs.YtlpengaclkidiaaGreatDoor

/-- what may stand behind n bytes of l: nothing, what begins as it did, or a blank -/
def Beh (l : List UInt8) (n : Nat) (r : List UInt8) : Prop := r = [] ∨ r.head? = (l.drop n).head? ∨ ∃ c, r.head? = some c ∧ bkB c = true
theorem bk_wd {c : UInt8} (h : bkB c = true) : wdB c = false := by
  unfold bkB bkI at h
  unfold wdB ltB dgB ltI dgI
  simp only [decide_eq_true_eq] at h
  rw [Bool.or_eq_false_iff, decide_eq_false_iff_not, decide_eq_false_iff_not]
  omega
theorem wd_or {c : UInt8} (h : wdB c = false) : ltB c = false ∧ dgB c = false := by
  unfold wdB at h; exact Bool.or_eq_false_iff.1 h
theorem head_drop (l : List UInt8) (n : Nat) : (l.drop n).head? = l[n]? := by
  rw [List.head?_drop]
theorem getD_some {l : List UInt8} {n : Nat} {c : UInt8} (h : l[n]? = some c) : n < l.length ∧ l.getD n 0 = c := by
  obtain ⟨h1, h2⟩ := List.getElem?_eq_some_iff.1 h
  exact ⟨h1, by simp [List.getD_eq_getElem?_getD, h]⟩
theorem Beh.tw {p : UInt8 → Bool} {l r : List UInt8} (h : Beh l (twN p l) r) (hb : ∀ c, bkB c = true → p c = false) : ∀ c, r.head? = some c → p c = false := by
  intro c hc
  rcases h with rfl | h | ⟨d, h1, h2⟩
  · simp at hc
  · rw [hc, head_drop] at h
    obtain ⟨h1, h2⟩ := getD_some h.symm
    rw [← h2]; exact twN_end h1
  · rw [hc] at h1; injection h1 with h1; subst h1; exact hb _ h2
theorem take_app (l r : List UInt8) {n : Nat} (hn : n ≤ l.length) : (l.take n ++ r).take n = l.take n := by
  rw [List.take_append_of_le_length (by rw [List.length_take]; omega), List.take_take, Nat.min_self]
theorem getD_app (l r : List UInt8) {n j : Nat} (hn : n ≤ l.length) (hj : j < n) : (l.take n ++ r).getD j 0 = l.getD j 0 := by
  simp only [List.getD_eq_getElem?_getD]
  rw [List.getElem?_append_left (by rw [List.length_take]; omega), List.getElem?_take_of_lt hj]
theorem getD_behind (l r : List UInt8) {n : Nat} (hn : n ≤ l.length) : (l.take n ++ r).getD n 0 = r.getD 0 0 := by
  simp only [List.getD_eq_getElem?_getD]
  rw [List.getElem?_append_right (by rw [List.length_take]; omega), List.length_take, Nat.min_eq_left hn, Nat.sub_self]
theorem head_getD {r : List UInt8} : r.getD 0 0 = 0 ∧ r = [] ∨ r.head? = some (r.getD 0 0) := by
  cases r with
  | nil => exact Or.inl ⟨rfl, rfl⟩
  | cons c t => exact Or.inr rfl

theorem pc_same {l m : List UInt8} (h0 : (pcP l).2 ≠ 0) (h1 : (pcP l).2 ≤ m.length) (h2 : ∀ j, j < (pcP l).2 → m.getD j 0 = l.getD j 0) : pcP m = pcP l := by
  have e0 : m.getD 0 0 = l.getD 0 0 := h2 0 (by omega)
  by_cases hl : l.length = 0
  · exfalso; apply h0; unfold pcP; rw [if_pos hl]
  have hm : ¬ m.length = 0 := by omega
  by_cases hc : l.getD 0 0 ≠ 92
  · unfold pcP
    rw [if_neg hl, if_neg hm, e0, if_pos hc, if_pos hc]
  · by_cases hl2 : l.length < 2
    · exfalso; apply h0; unfold pcP; rw [if_neg hl, if_neg hc, if_pos hl2]
    have h2' : 2 ≤ (pcP l).2 := by
      unfold pcP at h0 ⊢
      rw [if_neg hl, if_neg hc, if_neg hl2] at h0 ⊢
      revert h0
      repeat' split
      all_goals first
        | exact fun _ => Nat.le_refl 2
        | exact fun _ => (by decide : 2 ≤ 4)
        | exact fun h0 => absurd rfl h0
    have hm2 : ¬ m.length < 2 := by omega
    have e1 : m.getD 1 0 = l.getD 1 0 := h2 1 (by omega)
    by_cases hx : l.getD 1 0 = 110 ∨ l.getD 1 0 = 116 ∨ (l.getD 1 0 = 34 ∨ l.getD 1 0 = 92)
    · unfold pcP
      rw [if_neg hl, if_neg hm, e0, if_neg hc, if_neg hc, if_neg hl2, if_neg hm2, e1]
      rcases hx with hx | hx | hx
      · rw [if_pos hx, if_pos hx]
      · rw [hx, if_neg (by decide), if_pos rfl, if_neg (by decide), if_pos rfl]
      · rcases hx with hx | hx <;> rw [hx, if_neg (by decide), if_neg (by decide), if_pos (by decide), if_neg (by decide), if_neg (by decide), if_pos (by decide)]
    · have x1 : ¬ l.getD 1 0 = 110 := fun e => hx (Or.inl e)
      have x2 : ¬ l.getD 1 0 = 116 := fun e => hx (Or.inr (Or.inl e))
      have x3 : ¬ (l.getD 1 0 = 34 ∨ l.getD 1 0 = 92) := fun e => hx (Or.inr (Or.inr e))
      by_cases hq : l.getD 1 0 = 120 ∧ 4 ≤ l.length ∧ hxN (l.getD 2 0) < 16 ∧ hxN (l.getD 3 0) < 16
      · have e4 : (pcP l).2 = 4 := by
          unfold pcP
          rw [if_neg hl, if_neg hc, if_neg hl2, if_neg x1, if_neg x2, if_neg x3, if_pos hq]
        have e2 : m.getD 2 0 = l.getD 2 0 := h2 2 (by omega)
        have e3 : m.getD 3 0 = l.getD 3 0 := h2 3 (by omega)
        have hq2 : l.getD 1 0 = 120 ∧ 4 ≤ m.length ∧ hxN (l.getD 2 0) < 16 ∧ hxN (l.getD 3 0) < 16 := ⟨hq.1, by omega, hq.2.2⟩
        unfold pcP
        rw [if_neg hl, if_neg hm, e0, if_neg hc, if_neg hc, if_neg hl2, if_neg hm2, e1, if_neg x1, if_neg x1, if_neg x2, if_neg x2, if_neg x3, if_neg x3, e2, e3, if_pos hq, if_pos hq2]
      · exfalso; apply h0; unfold pcP
        rw [if_neg hl, if_neg hc, if_neg hl2, if_neg x1, if_neg x2, if_neg x3, if_neg hq]

theorem txP_quote {l : List UInt8} (h : l.getD 0 0 = 34) : txP l = some ([], 1) := by unfold txP; rw [txF, if_pos h]
theorem txP_bad {l : List UInt8} (h : ¬ l.getD 0 0 = 34) (h2 : (pcP l).2 = 0) : txP l = none := by unfold txP; rw [txF, if_neg h, if_pos h2]
theorem txP_step {l : List UInt8} (h : ¬ l.getD 0 0 = 34) (h2 : ¬ (pcP l).2 = 0) : txP l = (txP (l.drop (pcP l).2)).map (fun r => ((pcP l).1 :: r.1, (pcP l).2 + r.2)) := by
  have hle := pcP_le l
  unfold txP
  rw [txF, if_neg h, if_neg h2, txF_more l.length ((l.drop (pcP l).2).length + 1) (l.drop (pcP l).2) (by rw [List.length_drop]; omega) (by omega)]
theorem txP_le {l v : List UInt8} {m : Nat} (h : txP l = some (v, m)) : 1 ≤ m ∧ m ≤ l.length ∧ v.length + 1 ≤ m := by
  induction hn : l.length using Nat.strongRecOn generalizing l v m with
  | _ n ih =>
    by_cases hq : l.getD 0 0 = 34
    · rw [txP_quote hq] at h
      injection h with h; injection h with h1 h2
      subst h1 h2
      refine ⟨Nat.le_refl _, ?_, Nat.le_refl _⟩
      cases l with
      | nil => simp at hq
      | cons c t => simp at hn; omega
    · by_cases hp : (pcP l).2 = 0
      · rw [txP_bad hq hp] at h; cases h
      · rw [txP_step hq hp] at h
        cases e : txP (l.drop (pcP l).2) with
        | none => rw [e] at h; cases h
        | some r =>
          rw [e] at h
          injection h with h; injection h with h1 h2
          have hle := pcP_le l
          have i := ih (l.drop (pcP l).2).length (by rw [List.length_drop]; omega) (v := r.1) e rfl
          rw [List.length_drop] at i
          rw [← h1, ← h2, List.length_cons]
          omega
theorem tx_cut {l v : List UInt8} {m : Nat} (r : List UInt8) (h : txP l = some (v, m)) : txP (l.take m ++ r) = some (v, m) := by
  induction hn : l.length using Nat.strongRecOn generalizing l v m with
  | _ n ih =>
    have hle := txP_le h
    have e0 : (l.take m ++ r).getD 0 0 = l.getD 0 0 := getD_app l r hle.2.1 (by omega)
    by_cases hq : l.getD 0 0 = 34
    · rw [txP_quote (by rw [e0]; exact hq), ← txP_quote hq, h]
    · by_cases hp : (pcP l).2 = 0
      · rw [txP_bad hq hp] at h; cases h
      · have h' := h
        rw [txP_step hq hp] at h
        cases e : txP (l.drop (pcP l).2) with
        | none => rw [e] at h; cases h
        | some q =>
          rw [e] at h
          injection h with h; injection h with h1 h2
          have hpl := pcP_le l
          have hm : (pcP l).2 ≤ m := by omega
          have ep : pcP (l.take m ++ r) = pcP l := pc_same hp (by rw [List.length_append, List.length_take]; omega) (fun j hj => getD_app l r hle.2.1 (by omega))
          have i := ih (l.drop (pcP l).2).length (by rw [List.length_drop]; omega) (v := q.1) e rfl
          have ed : (l.take m ++ r).drop (pcP l).2 = (l.drop (pcP l).2).take q.2 ++ r := by
            rw [List.drop_append_of_le_length (by rw [List.length_take]; omega), List.drop_take]
            congr 2
            omega
          rw [txP_step (by rw [e0]; exact hq) (by rw [ep]; exact hp), ep, ed, i]
          simp only [Option.map_some]
          rw [h1, h2]

theorem sg2_len {x : List UInt8} (h : x ∈ sg2) : x.length = 2 := by
  have : sg2.all (fun x => x.length == 2) = true := by decide
  simpa using List.all_eq_true.1 this x h
theorem sg1_len {x : List UInt8} (h : x ∈ sg1) : x.length = 1 := by
  have : sg1.all (fun x => x.length == 1) = true := by decide
  simpa using List.all_eq_true.1 this x h
theorem sg2_bk {a c : UInt8} (h : bkB c = true) : [a, c] ∉ sg2 := by
  have ha : sg2.all (fun x => !bkB (x.getD 1 0)) = true := by decide
  intro hm
  have := List.all_eq_true.1 ha _ hm
  simp [h] at this
theorem sgP_len (l : List UInt8) : sgP l ≤ l.length := by
  unfold sgP
  split
  · rename_i h
    have := sg2_len h
    rw [List.length_take] at this; omega
  · split
    · rename_i h
      have := sg1_len h
      rw [List.length_take] at this; omega
    · omega
theorem take_two {a : UInt8} {t : List UInt8} : (a :: t).take 2 = a :: t.head?.toList := by
  cases t <;> rfl
theorem sg_cut {l r : List UInt8} (h0 : sgP l ≠ 0) (hr : Beh l (sgP l) r) : sgP (l.take (sgP l) ++ r) = sgP l := by
  have hle := sgP_len l
  by_cases h2 : l.take 2 ∈ sg2
  · have e : sgP l = 2 := by unfold sgP; rw [if_pos h2]
    rw [e] at hle ⊢
    unfold sgP
    rw [take_app l r hle, if_pos h2]
  · by_cases h1 : l.take 1 ∈ sg1
    · have e : sgP l = 1 := by unfold sgP; rw [if_neg h2, if_pos h1]
      rw [e] at hle hr ⊢
      unfold sgP
      rw [take_app l r hle, if_pos h1, if_neg]
      match l, hle with
      | a :: t, _ =>
        rw [show (a :: t).take 1 ++ r = a :: r from rfl, take_two]
        rcases hr with rfl | hr | ⟨c, hr, hb⟩
        · intro hm; have := sg2_len hm; simp at this
        · rw [hr]
          intro hm
          apply h2
          rw [take_two]
          simpa using hm
        · rw [hr]; exact sg2_bk hb
    · exfalso; apply h0; unfold sgP; rw [if_neg h2, if_neg h1]

theorem tok_size {l : List UInt8} {k n : Nat} (h : tokP l = (k, n, 0)) (hk : k ≠ 0) : 1 ≤ n ∧ n ≤ l.length ∧ 1 ≤ k ∧ k ≤ 5 := by
  unfold tokP at h
  split at h
  · simp only [Prod.mk.injEq] at h; omega
  · rename_i hl
    split at h
    · rename_i hc
      unfold wdP at h
      have h1 : 1 ≤ twN wdB l := by
        match l, hl with
        | c :: t, _ => rw [twN_cons (by unfold wdB; simpa using Or.inl hc)]; omega
      have h2 := twN_le wdB l
      repeat' split at h
      all_goals (simp only [Prod.mk.injEq] at h; omega)
    · split at h
      · rename_i hc
        unfold nuP at h
        have h1 : 1 ≤ twN dgB l := by
          match l, hl with
          | c :: t, _ => rw [twN_cons (by simpa using hc)]; omega
        have h2 := twN_le dgB l
        repeat' split at h
        all_goals (simp only [Prod.mk.injEq] at h; omega)
      · split at h
        · unfold tqP at h
          split at h
          · simp only [Prod.mk.injEq] at h; omega
          · rename_i r e
            have := txP_le (v := r.1) (m := r.2) e
            rw [List.length_drop] at this
            split at h
            all_goals (simp only [Prod.mk.injEq] at h; omega)
        · unfold sqP at h
          have := sgP_len l
          split at h
          all_goals (simp only [Prod.mk.injEq] at h; omega)

theorem tok_cut {l r : List UInt8} {k n : Nat} (h : tokP l = (k, n, 0)) (hk : k ≠ 0) (hr : Beh l n r) : tokP (l.take n ++ r) = (k, n, 0) := by
  obtain ⟨s1, s2, _⟩ := tok_size h hk
  have e0 : (l.take n ++ r).getD 0 0 = l.getD 0 0 := getD_app l r s2 (by omega)
  have el : ¬ (l.take n ++ r).length = 0 := by rw [List.length_append, List.length_take]; omega
  have et := take_app l r s2
  have hl : ¬ l.length = 0 := by omega
  unfold tokP at h ⊢
  rw [if_neg hl] at h
  rw [if_neg el, e0]
  split at h
  · rename_i hc
    rw [if_pos hc]
    have en : n = twN wdB l := by
      unfold wdP at h
      repeat' split at h
      all_goals (simp only [Prod.mk.injEq] at h; omega)
    subst en
    have ec := twN_cut (p := wdB) (l := l) (r := r) (hr.tw (fun c hb => bk_wd hb))
    unfold wdP at h ⊢
    rw [ec, et]
    exact h
  · rename_i hc
    rw [if_neg hc]
    split at h
    · rename_i hc2
      rw [if_pos hc2]
      have en : n = twN dgB l := by
        unfold nuP at h
        repeat' split at h
        all_goals (simp only [Prod.mk.injEq] at h; omega)
      subst en
      have ec := twN_cut (p := dgB) (l := l) (r := r) (hr.tw (fun c hb => (wd_or (bk_wd hb)).2))
      unfold nuP at h ⊢
      rw [ec, et, e0]
      by_cases hbad : (l.getD 0 0 = 48 ∧ 1 < twN dgB l) ∨ ltB (l.getD (twN dgB l) 0) = true ∨ 9223372036854775807 < valP (l.take (twN dgB l))
      · rw [if_pos hbad] at h; simp at h
      · rw [if_neg hbad] at h
        rw [if_neg]
        · exact h
        · rintro (hx | hx | hx)
          · exact hbad (Or.inl hx)
          · rw [getD_behind l r s2] at hx
            rcases hr with rfl | hr | ⟨c, hr, hb⟩
            · revert hx; decide
            · rcases head_getD (r := r) with ⟨e, _⟩ | e
              · rw [e] at hx; revert hx; decide
              · rw [e, head_drop] at hr
                obtain ⟨_, hd⟩ := getD_some hr.symm
                exact hbad (Or.inr (Or.inl (by rw [hd]; exact hx)))
            · rcases head_getD (r := r) with ⟨e, _⟩ | e
              · rw [e] at hx; revert hx; decide
              · rw [e] at hr
                injection hr with hr
                rw [hr, (wd_or (bk_wd hb)).1] at hx; cases hx
          · exact hbad (Or.inr (Or.inr hx))
    · rename_i hc2
      rw [if_neg hc2]
      split at h
      · rename_i hc3
        rw [if_pos hc3]
        unfold tqP at h ⊢
        cases e : txP (l.drop 1) with
        | none => rw [e] at h; simp at h
        | some q =>
          rw [e] at h
          have ht := tx_cut (l := l.drop 1) (v := q.1) (m := q.2) r e
          have en : n = q.2 + 1 := by
            simp only at h
            split at h
            all_goals (simp only [Prod.mk.injEq] at h; omega)
          have ed : (l.take n ++ r).drop 1 = (l.drop 1).take q.2 ++ r := by
            rw [List.drop_append_of_le_length (by rw [List.length_take]; omega), List.drop_take]
            congr 2
            omega
          rw [ed, ht]
          exact h
      · rename_i hc3
        rw [if_neg hc3]
        unfold sqP at h ⊢
        by_cases hz : sgP l = 0
        · rw [if_pos hz] at h; simp at h
        · rw [if_neg hz] at h
          have en : n = sgP l := by simp only [Prod.mk.injEq] at h; omega
          subst en
          rw [sg_cut hz hr, if_neg hz]
          exact h

end Go.Proofs.YtlpengaclkidiaaGreatDoor

/- All tokens of a source, one behind the other. -/
namespace Go.Proofs.YtlpengaclkidiaaGreatDoor

theorem tok_view (l : List UInt8) : (l = [] ∧ tokP l = (0, 0, 0)) ∨ (l ≠ [] ∧ ∃ e : Int, 120 ≤ e ∧ e ≤ 123 ∧ tokP l = (0, 0, e)) ∨ (∃ k n : Nat, tokP l = (k, n, 0) ∧ 1 ≤ k ∧ k ≤ 5 ∧ 1 ≤ n ∧ n ≤ l.length) := by
  by_cases hl : l.length = 0
  · exact Or.inl ⟨List.length_eq_zero_iff.1 hl, by unfold tokP; rw [if_pos hl]⟩
  refine Or.inr ?_
  have hne : l ≠ [] := fun e => hl (by rw [e]; rfl)
  have key : (∃ e : Int, 120 ≤ e ∧ e ≤ 123 ∧ tokP l = (0, 0, e)) ∨ (∃ k n : Nat, tokP l = (k, n, 0) ∧ k ≠ 0) := by
    unfold tokP
    rw [if_neg hl]
    split
    · unfold wdP
      split
      · exact Or.inl ⟨_, by omega, by omega, rfl⟩
      · split
        · exact Or.inr ⟨_, _, rfl, by omega⟩
        · exact Or.inr ⟨_, _, rfl, by omega⟩
    · split
      · unfold nuP
        split
        · exact Or.inl ⟨_, by omega, by omega, rfl⟩
        · exact Or.inr ⟨_, _, rfl, by omega⟩
      · split
        · unfold tqP
          split
          · exact Or.inl ⟨_, by omega, by omega, rfl⟩
          · split
            · exact Or.inr ⟨_, _, rfl, by omega⟩
            · exact Or.inl ⟨_, by omega, by omega, rfl⟩
        · unfold sqP
          split
          · exact Or.inl ⟨_, by omega, by omega, rfl⟩
          · exact Or.inr ⟨_, _, rfl, by omega⟩
  rcases key with ⟨e, h1, h2, h3⟩ | ⟨k, n, h1, h2⟩
  · exact Or.inl ⟨hne, e, h1, h2, h3⟩
  · obtain ⟨a, b, c, d⟩ := tok_size h1 h2
    exact Or.inr ⟨k, n, h1, c, d, a, b⟩

/-- where the token from a byte on begins, and which it is -/
def frP (l : List UInt8) (a : Nat) : Nat := a + gapP (l.drop a)
def tkP (l : List UInt8) (a : Nat) : Nat × Nat × Int := tokP (l.drop (frP l a))
theorem frP_le {l : List UInt8} {a : Nat} (h : a ≤ l.length) : a ≤ frP l a ∧ frP l a ≤ l.length := by
  have := gapP_le (l.drop a)
  rw [List.length_drop] at this
  unfold frP
  omega
theorem frP_idle (l : List UInt8) (a : Nat) : gapP (l.drop (frP l a)) = 0 := by
  unfold frP
  rw [← List.drop_drop]
  exact gapP_idle _
theorem frP_frP (l : List UInt8) (a : Nat) : frP l (frP l a) = frP l a := by
  show frP l a + gapP (l.drop (frP l a)) = _
  rw [frP_idle]; rfl

/-- a whole source: its tokens (kind, from, to), why it is refused, where; so many tokens at most -/
def alF : Nat → List UInt8 → Nat → List (Nat × Nat × Nat) × Int × Nat
  | 0, _, _ => ([], 0, 0)
  | n + 1, l, a => if (tkP l a).2.2 ≠ 0 then ([], (tkP l a).2.2, frP l a)
    else if (tkP l a).1 = 0 then ([(0, frP l a, frP l a)], 0, 0)
    else (((tkP l a).1, frP l a, frP l a + (tkP l a).2.1) :: (alF n l (frP l a + (tkP l a).2.1)).1, (alF n l (frP l a + (tkP l a).2.1)).2)
def allP (l : List UInt8) (a : Nat) : List (Nat × Nat × Nat) × Int × Nat := alF (l.length + 1) l a

theorem all_bad {l : List UInt8} {a : Nat} {k n : Nat} {e : Int} (h : tkP l a = (k, n, e)) (he : e ≠ 0) : allP l a = ([], e, frP l a) := by
  unfold allP
  rw [alF, if_pos (by rw [h]; exact he), h]
theorem all_end {l : List UInt8} {a n : Nat} (h : tkP l a = (0, n, 0)) : allP l a = ([(0, frP l a, frP l a)], 0, 0) := by
  unfold allP
  rw [alF, if_neg (by rw [h]; simp), if_pos (by rw [h])]
theorem alF_more : ∀ (n m : Nat) (l : List UInt8) (a : Nat), a ≤ l.length → l.length - a < n → l.length - a < m → alF n l a = alF m l a
  | 0, _, l, a, _, h, _ => by omega
  | _ + 1, 0, l, a, _, _, h => by omega
  | n + 1, m + 1, l, a, ha, h1, h2 => by
    unfold alF
    by_cases he : (tkP l a).2.2 ≠ 0
    · rw [if_pos he, if_pos he]
    · by_cases hk : (tkP l a).1 = 0
      · rw [if_neg he, if_neg he, if_pos hk, if_pos hk]
      · have he0 : (tkP l a).2.2 = 0 := Decidable.not_not.1 he
        have hs := tok_size (l := l.drop (frP l a)) (k := (tkP l a).1) (n := (tkP l a).2.1) (by rw [← he0]; rfl) hk
        rw [List.length_drop] at hs
        have hf := frP_le ha
        rw [if_neg he, if_neg he, if_neg hk, if_neg hk, alF_more n m l (frP l a + (tkP l a).2.1) (by omega) (by omega) (by omega)]
theorem all_step {l : List UInt8} {a k n : Nat} (h : tkP l a = (k, n, 0)) (hk : k ≠ 0) (ha : a ≤ l.length) :
    allP l a = ((k, frP l a, frP l a + n) :: (allP l (frP l a + n)).1, (allP l (frP l a + n)).2) := by
  obtain ⟨s1, s2, _⟩ := tok_size h hk
  rw [List.length_drop] at s2
  have := frP_le ha
  unfold allP
  rw [alF, if_neg (by rw [h]; simp), if_neg (by rw [h]; exact hk), h]
  simp only
  rw [alF_more l.length (l.length + 1) l (frP l a + n) (by omega) (by omega) (by omega)]
theorem tk_view {l : List UInt8} {a : Nat} (ha : a ≤ l.length) : (frP l a = l.length ∧ tkP l a = (0, 0, 0)) ∨ (frP l a < l.length ∧ ∃ e : Int, 120 ≤ e ∧ e ≤ 123 ∧ tkP l a = (0, 0, e)) ∨ (∃ k n : Nat, tkP l a = (k, n, 0) ∧ 1 ≤ k ∧ k ≤ 5 ∧ 1 ≤ n ∧ frP l a + n ≤ l.length) := by
  have hf := frP_le ha
  rcases tok_view (l.drop (frP l a)) with ⟨h1, h2⟩ | ⟨h1, e, h2, h3, h4⟩ | ⟨k, n, h1, h2, h3, h4, h5⟩
  · rw [List.drop_eq_nil_iff] at h1
    exact Or.inl ⟨by omega, h2⟩
  · rw [ne_eq, List.drop_eq_nil_iff] at h1
    exact Or.inr (Or.inl ⟨by omega, e, h2, h3, h4⟩)
  · rw [List.length_drop] at h5
    exact Or.inr (Or.inr ⟨k, n, h1, h2, h3, h4, by omega⟩)

/-- at least one token, the last one the end -/
def Lx (l : List UInt8) : Nat → List (Nat × Nat × Nat) → Prop
  | _, [] => False
  | a, t :: ts => (t = (0, l.length, l.length) ∧ ts = [] ∧ tkP l a = (0, 0, 0) ∧ frP l a = l.length) ∨
    ∃ k n, t = (k, frP l a, frP l a + n) ∧ a ≤ l.length ∧ tkP l a = (k, n, 0) ∧ 1 ≤ k ∧ k ≤ 5 ∧ 1 ≤ n ∧ frP l a + n ≤ l.length ∧ Lx l (frP l a + n) ts
theorem Lx.last {l : List UInt8} {a : Nat} (h : tkP l a = (0, 0, 0)) (h2 : frP l a = l.length) : Lx l a [(0, l.length, l.length)] := Or.inl ⟨rfl, rfl, h, h2⟩
theorem Lx.more {l : List UInt8} {a k n : Nat} {ts : List (Nat × Nat × Nat)} (ha : a ≤ l.length) (h : tkP l a = (k, n, 0)) (hk : 1 ≤ k) (hk5 : k ≤ 5) (hn : 1 ≤ n) (hl : frP l a + n ≤ l.length) (ht : Lx l (frP l a + n) ts) : Lx l a ((k, frP l a, frP l a + n) :: ts) :=
  Or.inr ⟨k, n, rfl, ha, h, hk, hk5, hn, hl, ht⟩
theorem Lx.ind {l : List UInt8} {M : Nat → List (Nat × Nat × Nat) → Prop} (last : ∀ {a}, tkP l a = (0, 0, 0) → frP l a = l.length → M a [(0, l.length, l.length)])
    (more : ∀ {a k n ts}, a ≤ l.length → tkP l a = (k, n, 0) → 1 ≤ k → k ≤ 5 → 1 ≤ n → frP l a + n ≤ l.length → Lx l (frP l a + n) ts → M (frP l a + n) ts → M a ((k, frP l a, frP l a + n) :: ts)) :
    ∀ (ts : List (Nat × Nat × Nat)) {a : Nat}, Lx l a ts → M a ts
  | [], _, h => by cases h
  | t :: ts, a, h => by
    rcases h with ⟨rfl, rfl, h1, h2⟩ | ⟨k, n, rfl, h1, h2, h3, h4, h5, h6, h7⟩
    · exact last h1 h2
    · exact more h1 h2 h3 h4 h5 h6 h7 (Lx.ind last more ts h7)
/-- a source is refused, at a byte behind some tokens -/
def Lb (l : List UInt8) : Nat → List (Nat × Nat × Nat) → Int → Nat → Prop
  | a, [], e, p => a ≤ l.length ∧ tkP l a = (0, 0, e) ∧ 120 ≤ e ∧ e ≤ 123 ∧ frP l a < l.length ∧ p = frP l a
  | a, t :: ts, e, p => ∃ k n, t = (k, frP l a, frP l a + n) ∧ a ≤ l.length ∧ tkP l a = (k, n, 0) ∧ 1 ≤ k ∧ k ≤ 5 ∧ 1 ≤ n ∧ frP l a + n ≤ l.length ∧ Lb l (frP l a + n) ts e p
theorem Lb.here {l : List UInt8} {a : Nat} {e : Int} (ha : a ≤ l.length) (h : tkP l a = (0, 0, e)) (he : 120 ≤ e) (he2 : e ≤ 123) (hl : frP l a < l.length) : Lb l a [] e (frP l a) := ⟨ha, h, he, he2, hl, rfl⟩
theorem Lb.more {l : List UInt8} {a k n : Nat} {ts : List (Nat × Nat × Nat)} {e : Int} {p : Nat} (ha : a ≤ l.length) (h : tkP l a = (k, n, 0)) (hk : 1 ≤ k) (hk5 : k ≤ 5) (hn : 1 ≤ n) (hl : frP l a + n ≤ l.length) (ht : Lb l (frP l a + n) ts e p) : Lb l a ((k, frP l a, frP l a + n) :: ts) e p :=
  ⟨k, n, rfl, ha, h, hk, hk5, hn, hl, ht⟩
theorem Lb.ind {l : List UInt8} {e : Int} {p : Nat} {M : Nat → List (Nat × Nat × Nat) → Prop} (here : ∀ {a}, a ≤ l.length → tkP l a = (0, 0, e) → 120 ≤ e → e ≤ 123 → frP l a < l.length → p = frP l a → M a [])
    (more : ∀ {a k n ts}, a ≤ l.length → tkP l a = (k, n, 0) → 1 ≤ k → k ≤ 5 → 1 ≤ n → frP l a + n ≤ l.length → Lb l (frP l a + n) ts e p → M (frP l a + n) ts → M a ((k, frP l a, frP l a + n) :: ts)) :
    ∀ (ts : List (Nat × Nat × Nat)) {a : Nat}, Lb l a ts e p → M a ts
  | [], _, h => here h.1 h.2.1 h.2.2.1 h.2.2.2.1 h.2.2.2.2.1 h.2.2.2.2.2
  | t :: ts, a, h => by
    obtain ⟨k, n, rfl, h1, h2, h3, h4, h5, h6, h7⟩ := h
    exact more h1 h2 h3 h4 h5 h6 h7 (Lb.ind here more ts h7)
theorem all_view {l : List UInt8} {a : Nat} (ha : a ≤ l.length) : (∃ ts, Lx l a ts ∧ allP l a = (ts, 0, 0)) ∨ (∃ ts e p, Lb l a ts e p ∧ allP l a = (ts, e, p)) := by
  induction hn : l.length - a using Nat.strongRecOn generalizing a with
  | _ m ih =>
    have hf := frP_le ha
    rcases tk_view ha with ⟨h1, h2⟩ | ⟨h1, e, h2, h3, h4⟩ | ⟨k, n, h1, h2, h3, h4, h5⟩
    · exact Or.inl ⟨_, .last h2 h1, by rw [all_end h2, h1]⟩
    · exact Or.inr ⟨_, _, _, .here ha h4 h2 h3 h1, by rw [all_bad h4 (by omega)]⟩
    · rcases ih (l.length - (frP l a + n)) (by omega) h5 rfl with ⟨ts, i1, i2⟩ | ⟨ts, e, p, i1, i2⟩
      · exact Or.inl ⟨_, .more ha h1 h2 h3 h4 h5 i1, by rw [all_step h1 (by omega) ha, i2]⟩
      · exact Or.inr ⟨_, _, _, .more ha h1 h2 h3 h4 h5 i1, by rw [all_step h1 (by omega) ha, i2]⟩
theorem Lx.all {l : List UInt8} {a : Nat} {ts : List (Nat × Nat × Nat)} (h : Lx l a ts) : allP l a = (ts, 0, 0) :=
  Lx.ind (M := fun a ts => allP l a = (ts, 0, 0)) (fun h h2 => by rw [all_end h, h2]) (fun ha h hk _ _ _ _ ih => by rw [all_step h (by omega) ha, ih]) ts h
theorem Lb.all {l : List UInt8} {a : Nat} {ts : List (Nat × Nat × Nat)} {e : Int} {p : Nat} (h : Lb l a ts e p) : allP l a = (ts, e, p) :=
  Lb.ind (M := fun a ts => allP l a = (ts, e, p)) (fun _ h he _ _ hp => by rw [all_bad h (by omega), hp]) (fun ha h hk _ _ _ _ ih => by rw [all_step h (by omega) ha, ih]) ts h
theorem Lb.num {l : List UInt8} {a : Nat} {ts : List (Nat × Nat × Nat)} {e : Int} {p : Nat} (h : Lb l a ts e p) : 120 ≤ e ∧ e ≤ 123 ∧ p < l.length ∧ a ≤ p :=
  Lb.ind (M := fun a _ => 120 ≤ e ∧ e ≤ 123 ∧ p < l.length ∧ a ≤ p) (fun ha _ he he2 hl hp => ⟨he, he2, by omega, by have := (frP_le ha).1; omega⟩)
    (fun ha _ _ _ _ _ _ ih => ⟨ih.1, ih.2.1, ih.2.2.1, by have := (frP_le ha).1; omega⟩) ts h
theorem Lx.len {l : List UInt8} {a : Nat} {ts : List (Nat × Nat × Nat)} (h : Lx l a ts) : ts.length + a ≤ l.length + 1 ∧ 1 ≤ ts.length :=
  Lx.ind (M := fun a ts => ts.length + a ≤ l.length + 1 ∧ 1 ≤ ts.length)
    (fun {a} _ h2 => by have : a ≤ frP l a := Nat.le_add_right _ _; simp only [List.length_singleton]; omega)
    (fun ha _ _ _ _ hl _ ih => by have := frP_le ha; simp only [List.length_cons]; omega) ts h

end Go.Proofs.YtlpengaclkidiaaGreatDoor

/- Bytes of a text, its pieces; the program's two tables of texts. -/
namespace Go.Proofs.YtlpengaclkidiaaGreatDoor
open Go.RowKit

theorem ret_b {a b : Bool} (h : a = true ↔ b = true) : Ending.returned (.bool a) = .returned (.bool b) := by rw [Bool.eq_iff_iff.2 h]
theorem ret_i {a b : Int} (h : a = b) : Ending.returned (.int .i64 a) = .returned (.int .i64 b) := by rw [h]

/-- a text's byte -/
theorem bl_at (s : ByteArray) (k : Nat) (hk : k < (bl s).length) (W : World) : (Instr.index 9 (.string s) (.int .i64 (k : Int))).run Tryz.prog W = .ok (.int .u8 (((bl s).getD k 0).toNat : Nat)) W := by
  rw [bl_eq] at hk ⊢
  have hsz := Lib.size_eq s
  rw [run_index_string W 9 s .i64 _ Tryz.underlying9, dif_pos ⟨by omega, by omega⟩]
  congr 3
  simp only [Int.toNat_natCast, List.getD_eq_getElem?_getD, List.getElem?_eq_getElem hk, Option.getD_some]
  rfl

/-- a text from a byte on, up to a byte, between -/
theorem ext_from (s : ByteArray) (k : Nat) : s.extract k s.size = mk ((bl s).drop k) := by
  rw [ext_bl, bl_size, List.take_length]
theorem ext_to (s : ByteArray) (k : Nat) : s.extract 0 k = mk ((bl s).take k) := by
  rw [ext_bl, List.drop_zero]
theorem ext_mid (s : ByteArray) (a b : Nat) : s.extract a b = mk (((bl s).drop a).take (b - a)) := by
  rw [ext_bl, List.drop_take]

/-- cuts of a text, as they run -/
theorem sl_from (l : List UInt8) (k : Nat) (hk : k ≤ l.length) (W : World) : (Instr.slice 9 (.string (mk l)) (some (.int .i64 (k : Int))) none none).run Tryz.prog W = .ok (.string (mk (l.drop k))) W := by
  have hs := mk_size l
  have h1 : (k : Int) ≤ ((mk l).size : Int) := by omega
  have e := ext_from (mk l) k
  rw [bl_mk] at e
  rw [← e]
  go_simp
theorem sl_upto (l : List UInt8) (k : Nat) (hk : k ≤ l.length) (W : World) : (Instr.slice 9 (.string (mk l)) none (some (.int .i64 (k : Int))) none).run Tryz.prog W = .ok (.string (mk (l.take k))) W := by
  have hs := mk_size l
  have h1 : (k : Int) ≤ ((mk l).size : Int) := by omega
  have e := ext_to (mk l) k
  rw [bl_mk] at e
  rw [← e]
  go_simp
theorem sl_mid (l : List UInt8) (a b : Nat) (ha : a ≤ b) (hb : b ≤ l.length) (W : World) : (Instr.slice 9 (.string (mk l)) (some (.int .i64 (a : Int))) (some (.int .i64 (b : Int))) none).run Tryz.prog W = .ok (.string (mk ((l.drop a).take (b - a)))) W := by
  have hs := mk_size l
  have h1 : (b : Int) ≤ ((mk l).size : Int) := by omega
  have h2 : (a : Int) ≤ (b : Int) := by omega
  have e := ext_mid (mk l) a b
  rw [bl_mk] at e
  rw [← e]
  go_simp
theorem at_mk (l : List UInt8) (k : Nat) (hk : k < l.length) (W : World) : (Instr.index 9 (.string (mk l)) (.int .i64 (k : Int))).run Tryz.prog W = .ok (.int .u8 ((l.getD k 0).toNat : Nat)) W := by
  have := bl_at (mk l) k (by rw [bl_mk]; exact hk) W
  rw [bl_mk] at this
  exact this

/-- the program's tables -/
structure Tabs (w : World) : Prop where
  signs : w.rangeAt 1 0 (strV (sg2 ++ sg1))
  keys : w.rangeAt 2 0 (strV kyL)
  low : 1 < w.heap.size ∧ 2 < w.heap.size
theorem Tabs.below {w w' : World} (h : Tabs w) (hb : Below w.heap.size w w') : Tabs w' :=
  ⟨fun j v hv => by rw [hb.cell (p := ⟨1, 0 + j, none⟩) h.low.1]; exact h.signs j v hv,
    fun j v hv => by rw [hb.cell (p := ⟨2, 0 + j, none⟩) h.low.2]; exact h.keys j v hv,
    ⟨Nat.lt_of_lt_of_le h.low.1 hb.size, Nat.lt_of_lt_of_le h.low.2 hb.size⟩⟩

/-- a table's text -/
theorem index_tab (W : World) (t : TypeId) (n : Nat) (ht : Tryz.prog.underlying t = some (.array n 9)) (ts : List (List UInt8)) (hn : ts.length = n) (k : Nat) (hk : k < n) :
    (Instr.index t (.agg (strV ts).toArray) (.int .i64 (k : Int))).run Tryz.prog W = .ok (.string (mk (ts.getD k []))) W := by
  obtain ⟨i0, hi, hz0, hz1, hz2⟩ := info_parts Tryz.infoStr
  have hsz : (sizeOf 9).run Tryz.prog W = .ok 1 W := by simp [sizeOf, typeInfo, hi, hz1]
  have hin : (0 : Int) ≤ (k : Int) ∧ (k : Int) < (n : Int) := by omega
  have hg : (strV ts).toArray[k]? = some (.string (mk (ts.getD k []))) := by simpa using strV_get ts k (by omega)
  have hag : (isAgg 9).run Tryz.prog W = .ok false W := by simp [isAgg, run_underlying Tryz.underlying9]
  simp only [Instr.index, asIntOf, Sem.run_bind, Sem.run_pure, Result.andThen_ok, run_underlying ht, hin, if_true, hsz, and_self, Int.toNat_natCast, Nat.mul_one, part, hag, Bool.false_eq_true, if_false, hg]

end Go.Proofs.YtlpengaclkidiaaGreatDoor

/- Paths, plainly: names, pieces, the text of pieces; walking by a written path. -/
namespace Go.Proofs.YtlpengaclkidiaaGreatDoor

/-- a sign that a name may have -/
def nbI (c : Int) : Bool := decide ((65 ≤ c ∧ c ≤ 90) ∨ (97 ≤ c ∧ c ≤ 122) ∨ (48 ≤ c ∧ c ≤ 57) ∨ c = 46 ∨ c = 95 ∨ c = 45)
/-- a name -/
def nmP (l : List UInt8) : Bool := decide (1 ≤ l.length ∧ l.length ≤ 64 ∧ l ≠ [46] ∧ l ≠ [46, 46]) && l.all (fun c => nbI c.toNat)
/-- what stands between the slashes -/
def pcs : List UInt8 → List (List UInt8)
  | [] => [[]]
  | c :: r => if c = 47 then [] :: pcs r else
    match pcs r with
    | [] => [[c]]
    | h :: t => (c :: h) :: t
/-- pieces with slashes between -/
def txt : List (List UInt8) → List UInt8
  | [] => []
  | x :: r => x ++ (r.map ((47 : UInt8) :: ·)).flatten

theorem txt_join (l : List (List UInt8)) : Lib.join l [47] = txt l := by
  cases l with
  | nil => rfl
  | cons x r => rw [Lib.join_cons]; rfl
theorem txt_one (x : List UInt8) : txt [x] = x := by simp [txt]
theorem txt_two (x y : List UInt8) (r : List (List UInt8)) : txt (x :: y :: r) = x ++ 47 :: txt (y :: r) := by simp [txt]

theorem pcs_ne (s : List UInt8) : pcs s ≠ [] := by
  cases s with
  | nil => simp [pcs]
  | cons c r =>
    unfold pcs
    split
    · simp
    · split <;> simp
theorem pcs_slash (r : List UInt8) : pcs (47 :: r) = [] :: pcs r := by simp [pcs]
theorem pcs_cons (c : UInt8) (r : List UInt8) (h : c ≠ 47) : ∃ x t, pcs r = x :: t ∧ pcs (c :: r) = (c :: x) :: t := by
  cases e : pcs r with
  | nil => exact absurd e (pcs_ne r)
  | cons x t => exact ⟨x, t, rfl, by simp [pcs, h, e]⟩
theorem pcs_append (a b : List UInt8) : pcs (a ++ 47 :: b) = pcs a ++ pcs b := by
  induction a with
  | nil => simp [pcs]
  | cons c a ih =>
    by_cases h : c = 47
    · subst h; rw [List.cons_append, pcs_slash, pcs_slash, ih]; rfl
    · obtain ⟨x, t, e1, e2⟩ := pcs_cons c a h
      obtain ⟨y, u, f1, f2⟩ := pcs_cons c (a ++ 47 :: b) h
      rw [List.cons_append, f2, e2]
      rw [ih, e1] at f1
      simp only [List.cons_append, List.cons.injEq] at f1
      obtain ⟨rfl, rfl⟩ := f1
      rfl
theorem pcs_whole {s : List UInt8} (h : (47 : UInt8) ∉ s) : pcs s = [s] := by
  induction s with
  | nil => rfl
  | cons c r ih =>
    simp only [List.mem_cons, not_or] at h
    obtain ⟨x, t, e1, e2⟩ := pcs_cons c r (fun e => h.1 e.symm)
    rw [ih h.2] at e1
    simp only [List.cons.injEq] at e1
    obtain ⟨rfl, rfl⟩ := e1
    exact e2
theorem pcs_mem (s : List UInt8) : ∀ p ∈ pcs s, (47 : UInt8) ∉ p := by
  induction s with
  | nil => simp [pcs]
  | cons c r ih =>
    by_cases h : c = 47
    · subst h; rw [pcs_slash]; intro p hp
      simp only [List.mem_cons] at hp
      rcases hp with rfl | hp
      · simp
      · exact ih p hp
    · obtain ⟨x, t, e1, e2⟩ := pcs_cons c r h
      rw [e2]; rw [e1] at ih
      intro p hp
      simp only [List.mem_cons] at hp
      rcases hp with rfl | hp
      · simp only [List.mem_cons, not_or]
        exact ⟨fun e => h e.symm, ih x (by simp)⟩
      · exact ih p (by simp [hp])
theorem txt_pcs (s : List UInt8) : txt (pcs s) = s := by
  induction s with
  | nil => rfl
  | cons c r ih =>
    by_cases h : c = 47
    · subst h; rw [pcs_slash]
      cases e : pcs r with
      | nil => exact absurd e (pcs_ne r)
      | cons x t => rw [txt_two, ← e, ih]; rfl
    · obtain ⟨x, t, e1, e2⟩ := pcs_cons c r h
      rw [e2]; rw [e1] at ih
      simp only [txt] at ih ⊢
      rw [← ih]; rfl
theorem pcs_txt : ∀ (l : List (List UInt8)), l ≠ [] → (∀ p ∈ l, (47 : UInt8) ∉ p) → pcs (txt l) = l
  | [], h, _ => absurd rfl h
  | [x], _, h => by rw [txt_one]; exact pcs_whole (h x (by simp))
  | x :: y :: r, _, h => by
    rw [txt_two, pcs_append, pcs_whole (h x (by simp)), pcs_txt (y :: r) (by simp) (fun p hp => h p (List.mem_cons_of_mem _ hp))]
    rfl

theorem nmP_slash {p : List UInt8} (h : nmP p = true) : (47 : UInt8) ∉ p := by
  unfold nmP at h
  rw [Bool.and_eq_true, List.all_eq_true] at h
  intro hm
  have := h.2 47 hm
  revert this; decide
theorem nmP_ne {p : List UInt8} (h : nmP p = true) : p ≠ [] ∧ p ≠ [46] ∧ p ≠ [46, 46] := by
  unfold nmP at h
  rw [Bool.and_eq_true, decide_eq_true_iff] at h
  obtain ⟨⟨h1, _, h2, h3⟩, _⟩ := h
  refine ⟨?_, h2, h3⟩
  rintro rfl; simp at h1
theorem nmP_len {p : List UInt8} (h : nmP p = true) : p.length ≤ 64 := by
  unfold nmP at h
  rw [Bool.and_eq_true, decide_eq_true_iff] at h
  exact h.1.2.1

/-- so many names, and no more, make a path -/
def pathL (l : List (List UInt8)) : Prop := (∀ p ∈ l, nmP p = true) ∧ l.length ≤ 32
/-- a path's names -/
def nms (s : List UInt8) : List (List UInt8) := if s = [] then [] else pcs s
/-- is it a path? -/
def okP (s : List UInt8) : Bool := (nms s).all nmP && decide ((nms s).length ≤ 32)
theorem okP_iff (s : List UInt8) : okP s = true ↔ pathL (nms s) := by
  unfold okP pathL
  rw [Bool.and_eq_true, List.all_eq_true, decide_eq_true_iff]
theorem txt_nms (s : List UInt8) : txt (nms s) = s := by
  unfold nms
  split
  · rename_i h; rw [h]; rfl
  · exact txt_pcs s
theorem txt_ne {l : List (List UInt8)} (h : ∀ p ∈ l, nmP p = true) (hl : l ≠ []) : txt l ≠ [] := by
  cases l with
  | nil => exact absurd rfl hl
  | cons x r =>
    have := (nmP_ne (h x (by simp))).1
    simp only [txt]
    intro e
    exact this (List.append_eq_nil_iff.1 e).1
theorem nms_txt {l : List (List UInt8)} (h : ∀ p ∈ l, nmP p = true) : nms (txt l) = l := by
  unfold nms
  by_cases hl : l = []
  · subst hl; rfl
  · rw [if_neg (txt_ne h hl)]
    exact pcs_txt l hl (fun p hp => nmP_slash (h p hp))
theorem okP_txt {l : List (List UInt8)} (h : pathL l) : okP (txt l) = true := by
  rw [okP_iff, nms_txt h.1]; exact h
theorem okP_nil : okP [] = true := by decide

/-- one piece of a written path -/
def stepP (l : List (List UInt8)) (p : List UInt8) : Except Int (List (List UInt8)) :=
  if p = [] ∨ p = [46] then .ok l
  else if p = [46, 46] then (if l = [] then .error 43 else .ok l.dropLast)
  else if nmP p = true then .ok (l ++ [p]) else .error 42
/-- pieces, one behind the other -/
def stepsP : List (List UInt8) → List (List UInt8) → Except Int (List (List UInt8))
  | l, [] => .ok l
  | l, p :: r => match stepP l p with
    | .ok m => stepsP m r
    | .error e => .error e
/-- a written path -/
def walkP (l : List (List UInt8)) (s : List UInt8) : Except Int (List (List UInt8)) :=
  if 4096 < s.length then .error 40 else if s.head? = some 47 then .error 41 else stepsP l (pcs s)
def walksP : List (List UInt8) → List (List UInt8) → Except Int (List (List UInt8))
  | l, [] => .ok l
  | l, s :: r => match walkP l s with
    | .ok m => walksP m r
    | .error e => .error e
/-- the path of names that are names -/
def endP (l : List (List UInt8)) : Except Int (List UInt8) := if 32 < l.length then .error 44 else .ok (txt l)
def finP (r : Except Int (List (List UInt8))) : Except Int (List UInt8) := match r with
  | .ok m => endP m
  | .error e => .error e
def joinP (b : List UInt8) (more : List (List UInt8)) : Except Int (List UInt8) :=
  if okP b = true then finP (walksP (nms b) more) else .error 45
/-- an answer's text and number -/
def aS (r : Except Int (List UInt8)) : List UInt8 := match r with | .ok s => s | .error _ => []
def aN (r : Except Int (List UInt8)) : Int := match r with | .ok _ => 0 | .error e => e

theorem stepP_err {l : List (List UInt8)} {p : List UInt8} {e : Int} (h : stepP l p = .error e) : e = 42 ∨ e = 43 := by
  unfold stepP at h
  repeat' split at h
  all_goals first | (cases h; done) | (cases h; simp)
theorem stepsP_err : ∀ {r l : List (List UInt8)} {e : Int}, stepsP l r = .error e → e = 42 ∨ e = 43
  | [], l, e, h => by cases h
  | p :: r, l, e, h => by
    unfold stepsP at h
    split at h
    · exact stepsP_err h
    · rename_i e' he; cases h; exact stepP_err he
theorem walkP_err {l : List (List UInt8)} {s : List UInt8} {e : Int} (h : walkP l s = .error e) : 40 ≤ e ∧ e ≤ 43 := by
  unfold walkP at h
  split at h
  · cases h; decide
  · split at h
    · cases h; decide
    · rcases stepsP_err h with rfl | rfl <;> decide
theorem walksP_err : ∀ {r l : List (List UInt8)} {e : Int}, walksP l r = .error e → 40 ≤ e ∧ e ≤ 43
  | [], l, e, h => by cases h
  | p :: r, l, e, h => by
    unfold walksP at h
    split at h
    · exact walksP_err h
    · rename_i e' he; cases h; exact walkP_err he
theorem stepP_names {l m : List (List UInt8)} {p : List UInt8} (h : stepP l p = .ok m) (hl : ∀ x ∈ l, nmP x = true) : ∀ x ∈ m, nmP x = true := by
  unfold stepP at h
  repeat' split at h
  · cases h; exact hl
  · cases h
  · cases h; exact fun x hx => hl x ((List.dropLast_sublist l).subset hx)
  · rename_i hp; cases h
    intro x hx
    rw [List.mem_append] at hx
    rcases hx with hx | hx
    · exact hl x hx
    · rw [List.mem_singleton] at hx; rw [hx]; exact hp
  · cases h
theorem stepsP_names : ∀ {r l m : List (List UInt8)}, stepsP l r = .ok m → (∀ x ∈ l, nmP x = true) → ∀ x ∈ m, nmP x = true
  | [], l, m, h, hl => by cases h; exact hl
  | p :: r, l, m, h, hl => by
    unfold stepsP at h
    split at h
    · rename_i k hk; exact stepsP_names h (stepP_names hk hl)
    · cases h
theorem walkP_names {l m : List (List UInt8)} {s : List UInt8} (h : walkP l s = .ok m) (hl : ∀ x ∈ l, nmP x = true) : ∀ x ∈ m, nmP x = true := by
  unfold walkP at h
  split at h
  · cases h
  · split at h
    · cases h
    · exact stepsP_names h hl
theorem walksP_names : ∀ {r l m : List (List UInt8)}, walksP l r = .ok m → (∀ x ∈ l, nmP x = true) → ∀ x ∈ m, nmP x = true
  | [], l, m, h, hl => by cases h; exact hl
  | p :: r, l, m, h, hl => by
    unfold walksP at h
    split at h
    · rename_i k hk; exact walksP_names h (walkP_names hk hl)
    · cases h

/-- what is answered is a path -/
theorem joinP_ok {b : List UInt8} {more : List (List UInt8)} {s : List UInt8} (h : joinP b more = .ok s) : ∃ m, okP b = true ∧ walksP (nms b) more = .ok m ∧ pathL m ∧ s = txt m := by
  unfold joinP at h
  split at h
  · rename_i hb
    unfold finP at h
    split at h
    · rename_i m hm
      unfold endP at h
      split at h
      · cases h
      · cases h
        exact ⟨m, hb, hm, ⟨walksP_names hm ((okP_iff b).1 hb).1, by omega⟩, rfl⟩
    · cases h
  · cases h

end Go.Proofs.YtlpengaclkidiaaGreatDoor

/- Texts as lists of bytes; slices of texts in memory, of one's own or wherever they lie. -/
namespace Go.Proofs.YtlpengaclkidiaaGreatDoor
open Go.RowKit










end Go.Proofs.YtlpengaclkidiaaGreatDoor

/- Name of both sides: a text is a name, or it isn't. -/
namespace Go.Proofs.YtlpengaclkidiaaGreatDoor
open Go.RowKit


set_option maxHeartbeats 1000000 in
theorem nameByte_any (c : Int) (w : World) :
    Calls Tryz.prog 94 #[.int .u8 c] w fun e w' => e = .returned (.bool (nbI c)) ∧ w' = w := by
  go_enter Tryz.func94, Tryz.ntmps94
  go_wp2
  all_goals go_ret
  all_goals refine ⟨ret_b ?_, rfl⟩
  all_goals unfold nbI
  all_goals simp
  all_goals omega


/-- Name's number -/
def nmN (l : List UInt8) : Int := if nmP l = true then 0 else 42
/-- how far the signs are right -/
def nbTo (l : List UInt8) (k : Nat) : Prop := ∀ j, j < k → nbI ((l.getD j 0).toNat : Nat) = true
theorem nbTo_all {l : List UInt8} (h : nbTo l l.length) : l.all (fun c => nbI c.toNat) = true := by
  rw [List.all_eq_true]
  intro c hc
  obtain ⟨j, hj, rfl⟩ := List.mem_iff_getElem.1 hc
  have := h j hj
  simpa [List.getD_eq_getElem?_getD, hj] using this
theorem nmN_bad1 {l : List UInt8} (h : ¬ (1 ≤ l.length ∧ l.length ≤ 64 ∧ l ≠ [46] ∧ l ≠ [46, 46])) : nmN l = 42 := by
  unfold nmN nmP
  rw [decide_eq_false h]; rfl
theorem nmN_bad2 {l : List UInt8} (k : Nat) (hk : k < l.length) (h : nbI ((l.getD k 0).toNat : Nat) = false) : nmN l = 42 := by
  unfold nmN
  rw [if_neg]
  intro e
  unfold nmP at e
  rw [Bool.and_eq_true, List.all_eq_true] at e
  have := e.2 (l[k]) (List.getElem_mem hk)
  simp [List.getD_eq_getElem?_getD, hk] at h
  rw [h] at this
  cases this
theorem nmN_ok {l : List UInt8} (h : 1 ≤ l.length ∧ l.length ≤ 64 ∧ l ≠ [46] ∧ l ≠ [46, 46]) (h2 : nbTo l l.length) : nmN l = 0 := by
  unfold nmN nmP
  rw [decide_eq_true h, nbTo_all h2]; rfl

set_option maxHeartbeats 1000000 in
theorem name_any (s : ByteArray) (w : World) :
    Calls Tryz.prog 66 #[.string s] w fun e w' => e = .returned (.int .i64 (nmN (bl s))) ∧ w' = w := by
  have HAT := hid (bl_at s)
  have hsz := bl_size s
  obtain ⟨l, hl⟩ : ∃ l, bl s = l := ⟨_, rfl⟩
  have hl' : s.toList = l := hl
  rw [hl] at hsz HAT ⊢
  by_cases hok : 1 ≤ l.length ∧ l.length ≤ 64 ∧ l ≠ [46] ∧ l ≠ [46, 46]
  · have HOK := hid hok
    obtain ⟨o1, o2, o3, o4⟩ := hok
    have p1 : ¬ (l.length : Int) < 1 := by omega
    have p2 : ¬ (64 : Int) < (l.length : Int) := by omega
    have HL := hid hl
    have b3 : (l == [46]) = false := by simp [o3]
    have b4 : (l == [46, 46]) = false := by simp [o4]
    clear hl
    go_enter Tryz.func66, Tryz.ntmps66
    go_wp2
    go_loop [22] (fun i => ∃ k : Nat, i = .int .i64 k ∧ k ≤ l.length ∧ nbTo l k) (fun i => l.length - (intOf i).toNat)
    case atStart => exact ⟨0, rfl, by omega, fun j hj => by omega⟩
    case round =>
      obtain ⟨k, rfl, hk, hto⟩ := hrel
      have HTO := hid hto
      clear hto
      by_cases hlt : k < l.length
      · have q1 : (k : Int) < (l.length : Int) := by omega
        have i1 := HAT.out k hlt
        obtain ⟨c, HC⟩ : ∃ c : UInt8, Hid (l.getD k 0 = c) := ⟨_, rfl⟩
        rw [HC.out] at i1
        go_wp2_with (go_at_call 94; refine (nameByte_any _ _).mono ?_; rintro e w' ⟨rfl, rfl⟩)
        · go_ret
          refine ⟨ret_i (nmN_bad2 k hlt ?_).symm, rfl⟩
          rw [HC.out]
          rename_i hb
          simpa using hb
        · rename_i hb
          refine ⟨⟨k + 1, by simp, by omega, fun j hj => ?_⟩, by simp [intOf]; omega⟩
          by_cases hjk : j = k
          · subst hjk; rw [HC.out]; simpa using hb
          · exact HTO.out j (by omega)
      · have q1 : ¬ (k : Int) < (l.length : Int) := by omega
        obtain rfl : k = l.length := by omega
        go_wp2
        go_ret
        exact ⟨ret_i (nmN_ok HOK.out HTO.out).symm, rfl⟩
  · have HB := hid (nmN_bad1 hok)
    have HOK := hid hok
    clear hok hl
    go_enter Tryz.func66, Tryz.ntmps66
    go_wp2
    all_goals first
      | (go_ret; exact ⟨ret_i HB.out.symm, rfl⟩)
      | (exfalso; refine HOK.out ?_; simp_all; done)
      | (exfalso; refine HOK.out ?_; simp_all; omega)

end Go.Proofs.YtlpengaclkidiaaGreatDoor

/- Contracts of the library, laid over this dump. -/
namespace Go.Proofs
open Go.Shelf
def Tryz.lays156_ren : Go.Shelf.Ren := ⟨fun | 156 => 108 | 165 => 115 | 166 => 26 | 169 => 28 | 240 => 45 | 241 => 121 | 276 => 72 | 277 => 125 | n => n, fun | 31 => 34 | 9 => 9 | 3 => 3 | 4 => 4 | 0 => 0 | 20 => 20 | 72 => 60 | 76 => 65 | 70 => 57 | 37 => 58 | 75 => 64 | 127 => 86 | 164 => 109 | 5 => 5 | 80 => 68 | n => n, fun | n => n⟩
theorem Tryz.lays156 : Go.Proofs.Lays.n156 Tryz.prog Tryz.lays156_ren := {
  mixed := by kernel_rfl
  f156 := Tryz.func108.trans (congrArg some (by kernel_rfl))
  f165 := Tryz.func115.trans (congrArg some (by kernel_rfl))
  f166 := Tryz.func26.trans (congrArg some (by kernel_rfl))
  f169 := Tryz.func28.trans (congrArg some (by kernel_rfl))
  f240 := Tryz.func45.trans (congrArg some (by kernel_rfl))
  f241 := Tryz.func121.trans (congrArg some (by kernel_rfl))
  f276 := Tryz.func72.trans (congrArg some (by kernel_rfl))
  f277 := Tryz.func125.trans (congrArg some (by kernel_rfl))
  t0 := Tryz.underlying0
  a0 := Tryz.isAgg0
  z0 := Tryz.sizeOf0
  v0 := Tryz.zeroValue0
  t3 := Tryz.underlying3
  a3 := Tryz.isAgg3
  z3 := Tryz.sizeOf3
  v3 := Tryz.zeroValue3
  t4 := Tryz.underlying4
  a4 := Tryz.isAgg4
  z4 := Tryz.sizeOf4
  v4 := Tryz.zeroValue4
  t9 := Tryz.underlying9
  a9 := Tryz.isAgg9
  z9 := Tryz.sizeOf9
  v9 := Tryz.zeroValue9
  t20 := Tryz.underlying20
  a20 := Tryz.isAgg20
  z20 := Tryz.sizeOf20
  v20 := Tryz.zeroValue20
  t31 := Tryz.underlying34
  a31 := Tryz.isAgg34
  z31 := Tryz.sizeOf34
  v31 := Tryz.zeroValue34
  t37 := Tryz.underlying58
  a37 := Tryz.isAgg58
  z37 := Tryz.sizeOf58
  v37 := Tryz.zeroValue58
  t70 := Tryz.underlying57
  a70 := Tryz.isAgg57
  z70 := Tryz.sizeOf57
  v70 := Tryz.zeroValue57
  t72 := Tryz.underlying60
  a72 := Tryz.isAgg60
  z72 := Tryz.sizeOf60
  v72 := Tryz.zeroValue60
  t75 := Tryz.underlying64
  a75 := Tryz.isAgg64
  z75 := Tryz.sizeOf64
  v75 := Tryz.zeroValue64
  t76 := Tryz.underlying65
  a76 := Tryz.isAgg65
  z76 := Tryz.sizeOf65
  v76 := Tryz.zeroValue65
  t127 := Tryz.underlying86
  a127 := Tryz.isAgg86
  z127 := Tryz.sizeOf86
  v127 := Tryz.zeroValue86
  t164 := Tryz.underlying109
  a164 := Tryz.isAgg109
  z164 := Tryz.sizeOf109
  v164 := Tryz.zeroValue109 }
theorem Tryz.Builder_Extra_156 : Builder.Extra Tryz.prog Tryz.lays156_ren := {
  sizeBuilder := by kernel_rfl
  liesBuilder := by kernel_rfl
  t5 := Tryz.underlying5
  a5 := Tryz.isAgg5
  z5 := Tryz.sizeOf5
  v5 := Tryz.zeroValue5
  infoByte := by kernel_rfl
  cellsByte := by kernel_rfl
  sizeByte := by kernel_rfl
  neB5 := by decide }
open Go.RowKit in
theorem Tryz.strings_Join_none (a : Option Addr) (c : Nat) (sep : ByteArray) (w : World) :
    Calls Tryz.prog 108 #[.slice a 0 c, .string sep] w fun e w' => e = .returned (.string ⟨#[]⟩) ∧ w' = w := Any.strings_Join_none Tryz.lays156 Tryz.Builder_Extra_156 a c sep w
open Go.RowKit in
theorem Tryz.strings_Join (bk o c : Nat) (xs : List ByteArray) (sep : ByteArray) (w : World) (hcells : ∀ (j : Nat) x, xs[j]? = some x → w.cell? ⟨bk, o + j, none⟩ = some (.string x)) (hbk : bk < w.heap.size) (hN : xs.length ≤ 140737488355328) (hcap : xs.length ≤ c) (hlen : (Lib.join (xs.map (·.data.toList)) sep.data.toList).length ≤ 140737488355328) :
    Calls Tryz.prog 108 #[.slice (some ⟨bk, o, none⟩) xs.length c, .string sep] w fun e w' => e = .returned (.string ⟨(Lib.join (xs.map (·.data.toList)) sep.data.toList).toArray⟩) ∧ Below w.heap.size w w' := Any.strings_Join Tryz.lays156 Tryz.Builder_Extra_156 bk o c xs sep w hcells hbk hN hcap hlen
def Tryz.lays219_ren : Go.Shelf.Ren := ⟨fun | 219 => 104 | 217 => 110 | 225 => 111 | 224 => 112 | 267 => 113 | 266 => 116 | 314 => 117 | n => n, fun | 9 => 9 | 3 => 3 | 4 => 4 | 5 => 5 | 46 => 121 | 146 => 123 | 51 => 122 | n => n, fun | 1 => 0 | n => n⟩
theorem Tryz.lays219 : Go.Proofs.Lays.n219 Tryz.prog Tryz.lays219_ren := {
  mixed := by kernel_rfl
  f217 := Tryz.func110.trans (congrArg some (by kernel_rfl))
  f219 := Tryz.func104.trans (congrArg some (by kernel_rfl))
  f224 := Tryz.func112.trans (congrArg some (by kernel_rfl))
  f225 := Tryz.func111.trans (congrArg some (by kernel_rfl))
  f266 := Tryz.func116.trans (congrArg some (by kernel_rfl))
  f267 := Tryz.func113.trans (congrArg some (by kernel_rfl))
  f314 := Tryz.func117.trans (congrArg some (by kernel_rfl))
  t3 := Tryz.underlying3
  a3 := Tryz.isAgg3
  z3 := Tryz.sizeOf3
  v3 := Tryz.zeroValue3
  t4 := Tryz.underlying4
  a4 := Tryz.isAgg4
  z4 := Tryz.sizeOf4
  v4 := Tryz.zeroValue4
  t5 := Tryz.underlying5
  a5 := Tryz.isAgg5
  z5 := Tryz.sizeOf5
  v5 := Tryz.zeroValue5
  t9 := Tryz.underlying9
  a9 := Tryz.isAgg9
  z9 := Tryz.sizeOf9
  v9 := Tryz.zeroValue9
  t46 := Tryz.underlying121
  a46 := Tryz.isAgg121
  z46 := Tryz.sizeOf121
  v46 := Tryz.zeroValue121
  t51 := Tryz.underlying122
  a51 := Tryz.isAgg122
  z51 := Tryz.sizeOf122
  v51 := Tryz.zeroValue122
  t146 := Tryz.underlying123
  a146 := Tryz.isAgg123
  z146 := Tryz.sizeOf123
  v146 := Tryz.zeroValue123
  g1 := by kernel_rfl }
open Go.RowKit Go.Lib in
theorem Tryz.stringslite_Index_one (s : ByteArray) (c : UInt8) (w : World) :
    Calls Tryz.prog 104 #[.string s, .string ⟨#[c]⟩] w fun e w' => e = .returned (.int .i64 (Lib.indexByte s.data.toList c)) ∧ w' = w := Any.stringslite_Index_one Tryz.lays219 s c w
def Tryz.lays143_ren : Go.Shelf.Ren := ⟨fun | 143 => 120 | 219 => 104 | 217 => 110 | 225 => 111 | 224 => 112 | 267 => 113 | 266 => 116 | 314 => 117 | n => n, fun | 9 => 9 | 3 => 3 | 4 => 4 | 5 => 5 | 46 => 121 | 146 => 123 | 51 => 122 | n => n, fun | 1 => 0 | n => n⟩
theorem Tryz.lays143 : Go.Proofs.Lays.n143 Tryz.prog Tryz.lays143_ren := {
  mixed := by kernel_rfl
  f143 := Tryz.func120.trans (congrArg some (by kernel_rfl))
  f217 := Tryz.func110.trans (congrArg some (by kernel_rfl))
  f219 := Tryz.func104.trans (congrArg some (by kernel_rfl))
  f224 := Tryz.func112.trans (congrArg some (by kernel_rfl))
  f225 := Tryz.func111.trans (congrArg some (by kernel_rfl))
  f266 := Tryz.func116.trans (congrArg some (by kernel_rfl))
  f267 := Tryz.func113.trans (congrArg some (by kernel_rfl))
  f314 := Tryz.func117.trans (congrArg some (by kernel_rfl))
  t3 := Tryz.underlying3
  a3 := Tryz.isAgg3
  z3 := Tryz.sizeOf3
  v3 := Tryz.zeroValue3
  t4 := Tryz.underlying4
  a4 := Tryz.isAgg4
  z4 := Tryz.sizeOf4
  v4 := Tryz.zeroValue4
  t5 := Tryz.underlying5
  a5 := Tryz.isAgg5
  z5 := Tryz.sizeOf5
  v5 := Tryz.zeroValue5
  t9 := Tryz.underlying9
  a9 := Tryz.isAgg9
  z9 := Tryz.sizeOf9
  v9 := Tryz.zeroValue9
  t46 := Tryz.underlying121
  a46 := Tryz.isAgg121
  z46 := Tryz.sizeOf121
  v46 := Tryz.zeroValue121
  t51 := Tryz.underlying122
  a51 := Tryz.isAgg122
  z51 := Tryz.sizeOf122
  v51 := Tryz.zeroValue122
  t146 := Tryz.underlying123
  a146 := Tryz.isAgg123
  z146 := Tryz.sizeOf123
  v146 := Tryz.zeroValue123
  g1 := by kernel_rfl }
open Go.RowKit Go.Lib in
theorem Tryz.strings_Index_one (s : ByteArray) (c : UInt8) (w : World) :
    Calls Tryz.prog 120 #[.string s, .string ⟨#[c]⟩] w fun e w' => e = .returned (.int .i64 (Lib.indexByte s.data.toList c)) ∧ w' = w := Any.strings_Index_one Tryz.lays143 s c w
def Tryz.lays138_ren : Go.Shelf.Ren := ⟨fun | 138 => 119 | 195 => 122 | 218 => 124 | 143 => 120 | 219 => 104 | 217 => 110 | 225 => 111 | 224 => 112 | 267 => 113 | 266 => 116 | 314 => 117 | n => n, fun | 9 => 9 | 3 => 3 | 4 => 4 | 5 => 5 | 0 => 0 | 46 => 121 | 146 => 123 | 51 => 122 | n => n, fun | 1 => 0 | n => n⟩
theorem Tryz.lays138 : Go.Proofs.Lays.n138 Tryz.prog Tryz.lays138_ren := {
  mixed := by kernel_rfl
  f138 := Tryz.func119.trans (congrArg some (by kernel_rfl))
  f143 := Tryz.func120.trans (congrArg some (by kernel_rfl))
  f195 := Tryz.func122.trans (congrArg some (by kernel_rfl))
  f217 := Tryz.func110.trans (congrArg some (by kernel_rfl))
  f218 := Tryz.func124.trans (congrArg some (by kernel_rfl))
  f219 := Tryz.func104.trans (congrArg some (by kernel_rfl))
  f224 := Tryz.func112.trans (congrArg some (by kernel_rfl))
  f225 := Tryz.func111.trans (congrArg some (by kernel_rfl))
  f266 := Tryz.func116.trans (congrArg some (by kernel_rfl))
  f267 := Tryz.func113.trans (congrArg some (by kernel_rfl))
  f314 := Tryz.func117.trans (congrArg some (by kernel_rfl))
  t0 := Tryz.underlying0
  a0 := Tryz.isAgg0
  z0 := Tryz.sizeOf0
  v0 := Tryz.zeroValue0
  t3 := Tryz.underlying3
  a3 := Tryz.isAgg3
  z3 := Tryz.sizeOf3
  v3 := Tryz.zeroValue3
  t4 := Tryz.underlying4
  a4 := Tryz.isAgg4
  z4 := Tryz.sizeOf4
  v4 := Tryz.zeroValue4
  t5 := Tryz.underlying5
  a5 := Tryz.isAgg5
  z5 := Tryz.sizeOf5
  v5 := Tryz.zeroValue5
  t9 := Tryz.underlying9
  a9 := Tryz.isAgg9
  z9 := Tryz.sizeOf9
  v9 := Tryz.zeroValue9
  t46 := Tryz.underlying121
  a46 := Tryz.isAgg121
  z46 := Tryz.sizeOf121
  v46 := Tryz.zeroValue121
  t51 := Tryz.underlying122
  a51 := Tryz.isAgg122
  z51 := Tryz.sizeOf122
  v51 := Tryz.zeroValue122
  t146 := Tryz.underlying123
  a146 := Tryz.isAgg123
  z146 := Tryz.sizeOf123
  v146 := Tryz.zeroValue123
  g1 := by kernel_rfl }
open Go.RowKit Go.Lib in
theorem Tryz.strings_Count_one (s : ByteArray) (c : UInt8) (w : World) :
    Calls Tryz.prog 119 #[.string s, .string ⟨#[c]⟩] w fun e w' => e = .returned (.int .i64 (Lib.countByte s.data.toList c)) ∧ w' = w := Any.strings_Count_one Tryz.lays138 s c w
def Tryz.lays148_ren : Go.Shelf.Ren := ⟨fun | 148 => 40 | 222 => 67 | 223 => 68 | 269 => 95 | n => n, fun | 9 => 9 | 3 => 3 | 4 => 4 | 5 => 5 | 146 => 123 | 51 => 122 | 46 => 121 | n => n, fun | n => n⟩
theorem Tryz.lays148 : Go.Proofs.Lays.n148 Tryz.prog Tryz.lays148_ren := {
  mixed := by kernel_rfl
  f148 := Tryz.func40.trans (congrArg some (by kernel_rfl))
  f222 := Tryz.func67.trans (congrArg some (by kernel_rfl))
  f223 := Tryz.func68.trans (congrArg some (by kernel_rfl))
  f269 := Tryz.func95.trans (congrArg some (by kernel_rfl))
  t3 := Tryz.underlying3
  a3 := Tryz.isAgg3
  z3 := Tryz.sizeOf3
  v3 := Tryz.zeroValue3
  t4 := Tryz.underlying4
  a4 := Tryz.isAgg4
  z4 := Tryz.sizeOf4
  v4 := Tryz.zeroValue4
  t5 := Tryz.underlying5
  a5 := Tryz.isAgg5
  z5 := Tryz.sizeOf5
  v5 := Tryz.zeroValue5
  t9 := Tryz.underlying9
  a9 := Tryz.isAgg9
  z9 := Tryz.sizeOf9
  v9 := Tryz.zeroValue9
  t46 := Tryz.underlying121
  a46 := Tryz.isAgg121
  z46 := Tryz.sizeOf121
  v46 := Tryz.zeroValue121
  t51 := Tryz.underlying122
  a51 := Tryz.isAgg122
  z51 := Tryz.sizeOf122
  v51 := Tryz.zeroValue122
  t146 := Tryz.underlying123
  a146 := Tryz.isAgg123
  z146 := Tryz.sizeOf123
  v146 := Tryz.zeroValue123 }
open Go.RowKit Go.Lib in
theorem Tryz.strings_LastIndex_one (s sub : ByteArray) (h1 : sub.size = 1) (hs : s.size < 4611686018427387904) (w : World) :
    Calls Tryz.prog 40 #[.string s, .string sub] w fun e w' => e = .returned (.int .i64 (Lib.lastIndexByte s ((sub[0]'(by omega)).toNat : Int))) ∧ w' = w := Any.strings_LastIndex_one Tryz.lays148 s sub h1 hs w
def Tryz.lays221_ren : Go.Shelf.Ren := ⟨fun | 221 => 114 | 268 => 118 | 138 => 119 | 143 => 120 | 195 => 122 | 197 => 123 | 218 => 124 | 219 => 104 | 260 => 126 | 217 => 110 | 225 => 111 | 224 => 112 | 267 => 113 | 266 => 116 | 314 => 117 | n => n, fun | 9 => 9 | 3 => 3 | 31 => 34 | 4 => 4 | 0 => 0 | 105 => 141 | 21 => 21 | 5 => 5 | 46 => 121 | 119 => 144 | 139 => 147 | 138 => 146 | 146 => 123 | 51 => 122 | n => n, fun | 1 => 0 | 3 => 3 | 4 => 4 | n => n⟩
theorem Tryz.lays221 : Go.Proofs.Lays.n221 Tryz.prog Tryz.lays221_ren := {
  mixed := by kernel_rfl
  f138 := Tryz.func119.trans (congrArg some (by kernel_rfl))
  f143 := Tryz.func120.trans (congrArg some (by kernel_rfl))
  f195 := Tryz.func122.trans (congrArg some (by kernel_rfl))
  f197 := Tryz.func123.trans (congrArg some (by kernel_rfl))
  f217 := Tryz.func110.trans (congrArg some (by kernel_rfl))
  f218 := Tryz.func124.trans (congrArg some (by kernel_rfl))
  f219 := Tryz.func104.trans (congrArg some (by kernel_rfl))
  f221 := Tryz.func114.trans (congrArg some (by kernel_rfl))
  f224 := Tryz.func112.trans (congrArg some (by kernel_rfl))
  f225 := Tryz.func111.trans (congrArg some (by kernel_rfl))
  f260 := Tryz.func126.trans (congrArg some (by kernel_rfl))
  f266 := Tryz.func116.trans (congrArg some (by kernel_rfl))
  f267 := Tryz.func113.trans (congrArg some (by kernel_rfl))
  f268 := Tryz.func118.trans (congrArg some (by kernel_rfl))
  f314 := Tryz.func117.trans (congrArg some (by kernel_rfl))
  t0 := Tryz.underlying0
  a0 := Tryz.isAgg0
  z0 := Tryz.sizeOf0
  v0 := Tryz.zeroValue0
  t3 := Tryz.underlying3
  a3 := Tryz.isAgg3
  z3 := Tryz.sizeOf3
  v3 := Tryz.zeroValue3
  t4 := Tryz.underlying4
  a4 := Tryz.isAgg4
  z4 := Tryz.sizeOf4
  v4 := Tryz.zeroValue4
  t5 := Tryz.underlying5
  a5 := Tryz.isAgg5
  z5 := Tryz.sizeOf5
  v5 := Tryz.zeroValue5
  t9 := Tryz.underlying9
  a9 := Tryz.isAgg9
  z9 := Tryz.sizeOf9
  v9 := Tryz.zeroValue9
  t21 := Tryz.underlying21
  a21 := Tryz.isAgg21
  z21 := Tryz.sizeOf21
  v21 := Tryz.zeroValue21
  t31 := Tryz.underlying34
  a31 := Tryz.isAgg34
  z31 := Tryz.sizeOf34
  v31 := Tryz.zeroValue34
  t46 := Tryz.underlying121
  a46 := Tryz.isAgg121
  z46 := Tryz.sizeOf121
  v46 := Tryz.zeroValue121
  t51 := Tryz.underlying122
  a51 := Tryz.isAgg122
  z51 := Tryz.sizeOf122
  v51 := Tryz.zeroValue122
  t105 := Tryz.underlying141
  a105 := Tryz.isAgg141
  z105 := Tryz.sizeOf141
  v105 := Tryz.zeroValue141
  t119 := Tryz.underlying144
  a119 := Tryz.isAgg144
  z119 := Tryz.sizeOf144
  t138 := Tryz.underlying146
  a138 := Tryz.isAgg146
  z138 := Tryz.sizeOf146
  v138 := Tryz.zeroValue146
  t139 := Tryz.underlying147
  a139 := Tryz.isAgg147
  z139 := Tryz.sizeOf147
  v139 := Tryz.zeroValue147
  t146 := Tryz.underlying123
  a146 := Tryz.isAgg123
  z146 := Tryz.sizeOf123
  v146 := Tryz.zeroValue123
  g1 := by kernel_rfl
  g3 := by kernel_rfl
  g4 := by kernel_rfl }
end Go.Proofs

/- strings.Cut, Split, HasPrefix at a slash; Join with slashes. -/
namespace Go.Proofs.YtlpengaclkidiaaGreatDoor
open Go.RowKit

theorem idx_no : ∀ {l : List UInt8}, (47 : UInt8) ∉ l → Lib.indexByte l 47 = -1
  | [], _ => rfl
  | c :: r, h => by
    simp only [List.mem_cons, not_or] at h
    have e := idx_no h.2
    have hc : (c == 47) = false := by simp; exact fun e => h.1 e.symm
    simp [Lib.indexByte, hc, e]
theorem idx_yes : ∀ {a b : List UInt8}, (47 : UInt8) ∉ a → Lib.indexByte (a ++ 47 :: b) 47 = (a.length : Int)
  | [], b, _ => by simp [Lib.indexByte]
  | c :: r, b, h => by
    simp only [List.mem_cons, not_or] at h
    have e := idx_yes (b := b) h.2
    have hc : (c == 47) = false := by simp; exact fun e => h.1 e.symm
    simp only [List.cons_append, Lib.indexByte, hc, e, List.length_cons]
    have : ((r.length : Int) == -1) = false := by simp
    simp [this]
theorem slash_parts {l : List UInt8} (h : (47 : UInt8) ∈ l) : ∃ a b, l = a ++ 47 :: b ∧ (47 : UInt8) ∉ a := List.eq_append_cons_of_mem h

theorem split_pcs : ∀ (n : Nat) (l : List UInt8), l.length ≤ n → Lib.splitK [47] 0 (l.count 47) l = pcs l
  | 0, l, h => by
    obtain rfl : l = [] := List.length_eq_zero_iff.1 (by omega)
    rfl
  | n + 1, l, h => by
    by_cases hm : (47 : UInt8) ∈ l
    · obtain ⟨a, b, rfl, ha⟩ := slash_parts hm
      have hc : (a ++ 47 :: b).count 47 = b.count 47 + 1 := by
        rw [List.count_append, List.count_eq_zero.2 ha, List.count_cons_self]; omega
      rw [hc, Lib.splitK, Lib.index_one, idx_yes ha]
      have h0 : (((a.length : Int)) == -1) = false := by simp
      rw [h0]
      simp only [Bool.false_eq_true, if_false, Int.toNat_natCast, Nat.add_zero]
      rw [List.take_left, pcs_append, pcs_whole ha]
      have hd : (a ++ 47 :: b).drop (a.length + [(47 : UInt8)].length) = b := by
        rw [show a.length + [(47 : UInt8)].length = a.length + 1 from rfl, ← List.drop_drop, List.drop_left]; rfl
      rw [hd, split_pcs n b (by simp at h; omega)]
      rfl
    · rw [List.count_eq_zero.2 hm, pcs_whole hm]; rfl

theorem splitB_pcs (s : ByteArray) : (Lib.splitB ⟨#[47]⟩ 0 (Lib.countB s ⟨#[47]⟩) s).map Value.string = strV (pcs (bl s)) := by
  have e := Lib.splitB_data ⟨#[47]⟩ 0 (Lib.countB s ⟨#[47]⟩) s
  have hc : Lib.countB s ⟨#[47]⟩ = (bl s).count 47 := by rw [bl_eq]; exact Lib.count_one 47 _
  rw [hc] at e ⊢
  have e2 : Lib.splitK (⟨#[47]⟩ : ByteArray).data.toList 0 ((bl s).count 47) s.data.toList = pcs (bl s) := by
    show Lib.splitK [47] 0 _ s.data.toList = _
    rw [← bl_eq s]; exact split_pcs _ _ (Nat.le_refl _)
  rw [e2] at e
  unfold strV
  rw [← e, List.map_map]
  congr 1

theorem count_len (s : ByteArray) : Lib.countB s ⟨#[47]⟩ + 1 = (pcs (bl s)).length := by
  have e := congrArg List.length (splitB_pcs s)
  rw [List.length_map, strV_length] at e
  rw [← e]
  exact (Lib.splitB_all ⟨#[47]⟩ (by decide) 0 _ s rfl).symm

theorem Tryz.infoStr' : (Tryz.prog.info? 9).map (fun i => (i.zero, i.size, i.bytes)) = some (some (.string ByteArray.empty), 1, 16) := by kernel_rfl

set_option maxHeartbeats 1000000 in
/-- strings.Split at a slash -/
theorem split_any (s : ByteArray) (w : World) (hs : s.size < 4294967281) :
    Calls Tryz.prog 106 #[.string s, .string ⟨#[47]⟩] w fun e w' => e = .returned (.slice (some ⟨w.heap.size, 0, none⟩) (pcs (bl s)).length (pcs (bl s)).length) ∧ w' = w.alloc (.cells (strV (pcs (bl s))).toArray 9) := by
  have hle := Lib.countB_le ⟨#[47]⟩ (by decide) s.size s (Nat.le_refl _)
  have hlen := Lib.splitB_all ⟨#[47]⟩ (by decide) 0 _ s rfl
  have c := Any.strings_genSplit_core Tryz.lays221 Tryz.infoStr' s ⟨#[47]⟩ 0 (-1) (Lib.countB s ⟨#[47]⟩ + 1) w hs (by decide) (by decide)
    (fun x cc _ => (Tryz.strings_Index_one x 47 _).mono fun e w' ⟨he, hw⟩ => ⟨by rw [he]; show _ = Ending.returned (Value.int .i64 (Lib.index x.data.toList [47])); rw [Lib.index_one], hw⟩)
    ((Tryz.strings_Count_one s 47 w).mono fun e w' ⟨he, hw⟩ => ⟨by rw [he]; show _ = Ending.returned (Value.int .i64 ((Lib.count s.data.toList [47] : Nat) : Int)); rw [Lib.count_one]; rfl, hw⟩)
    (by decide) (by decide) (by rw [if_pos (by decide)]; omega)
  rw [Nat.add_sub_cancel, hlen] at c
  have e2 : Lib.cellsOf (Lib.splitB ⟨#[47]⟩ 0 (Lib.countB s ⟨#[47]⟩) s) (Lib.countB s ⟨#[47]⟩ + 1) = (strV (pcs (bl s))).toArray := by rw [← hlen, ← splitB_pcs]; exact Lib.cellsOf_full _
  rw [e2, count_len] at c
  have HC : Hid (Calls Tryz.prog 114 #[.string s, .string ⟨#[47]⟩, .int .i64 0, .int .i64 (-1)] w fun e w' => e = .returned (.slice (some ⟨w.heap.size, 0, none⟩) (pcs (bl s)).length (pcs (bl s)).length) ∧ w' = w.alloc (.cells (strV (pcs (bl s))).toArray 9)) := c
  clear c e2 hlen hle
  go_enter Tryz.func106, Tryz.ntmps106
  go_wp2_with (go_at_call 114; refine HC.out.mono ?_; rintro e w' ⟨rfl, hw⟩; rw [hw])
  go_ret
  exact ⟨rfl, rfl⟩

set_option maxHeartbeats 1000000 in
theorem lcut_no (s : ByteArray) (w : World) (h : (47 : UInt8) ∉ bl s) :
    Calls Tryz.prog 93 #[.string s, .string ⟨#[47]⟩] w fun e w' => e = .returned (.tuple #[.string s, .string (mk []), .bool false]) ∧ w' = w := by
  have hi : Lib.indexByte s.data.toList 47 = -1 := by rw [← bl_eq]; exact idx_no h
  have HI := hid (Tryz.stringslite_Index_one s 47)
  rw [hi] at HI
  clear h hi
  go_enter Tryz.func93, Tryz.ntmps93
  go_wp2_with (go_at_call 104; refine (HI.out _).mono ?_; rintro e w' ⟨rfl, rfl⟩)
  go_ret3
  exact ⟨rfl, rfl⟩

set_option maxHeartbeats 1000000 in
theorem lcut_yes (s : ByteArray) (a b : List UInt8) (w : World) (h : bl s = a ++ 47 :: b) (ha : (47 : UInt8) ∉ a) (hs : (bl s).length ≤ 9223372036854775807) :
    Calls Tryz.prog 93 #[.string s, .string ⟨#[47]⟩] w fun e w' => e = .returned (.tuple #[.string (mk a), .string (mk b), .bool true]) ∧ ∃ n, w' = w.drewN n := by
  have hi : Lib.indexByte s.data.toList 47 = (a.length : Int) := by rw [← bl_eq, h]; exact idx_yes ha
  have HI := hid (Tryz.stringslite_Index_one s 47)
  rw [hi] at HI
  have hsz : s.size = a.length + 1 + b.length := by rw [bl_size, h]; simp; omega
  have e1 : s.extract 0 a.length = mk a := by rw [ext_bl, h]; simp
  have e2 : s.extract (a.length + 1) s.size = mk b := by
    rw [ext_bl, hsz, h, List.take_of_length_le (by simp; omega), ← List.drop_drop, List.drop_left]; rfl
  have HE1 := hid e1
  have HE2 := hid e2
  have HSZ := hid hsz
  rw [← bl_size] at hs
  have mixed : Tryz.prog.follows Departure.mixedOrders = true := by kernel_rfl
  have hw : IntKind.i64.wrap ((a.length : Int) + 1) = (a.length : Int) + 1 := by
    rw [IntKind.wrap_i64]; omega
  clear h hi e1 e2
  have c1 : (0 : Int) ≤ (a.length : Int) := by omega
  have c2 : (a.length : Int) ≤ (s.size : Int) := by omega
  have c3 : (0 : Int) ≤ (a.length : Int) + 1 := by omega
  have c4 : (a.length : Int) + 1 ≤ (s.size : Int) := by omega
  clear hsz
  go_enter Tryz.func93, Tryz.ntmps93
  go_wp2_with (go_at_call 104; refine (HI.out _).mono ?_; rintro e w' ⟨rfl, rfl⟩)
  go_region_o
  go_wp2
  go_ret3
  refine ⟨?_, 1, rfl⟩
  rw [← HE1.out, ← HE2.out]
  rfl

set_option maxHeartbeats 1000000 in
theorem cut_no (s : ByteArray) (w : World) (h : (47 : UInt8) ∉ bl s) :
    Calls Tryz.prog 65 #[.string s, .string ⟨#[47]⟩] w fun e w' => e = .returned (.tuple #[.string s, .string (mk []), .bool false]) ∧ w' = w := by
  have H := hid (lcut_no s · h)
  go_enter Tryz.func65, Tryz.ntmps65
  go_wp2_with (go_at_call 93; refine (H.out _).mono ?_; rintro e w' ⟨rfl, rfl⟩)
  go_ret3
  exact ⟨rfl, rfl⟩

set_option maxHeartbeats 1000000 in
theorem cut_yes (s : ByteArray) (a b : List UInt8) (w : World) (h : bl s = a ++ 47 :: b) (ha : (47 : UInt8) ∉ a) (hs : (bl s).length ≤ 9223372036854775807) :
    Calls Tryz.prog 65 #[.string s, .string ⟨#[47]⟩] w fun e w' => e = .returned (.tuple #[.string (mk a), .string (mk b), .bool true]) ∧ ∃ n, w' = w.drewN n := by
  have H := hid (lcut_yes s a b · h ha hs)
  clear h hs
  go_enter Tryz.func65, Tryz.ntmps65
  go_wp2_with (go_at_call 93; refine (H.out _).mono ?_; rintro e w' ⟨rfl, n, rfl⟩)
  go_ret3
  exact ⟨rfl, n, rfl⟩

/-- strings.HasPrefix -/
theorem pre_any (s p : ByteArray) (w : World) :
    Calls Tryz.prog 100 #[.string s, .string p] w fun e w' => e = .returned (.bool ((bl p).isPrefixOf (bl s))) ∧ w' = w := by
  rw [bl_eq, bl_eq]
  exact Tryz.strings_HasPrefix s p w

/-- strings.Join with slashes -/
theorem joins_any (v : Value) (ts : List (List UInt8)) (w : World) (h : Strs w v ts) (hl : ts.length ≤ 140737488355328) (hb : (txt ts).length ≤ 140737488355328) :
    Calls Tryz.prog 108 #[v, .string ⟨#[47]⟩] w fun e w' => e = .returned (.string (mk (txt ts))) ∧ Below w.heap.size w w' := by
  rcases h with ⟨ao, c, rfl, rfl, _⟩ | ⟨g, o, c, rfl, hlt, hc, hcell⟩
  · exact (Tryz.strings_Join_none ao c _ w).mono fun e w' ⟨he, hw⟩ => ⟨he, hw ▸ Below.refl _ _⟩
  · have hm : (ts.map mk).map (fun (x : ByteArray) => x.data.toList) = ts := by
      rw [List.map_map]
      conv => rhs; rw [← List.map_id ts]
      congr 1
    have e := Tryz.strings_Join g o c (ts.map mk) ⟨#[47]⟩ w (fun j x hj => ?_) hlt (by rw [List.length_map]; exact hl) (by rw [List.length_map]; exact hc) (by rw [hm, show (⟨#[47]⟩ : ByteArray).data.toList = [47] from rfl, txt_join]; exact hb)
    · rw [hm, show (⟨#[47]⟩ : ByteArray).data.toList = [47] from rfl, txt_join, List.length_map] at e
      exact e
    · rw [List.getElem?_map] at hj
      have hjl : j < ts.length := by
        rcases Nat.lt_or_ge j ts.length with h | h
        · exact h
        · rw [List.getElem?_eq_none h] at hj; cases hj
      have := hcell j hjl
      rw [List.getD_eq_getElem?_getD, List.getElem?_eq_getElem hjl] at this
      rw [List.getElem?_eq_getElem hjl] at hj
      have hj := Option.some.inj hj
      rw [← hj]
      exact this

end Go.Proofs.YtlpengaclkidiaaGreatDoor

/- Check, Names, the path of names. -/
namespace Go.Proofs.YtlpengaclkidiaaGreatDoor
open Go.RowKit

theorem name_ok (s : ByteArray) (h : nmP (bl s) = true) (w : World) :
    Calls Tryz.prog 66 #[.string s] w fun e w' => e = .returned (.int .i64 0) ∧ w' = w := by
  have := name_any s w
  unfold nmN at this
  rw [if_pos h] at this
  exact this
theorem name_bad (s : ByteArray) (h : nmP (bl s) = false) (w : World) :
    Calls Tryz.prog 66 #[.string s] w fun e w' => e = .returned (.int .i64 42) ∧ w' = w := by
  have := name_any s w
  unfold nmN at this
  rw [if_neg (by rw [h]; decide)] at this
  exact this

/-- Check's number -/
def chN (l : List UInt8) : Int := if okP l = true then 0 else 45
theorem okP_pcs {l : List UInt8} (h : l ≠ []) : okP l = ((pcs l).all nmP && decide ((pcs l).length ≤ 32)) := by
  unfold okP nms
  rw [if_neg h]

set_option maxRecDepth 100000 in
set_option maxHeartbeats 1000000 in
theorem check_any (s : ByteArray) (w : World) (hs : (bl s).length ≤ 9223372036854775807) :
    Calls Tryz.prog 39 #[.string s] w fun e w' => e = .returned (.int .i64 (chN (bl s))) ∧ ∃ n, w' = w.drewN n := by
  by_cases h0 : bl s = []
  · have hl' : s.toList = [] := h0
    have HN := hid (show chN (bl s) = 0 by rw [h0]; rfl)
    clear h0 hs
    go_enter Tryz.func39, Tryz.ntmps39
    go_wp2
    go_ret
    exact ⟨ret_i HN.out.symm, 0, rfl⟩
  · have hl' : (s.toList == []) = false := by simp; exact h0
    have HK := hid (okP_pcs h0)
    have HS := hid hs
    obtain ⟨l, HL⟩ : ∃ l, Hid (bl s = l) := ⟨_, rfl⟩
    have hne : ¬ s.toList = [] := h0
    clear h0 hs
    go_enter Tryz.func39, Tryz.ntmps39
    go_wp2
    clear hl' hne
    go_loopw [0, 8] (fun v i wr => ∃ (k q : Nat) (x : ByteArray), k ≤ 32 ∧ v = .string x ∧ i = .int .i64 k ∧ wr = w.drewN q ∧ Hid ((bl x).length ≤ 9223372036854775807 ∧ okP (bl s) = ((pcs (bl x)).all nmP && decide ((pcs (bl x)).length ≤ 32 - k)))) (fun _ i _ => 32 - (intOf i).toNat)
    case atStart => exact ⟨0, 0, s, by omega, rfl, rfl, rfl, HS.out, HK.out⟩
    case round =>
      obtain ⟨k, q, x, hk, rfl, rfl, rfl, HI⟩ := hrel
      by_cases hlt : k < 32
      · have q1 : (k : Int) < 32 := by omega
        by_cases hm : (47 : UInt8) ∈ bl x
        · obtain ⟨a, b, hab, ha⟩ := slash_parts hm
          have HC := hid (cut_yes x a b · hab ha HI.out.1)
          have HB := hid (show b.length ≤ 9223372036854775807 by have := HI.out.1; rw [hab] at this; simp at this; omega)
          have HP := hid (show pcs (bl x) = a :: pcs b by rw [hab, pcs_append, pcs_whole ha]; rfl)
          clear hm hab ha
          cases hn : nmP a with
          | false =>
            have HNM := hid (name_bad (mk a) (by rw [bl_mk]; exact hn))
            have HR := hid (show chN (bl s) = 45 by unfold chN; rw [HI.out.2, HP.out, List.all_cons, hn]; rfl)
            clear hn
            go_wp2_with (first | (go_at_call 65; refine (HC.out _).mono ?_; rintro e w' ⟨rfl, n, rfl⟩) | (go_at_call 66; refine (HNM.out _).mono ?_; rintro e w' ⟨rfl, rfl⟩))
            go_ret
            exact ⟨ret_i HR.out.symm, q + n, by simp⟩
          | true =>
            have HNM := hid (name_ok (mk a) (by rw [bl_mk]; exact hn))
            have HR := hid (show okP (bl s) = ((pcs b).all nmP && decide ((pcs b).length ≤ 32 - (k + 1))) by
              rw [HI.out.2, HP.out, List.all_cons, hn, Bool.true_and, List.length_cons]
              congr 1
              rw [decide_eq_decide]
              omega)
            clear hn
            go_wp2_with (first | (go_at_call 65; refine (HC.out _).mono ?_; rintro e w' ⟨rfl, n, rfl⟩) | (go_at_call 66; refine (HNM.out _).mono ?_; rintro e w' ⟨rfl, rfl⟩))
            refine ⟨⟨k + 1, q + n, mk b, by omega, rfl, by simp, by simp, ?_⟩, by simp [intOf]; omega⟩
            rw [bl_mk]
            exact ⟨HB.out, HR.out⟩
        · have HC := hid (cut_no x · hm)
          have HP := hid (pcs_whole hm)
          clear hm
          cases hn : nmP (bl x) with
          | false =>
            have HNM := hid (name_bad x hn)
            have HR := hid (show chN (bl s) = 45 by unfold chN; rw [HI.out.2, HP.out, List.all_cons, hn]; rfl)
            clear hn
            go_wp2_with (first | (go_at_call 65; refine (HC.out _).mono ?_; rintro e w' ⟨rfl, rfl⟩) | (go_at_call 66; refine (HNM.out _).mono ?_; rintro e w' ⟨rfl, rfl⟩))
            go_ret
            exact ⟨ret_i HR.out.symm, q, rfl⟩
          | true =>
            have HNM := hid (name_ok x hn)
            have HR := hid (show chN (bl s) = 0 by
              unfold chN
              rw [HI.out.2, HP.out, List.all_cons, hn, Bool.true_and, List.all_nil, Bool.true_and, List.length_singleton, decide_eq_true (by omega), if_pos rfl])
            clear hn
            go_wp2_with (first | (go_at_call 65; refine (HC.out _).mono ?_; rintro e w' ⟨rfl, rfl⟩) | (go_at_call 66; refine (HNM.out _).mono ?_; rintro e w' ⟨rfl, rfl⟩))
            go_ret
            exact ⟨ret_i HR.out.symm, q, rfl⟩
      · have q1 : ¬ (k : Int) < 32 := by omega
        have HR := hid (show chN (bl s) = 45 by
          have hp : 0 < (pcs (bl x)).length := List.length_pos_iff.2 (pcs_ne _)
          unfold chN
          rw [HI.out.2, decide_eq_false (by omega), Bool.and_false]; rfl)
        go_wp2
        go_ret
        exact ⟨ret_i HR.out.symm, q, rfl⟩

/-- a path is short -/
theorem lens_pcs : ∀ (l : List (List UInt8)), (∀ p ∈ l, nmP p = true) → (txt l).length ≤ 65 * l.length
  | [], _ => by simp [txt]
  | [x], h => by
    have := nmP_len (h x (by simp))
    rw [txt_one]; simp only [List.length_singleton]; omega
  | x :: y :: r, h => by
    have h1 := nmP_len (h x (by simp))
    have h2 := lens_pcs (y :: r) (fun p hp => h p (List.mem_cons_of_mem _ hp))
    rw [txt_two]; simp only [List.length_append, List.length_cons] at *; omega
theorem okP_short {s : List UInt8} (h : okP s = true) : s.length ≤ 2080 := by
  have hp := (okP_iff s).1 h
  have := lens_pcs (nms s) hp.1
  rw [txt_nms] at this
  have := hp.2
  omega

set_option maxHeartbeats 1000000 in
theorem namesOf_any (s : ByteArray) (w : World) (hs : s.size < 4294967281) :
    Calls Tryz.prog 105 #[.string s] w fun e w' => ∃ v, e = .returned v ∧ OwnS w' w.heap.size v (nms (bl s)) ∧ Below w.heap.size w w' := by
  by_cases h0 : bl s = []
  · have hl' : s.toList = [] := h0
    have HN := hid (show nms (bl s) = [] by rw [h0]; rfl)
    clear h0 hs
    go_enter Tryz.func105, Tryz.ntmps105
    go_wp2
    go_ret
    exact ⟨_, rfl, by rw [HN.out]; exact OwnS.nil _ _, Below.refl _ _⟩
  · have hl' : s.toList.isEmpty = false := by simp; exact h0
    have HN := hid (show nms (bl s) = pcs (bl s) by unfold nms; rw [if_neg h0])
    have HC := hid (split_any s w hs)
    have HL := hid (show (pcs (bl s)).length ≤ 1099511627776 by rw [← count_len]; have := Lib.countB_le ⟨#[47]⟩ (by decide) s.size s (Nat.le_refl _); omega)
    clear h0 hs
    go_enter Tryz.func105, Tryz.ntmps105
    go_wp2_with (go_at_call 106; refine HC.out.mono ?_; rintro e w' ⟨rfl, rfl⟩)
    go_ret
    refine ⟨_, rfl, ?_, ?_⟩
    · rw [HN.out]
      exact OwnS.made (hp_new _ _) HL.out (Nat.le_refl _) _ rfl
    · exact below_walk _ _

set_option maxHeartbeats 1000000 in
theorem names_ok (s : ByteArray) (w : World) (h : okP (bl s) = true) :
    Calls Tryz.prog 96 #[.string s] w fun e w' => ∃ v, e = .returned (.tuple #[v, .int .i64 0]) ∧ OwnS w' w.heap.size v (nms (bl s)) ∧ Below w.heap.size w w' := by
  have hs := okP_short h
  have HC := hid (check_any s w (by omega))
  have HR := hid (show chN (bl s) = 0 by unfold chN; rw [h]; rfl)
  rw [HR.out] at HC
  have HO := hid (namesOf_any s · (by rw [bl_size]; omega))
  clear h hs
  go_enter Tryz.func96, Tryz.ntmps96
  go_wp2_with (go_at_call 39; refine HC.out.mono ?_; rintro e w' ⟨rfl, n, rfl⟩)
  refine (HO.out _).mono ?_
  rintro e w2 ⟨v, rfl, ho, hb⟩
  obtain ⟨ao, c, rfl⟩ := ho.strs.shape
  have HH := hid ho
  clear ho
  go_wp2
  go_ret2
  exact ⟨_, rfl, HH.out, ⟨hb.os, hb.tape, hb.output, hb.size, hb.block⟩⟩

set_option maxHeartbeats 1000000 in
theorem names_bad (s : ByteArray) (w : World) (h : okP (bl s) = false) (hs : (bl s).length ≤ 9223372036854775807) :
    Calls Tryz.prog 96 #[.string s] w fun e w' => e = .returned (.tuple #[.slice none 0 0, .int .i64 45]) ∧ Below w.heap.size w w' := by
  have HC := hid (check_any s w hs)
  have HR := hid (show chN (bl s) = 45 by unfold chN; rw [h]; rfl)
  rw [HR.out] at HC
  clear h hs
  go_enter Tryz.func96, Tryz.ntmps96
  go_wp2_with (go_at_call 39; refine HC.out.mono ?_; rintro e w' ⟨rfl, n, rfl⟩)
  go_ret2
  exact ⟨rfl, ⟨rfl, rfl, rfl, Nat.le_refl _, fun _ _ => rfl⟩⟩

set_option maxHeartbeats 1000000 in
/-- the path of names -/
theorem pathOf_any (v : Value) (ts : List (List UInt8)) (w : World) (h : Strs w v ts) (hn : ∀ p ∈ ts, nmP p = true) (hl : ts.length ≤ 9223372036854775807) :
    Calls Tryz.prog 98 #[v] w fun e w' => e = .returned (.tuple #[.string (mk (aS (endP ts))), .int .i64 (aN (endP ts))]) ∧ Below w.heap.size w w' := by
  obtain ⟨ao, c, rfl⟩ := h.shape
  have HS := hid h
  clear h
  by_cases h32 : 32 < ts.length
  · have q1 : (32 : Int) < (ts.length : Int) := by omega
    have HE := hid (show endP ts = .error 44 by unfold endP; rw [if_pos h32])
    clear h32
    go_enter Tryz.func98, Tryz.ntmps98
    go_wp2
    go_ret2
    rw [HE.out]
    exact ⟨rfl, Below.refl _ _⟩
  · have q1 : ¬ (32 : Int) < (ts.length : Int) := by omega
    have HE := hid (show endP ts = .ok (txt ts) by unfold endP; rw [if_neg h32])
    have hb := lens_pcs ts hn
    have HJ := hid (joins_any _ ts w HS.out (by omega) (by omega))
    clear h32 hb
    go_enter Tryz.func98, Tryz.ntmps98
    go_wp2_with (go_at_call 108; refine HJ.out.mono ?_; rintro e w' ⟨rfl, hb⟩)
    go_ret2
    rw [HE.out]
    exact ⟨rfl, hb⟩

end Go.Proofs.YtlpengaclkidiaaGreatDoor

/- A written path is walked: step, walk, Join, Clean. -/
namespace Go.Proofs.YtlpengaclkidiaaGreatDoor
open Go.RowKit

theorem OwnS.alloc {w : World} {base : Nat} {v : Value} {ts : List (List UInt8)} (h : OwnS w base v ts) (o : Obj) : OwnS (w.alloc o) base v ts := World.ownsRow.alloc h o
theorem OwnS.drewN {w : World} {base : Nat} {v : Value} {ts : List (List UInt8)} (h : OwnS w base v ts) (n : Nat) : OwnS (w.drewN n) base v ts := h
theorem own_below {w w' : World} {base : Nat} {v : Value} {ts : List (List UInt8)} (h : OwnS w base v ts) (hb : base ≤ w.heap.size) (hg : w.grownBy w' v.ownBlock) : Below base w w' :=
  ⟨hg.os, hg.tape, hg.output, hg.size, fun k hk => hg.block k (by omega) (fun e => by have := (h.lt k e.symm).1; omega)⟩
theorem below_le {w w' : World} {a b : Nat} (h : Below a w w') (hb : b ≤ a) : Below b w w' := ⟨h.os, h.tape, h.output, h.size, fun k hk => h.block k (by omega)⟩
theorem below_tr {w w' w'' : World} {a : Nat} (h : Below a w w') (k : Below a w' w'') : Below a w w'' :=
  ⟨k.os.trans h.os, k.tape.trans h.tape, k.output.trans h.output, Nat.le_trans h.size k.size, fun i hi => (k.block i hi).trans (h.block i hi)⟩
/-- one text, laid as a slice -/
theorem pstrs_one (w : World) (p : ByteArray) : Strs (w.alloc (.cells #[.string p] 9)) (.slice (some ⟨w.heap.size, 0, none⟩) 1 1) [bl p] := by
  refine Or.inr ⟨w.heap.size, 0, 1, rfl, by simp, Nat.le_refl _, fun j hj => ?_⟩
  match j, hj with
  | 0, _ => simp [mk_bl]

theorem bl_ne {p : ByteArray} {l : List UInt8} (h : bl p ≠ l) : (p.toList == l) = false := by
  simp; exact h

/-- behind a step: the names, which blocks were written, where they lie -/
structure Stp (w : World) (base : Nat) (v : Value) (w' : World) (v' : Value) (m : List (List UInt8)) : Prop where
  own : OwnS w' base v' m
  gr : w.grownBy w' v.ownBlock
  pl : v'.ownBlock = v.ownBlock ∨ ∃ j, v'.ownBlock = some j ∧ w.heap.size ≤ j
/-- what a walk says -/
def StepPost (R : Except Int (List (List UInt8))) (w : World) (base : Nat) (v : Value) (e : Ending) (w' : World) : Prop :=
  (∃ m v', R = .ok m ∧ e = .returned (.tuple #[v', .int .i64 0]) ∧ Stp w base v w' v' m) ∨ (∃ x, R = .error x ∧ e = .returned (.tuple #[.slice none 0 0, .int .i64 x]) ∧ w' = w)
def WalkPost (R : Except Int (List (List UInt8))) (w : World) (base : Nat) (e : Ending) (w' : World) : Prop :=
  (∃ m v', R = .ok m ∧ e = .returned (.tuple #[v', .int .i64 0]) ∧ OwnS w' base v' m ∧ Below base w w') ∨ (∃ x, R = .error x ∧ e = .returned (.tuple #[.slice none 0 0, .int .i64 x]) ∧ Below base w w')

set_option maxHeartbeats 1000000 in
theorem step_any (base : Nat) (v : Value) (ts : List (List UInt8)) (p : ByteArray) (w : World) (ho : OwnS w base v ts) (hl : ts.length ≤ 1099511627776) (hb : base ≤ w.heap.size) :
    Calls Tryz.prog 107 #[v, .string p] w fun e w' => StepPost (stepP ts (bl p)) w base v e w' := by
  have HO := hid ho
  clear ho
  unfold stepP
  by_cases h1 : bl p = [] ∨ bl p = [46]
  · rw [if_pos h1]
    have HH := hid h1
    clear h1
    obtain ⟨ao, c, rfl⟩ := HO.out.strs.shape
    go_enter Tryz.func107, Tryz.ntmps107
    go_wp2
    all_goals first
      | (go_ret2; exact Or.inl ⟨_, _, rfl, rfl, HO.out, gb_refl _ _, Or.inl rfl⟩)
      | (exfalso; rcases HH.out with e | e <;> simp_all [bl]; done)
  · rw [if_neg h1]
    have n1 : p.toList.isEmpty = false := by
      have : bl p ≠ [] := fun e => h1 (Or.inl e)
      simpa [bl] using this
    have n2 : (p.toList == [46]) = false := bl_ne (fun e => h1 (Or.inr e))
    have n2' : ¬ p.toList = [46] := fun e => h1 (Or.inr e)
    clear h1
    by_cases h2 : bl p = [46, 46]
    · rw [if_pos h2]
      have n3 : p.toList = [46, 46] := h2
      by_cases hts : ts = []
      · rw [if_pos hts]
        subst hts
        obtain ⟨ao, c, rfl⟩ := HO.out.strs.shape
        clear h2
        go_enter Tryz.func107, Tryz.ntmps107
        go_wp2
        go_ret2
        exact Or.inr ⟨_, rfl, rfl, rfl⟩
      · rw [if_neg hts]
        rcases HO.out.forms with ⟨_, e⟩ | ⟨g, cap, rfl, _, _, hcap, hmax, _, _⟩
        · exact absurd e hts
        · have hpos : 0 < ts.length := List.length_pos_iff.2 hts
          have q0 : ¬ (ts.length : Int) = 0 := by omega
          have q0' : ((ts.length : Int) == 0) = false := by simp; exact hts
          have HT := hid (show OwnS w base (.slice (some ⟨g, 0, none⟩) (ts.length - 1) cap) ts.dropLast by rw [List.dropLast_eq_take]; exact HO.out.take _ (by omega))
          obtain ⟨I, HI⟩ : ∃ I : Nat, Hid (I = ts.length - 1) := ⟨_, rfl⟩
          have i1 : IntKind.i64.wrap ((ts.length : Int) - 1) = (I : Int) := by rw [IntKind.wrap_i64, HI.out]; omega
          rw [← HI.out] at HT
          have hsl := sl_to ⟨g, 0, none⟩ ts.length cap I (by rw [HI.out]; omega)
          clear h2
          go_enter Tryz.func107, Tryz.ntmps107
          go_wp2
          go_ret2
          exact Or.inl ⟨_, _, rfl, rfl, HT.out, gb_refl _ _, Or.inl rfl⟩
    · rw [if_neg h2]
      have n3 : (p.toList == [46, 46]) = false := bl_ne h2
      have n3' : ¬ p.toList = [46, 46] := h2
      clear h2
      cases hn : nmP (bl p) with
      | true =>
        rw [if_pos rfl]
        have HN := hid (name_ok p hn)
        clear hn
        go_enter Tryz.func107, Tryz.ntmps107
        go_wp2_with (first | (go_at_call 66; refine (HN.out _).mono ?_; rintro e w' ⟨rfl, rfl⟩) | (at_builtin; refine app_text rfl _ _ rfl base _ _ rfl (HO.out.alloc _) _ _ rfl (pstrs_one _ p) ?c1 ?c2 ?_))
        case c1 => simp; omega
        case c2 => simp; omega
        intro v3 w3 ho3 hg3 hp3
        obtain ⟨ao, c, rfl⟩ := ho3.strs.shape
        have HO3 := hid (⟨ho3, gb_trans (gb_alloc _ _ _) hg3, hp3.elim Or.inl (fun e => Or.inr ⟨_, e, by simp⟩)⟩ : Stp _ base _ _ _ _)
        clear ho3 hg3 hp3
        go_wp2
        go_ret2
        exact Or.inl ⟨_, _, rfl, rfl, HO3.out⟩
      | false =>
        rw [if_neg (by decide)]
        have HN := hid (name_bad p hn)
        clear hn
        obtain ⟨ao, c, rfl⟩ := HO.out.strs.shape
        go_enter Tryz.func107, Tryz.ntmps107
        go_wp2_with (go_at_call 66; refine (HN.out _).mono ?_; rintro e w' ⟨rfl, rfl⟩)
        go_ret2
        exact Or.inr ⟨_, rfl, rfl, rfl⟩

theorem stepP_len {l m : List (List UInt8)} {p : List UInt8} (h : stepP l p = .ok m) : m.length ≤ l.length + 1 := by
  unfold stepP at h
  repeat' split at h
  all_goals first | (cases h; done) | (cases h; simp; done) | (cases h; simp; omega)
theorem pcs_len (l : List UInt8) : (pcs l).length ≤ l.length + 1 := by
  induction l with
  | nil => simp [pcs]
  | cons c r ih =>
    by_cases h : c = 47
    · subst h; rw [pcs_slash]; simp; omega
    · obtain ⟨x, t, e1, e2⟩ := pcs_cons c r h
      rw [e2]; rw [e1] at ih; simp at *; omega
theorem drop_cons {l : List (List UInt8)} {k : Nat} (h : k < l.length) : l.drop k = l.getD k [] :: l.drop (k + 1) := by
  rw [List.drop_eq_getElem_cons h]
  simp [List.getD_eq_getElem?_getD, h]

set_option maxRecDepth 100000 in
set_option maxHeartbeats 1000000 in
theorem walk_any (base : Nat) (v : Value) (ts : List (List UInt8)) (s : ByteArray) (w : World) (ho : OwnS w base v ts) (hl : ts.length ≤ 1099511600000) (hb : base ≤ w.heap.size) :
    Calls Tryz.prog 97 #[v, .string s] w fun e w' => WalkPost (walkP ts (bl s)) w base e w' := by
  have HO := hid ho
  clear ho
  have hsz := bl_size s
  obtain ⟨l, hbl⟩ : ∃ l, bl s = l := ⟨_, rfl⟩
  rw [hbl] at hsz ⊢
  have HBL := hid hbl
  clear hbl
  unfold walkP
  by_cases h4 : 4096 < l.length
  · rw [if_pos h4]
    have q1 : (4096 : Int) < (l.length : Int) := by omega
    clear h4
    obtain ⟨ao, c, rfl⟩ := HO.out.strs.shape
    go_enter Tryz.func97, Tryz.ntmps97
    go_wp2
    go_ret2
    exact Or.inr ⟨_, rfl, rfl, Below.refl _ _⟩
  · rw [if_neg h4]
    have q1 : ¬ (4096 : Int) < (l.length : Int) := by omega
    have HPRE := hid (pre_any s ⟨#[47]⟩)
    rw [HBL.out, show bl (⟨#[47]⟩ : ByteArray) = [47] from bl_mk [47]] at HPRE
    by_cases h47 : l.head? = some 47
    · rw [if_pos h47]
      have e1 : [(47 : UInt8)].isPrefixOf l = true := by
        cases l with
        | nil => simp at h47
        | cons c r => simp at h47; subst h47; simp [List.isPrefixOf]
      rw [e1] at HPRE
      clear h47 e1 h4
      obtain ⟨ao, c, rfl⟩ := HO.out.strs.shape
      go_enter Tryz.func97, Tryz.ntmps97
      go_wp2_with (go_at_call 100; refine (HPRE.out _).mono ?_; rintro e w' ⟨rfl, rfl⟩)
      go_ret2
      exact Or.inr ⟨_, rfl, rfl, Below.refl _ _⟩
    · rw [if_neg h47]
      have e1 : [(47 : UInt8)].isPrefixOf l = false := by
        cases l with
        | nil => rfl
        | cons c r => simp at h47; simp [List.isPrefixOf]; exact fun e => h47 e.symm
      rw [e1] at HPRE
      have HSP := hid (split_any s w (by rw [hsz]; omega))
      rw [HBL.out] at HSP
      have hpl := pcs_len l
      obtain ⟨P, HP⟩ : ∃ P, Hid (pcs l = P) := ⟨_, rfl⟩
      rw [HP.out] at HSP hpl ⊢
      have HH := hid (show (w.alloc (.cells (strV P).toArray 9)).heap[w.heap.size]? = some (.cells (strV P).toArray 9 (0, 0)) from hp_new _ _)
      have HO1 := hid (HO.out.alloc (.cells (strV P).toArray 9))
      have HBW := hid (below_le (below_walk w (.cells (strV P).toArray 9)) hb)
      have HNE := hid (show v.ownBlock ≠ some w.heap.size from fun e => by have := (HO.out.lt _ e).2; omega)
      have hb1 : base ≤ (w.alloc (.cells (strV P).toArray 9)).heap.size := by simp; omega
      have hpb : P.length ≤ 4097 := by omega
      have hsz1 : (w.alloc (.cells (strV P).toArray 9)).heap.size = w.heap.size + 1 := by simp
      clear h47 e1 h4 hpl
      obtain ⟨ao, c, rfl⟩ := HO.out.strs.shape
      go_enter Tryz.func97, Tryz.ntmps97
      go_wp2_with (go_at_call 100; refine (HPRE.out _).mono ?_; rintro e w0 ⟨rfl, hw⟩; subst w0)
      refine HSP.out.mono ?_
      rintro e w1 ⟨rfl, hw⟩
      rw [← hw] at HH HO1 HBW hb1 hsz1
      clear hw
      go_wp2
      clear HPRE HSP
      go_loopw [0, 17] (fun x i wr => ∃ (k : Nat) (m : List (List UInt8)), k ≤ P.length ∧ i = .int .i64 k ∧ OwnS wr base x m ∧ Hid (stepsP m (P.drop k) = stepsP ts P) ∧ m.length ≤ ts.length + k ∧ Below base w wr ∧ wr.heap[w.heap.size]? = some (.cells (strV P).toArray 9 (0, 0)) ∧ x.ownBlock ≠ some w.heap.size) (fun _ i _ => P.length - (intOf i).toNat)
      case atStart => exact ⟨0, ts, by omega, rfl, HO1.out, by rw [List.drop_zero]; rfl, by omega, HBW.out, HH.out, HNE.out⟩
      case round =>
        obtain ⟨k, m, hk, rfl, hom, HST, hml, hbw, hpc, hne⟩ := hrel
        have HOM := hid hom
        have HBR := hid hbw
        have HPC := hid hpc
        have HNR := hid hne
        have hbr : base ≤ wr.heap.size := Nat.le_trans hb hbw.size
        clear hom hbw hpc hne HH HO1 HBW HNE hb1 hsz1
        by_cases hlt : k < P.length
        · have q2 : (k : Int) < (P.length : Int) := by omega
          have hc1 : wr.cell? ⟨w.heap.size, k, none⟩ = some (.string (mk (P.getD k []))) := by
            simp [World.cell?, HPC.out, strV, List.getD_eq_getElem?_getD, hlt]
          have hd := drop_cons hlt
          obtain ⟨pc, HPK⟩ : ∃ pc, Hid (P.getD k [] = pc) := ⟨_, rfl⟩
          rw [HPK.out] at hc1 hd
          have HD := hid hd
          clear hd
          have HSA := hid (step_any base u0 m (mk pc) wr HOM.out (by omega) hbr)
          rw [bl_mk] at HSA
          obtain ⟨ax, cx, rfl⟩ := HOM.out.strs.shape
          go_wp2_with fail
          refine HSA.out.mono ?_
          rintro e w2 (⟨m2, v2, hR, rfl, hs⟩ | ⟨x, hR, rfl, rfl⟩)
          · have HR := hid hR
            have HS := hid hs
            have HST2 := hid (show stepsP m2 (P.drop (k + 1)) = stepsP ts P by rw [← HST.out, HD.out, stepsP, hR])
            have hm2 := stepP_len hR
            obtain ⟨a2, c2, rfl⟩ := hs.own.strs.shape
            have HB2 := hid (below_tr HBR.out (own_below HOM.out hbr hs.gr))
            have HPC2 := hid ((hs.gr.block w.heap.size (hp_lt HPC.out) (fun e => HNR.out e.symm)).trans HPC.out)
            have HNE2 := hid (show (Value.slice a2 m2.length c2).ownBlock ≠ some w.heap.size from by
              intro e
              rcases hs.pl with h | ⟨j, h, hj⟩
              · exact HNR.out (h ▸ e)
              · rw [h] at e
                have := Option.some.inj e
                have := hp_lt HPC.out
                omega)
            clear hR hs
            go_wp2
            refine ⟨⟨k + 1, m2, by omega, by simp, HS.out.own, HST2, by omega, HB2.out, HPC2.out, HNE2.out⟩, by simp [intOf]; omega⟩
          · have HR := hid (show stepsP ts P = .error x by rw [← HST.out, HD.out, stepsP, hR])
            have hx : ¬ x = 0 := by have := stepP_err hR; omega
            have hx' : (x != 0) = true := by simp [hx]
            clear hR
            go_wp2
            go_ret2
            exact Or.inr ⟨x, HR.out, rfl, HBR.out⟩
        · have q2 : ¬ (k : Int) < (P.length : Int) := by omega
          obtain rfl : k = P.length := by omega
          have HR := hid (show stepsP ts P = .ok m by rw [← HST.out, List.drop_length, stepsP])
          obtain ⟨ax, cx, rfl⟩ := HOM.out.strs.shape
          go_wp2
          go_ret2
          exact Or.inl ⟨m, _, HR.out, rfl, HOM.out, HBR.out⟩

end Go.Proofs.YtlpengaclkidiaaGreatDoor

/- Join and Clean; what must come, whatever else is so. -/
namespace Go.Proofs.YtlpengaclkidiaaGreatDoor
open Go.RowKit

theorem ret_si {a b : List UInt8} {x y : Int} (h : a = b) (k : x = y) : Ending.returned (.tuple #[.string (mk a), .int .i64 x]) = .returned (.tuple #[.string (mk b), .int .i64 y]) := by rw [h, k]

/-- how Join stands ahead of a round -/
def Jst (w : World) (b : List UInt8) (more : List (List UInt8)) (k : Nat) (x : Value) (e : Value) (wr : World) : Prop :=
  (∃ m, e = .int .i64 0 ∧ OwnS wr w.heap.size x m ∧ walksP m (more.drop k) = walksP (nms b) more ∧ m.length ≤ 32 + 4097 * k ∧ (∀ p ∈ m, nmP p = true)) ∨
  (∃ er : Int, er ≠ 0 ∧ e = .int .i64 er ∧ walksP (nms b) more = .error er ∧ x = .slice none 0 0)

theorem stepsP_len : ∀ {r l m : List (List UInt8)}, stepsP l r = .ok m → m.length ≤ l.length + r.length
  | [], l, m, h => by cases h; simp
  | p :: r, l, m, h => by
    unfold stepsP at h
    split at h
    · rename_i k hk
      have h1 := stepP_len hk
      have h2 := stepsP_len h
      simp; omega
    · cases h
theorem walkP_len {l m : List (List UInt8)} {s : List UInt8} (h : walkP l s = .ok m) : m.length ≤ l.length + 4097 := by
  unfold walkP at h
  split at h
  · cases h
  · split at h
    · cases h
    · have h1 := stepsP_len h
      have h2 := pcs_len s
      omega

set_option maxRecDepth 100000 in
set_option maxHeartbeats 1000000 in
theorem join_any (s : ByteArray) (vm : Value) (more : List (List UInt8)) (w : World) (hs : (bl s).length ≤ 9223372036854775807) (hm : Strs w vm more) (hl : more.length ≤ 268000000) :
    Calls Tryz.prog 69 #[.string s, vm] w fun e w' => e = .returned (.tuple #[.string (mk (aS (joinP (bl s) more))), .int .i64 (aN (joinP (bl s) more))]) ∧ Below w.heap.size w w' := by
  have HM := hid hm
  clear hm
  obtain ⟨am, cm, rfl⟩ := HM.out.shape
  cases hok : okP (bl s) with
  | false =>
    have HNM := hid (names_bad s w hok hs)
    have HR := hid (show joinP (bl s) more = .error 45 by unfold joinP; rw [hok]; rfl)
    clear hok hs
    go_enter Tryz.func69, Tryz.ntmps69
    go_wp2_with fail
    refine HNM.out.mono ?_
    rintro e w1 ⟨rfl, hb⟩
    have HB := hid hb
    clear hb
    go_wp2
    go_loopw [6, 7, 8] (fun x e i wr => x = .slice none 0 0 ∧ e = .int .i64 45 ∧ i = .int .i64 0 ∧ wr = w1) (fun _ _ _ _ => 0)
    case atStart => exact ⟨rfl, rfl, rfl, rfl⟩
    case round =>
      obtain ⟨rfl, rfl, rfl, h0⟩ := hrel
      subst wr
      go_wp2
      go_ret2
      exact ⟨ret_si (by rw [HR.out]; rfl) (by rw [HR.out]; rfl), HB.out⟩
  | true =>
    have HNM := hid (names_ok s w hok)
    have HPL := hid ((okP_iff _).1 hok)
    have HJ := hid (show joinP (bl s) more = finP (walksP (nms (bl s)) more) by unfold joinP; rw [hok, if_pos rfl])
    clear hok hs
    go_enter Tryz.func69, Tryz.ntmps69
    go_wp2_with fail
    refine HNM.out.mono ?_
    rintro e w1 ⟨v1, rfl, ho, hb⟩
    have HO := hid ho
    have HB := hid hb
    obtain ⟨a1, c1, rfl⟩ := ho.strs.shape
    clear hb ho
    go_wp2
    go_loopw [6, 7, 8] (fun x e i wr => ∃ k : Nat, k ≤ more.length ∧ i = .int .i64 k ∧ Below w.heap.size w wr ∧ Jst w (bl s) more k x e wr) (fun _ _ i _ => more.length - (intOf i).toNat)
    case atStart => exact ⟨0, by omega, rfl, HB.out, Or.inl ⟨_, rfl, HO.out, rfl, by have := HPL.out.2; omega, HPL.out.1⟩⟩
    case round =>
      obtain ⟨k, hk, rfl, hbr, hj⟩ := hrel
      have HBR := hid hbr
      have hle : w.heap.size ≤ wr.heap.size := hbr.size
      have HMR := hid (HM.out.below hbr)
      clear hbr HO HB HNM
      rcases hj with ⟨m, rfl, hom, hw, hml, hnm⟩ | ⟨er, hne, rfl, hw, rfl⟩
      · have HOM := hid hom
        have HW := hid hw
        have HNM := hid hnm
        obtain ⟨ax, cx, rfl⟩ := hom.strs.shape
        clear hom hw hnm
        by_cases hlt : k < more.length
        · have q1 : (k : Int) < (more.length : Int) := by omega
          obtain ⟨g, o, rfl, hc⟩ := HMR.out.at k hlt
          have hd := drop_cons hlt
          obtain ⟨pc, HPK⟩ : ∃ pc, Hid (more.getD k [] = pc) := ⟨_, rfl⟩
          rw [HPK.out] at hc hd
          have HD := hid hd
          have HWK := hid (walk_any w.heap.size _ m (mk pc) wr HOM.out (by omega) hle)
          rw [bl_mk] at HWK
          clear hd
          go_wp2_with fail
          refine HWK.out.mono ?_
          rintro e w2 (⟨m2, v2, hR, rfl, ho2, hb2⟩ | ⟨x, hR, rfl, hb2⟩)
          · have HJ2 : Hid (Jst w (bl s) more (k + 1) v2 (.int .i64 0) w2) := Or.inl ⟨m2, rfl, ho2, by rw [← HW.out, HD.out, walksP, hR], by have := walkP_len hR; omega, walkP_names hR HNM.out⟩
            have HB2 := hid (below_tr HBR.out hb2)
            obtain ⟨a2, c2, rfl⟩ := ho2.strs.shape
            clear hR ho2 hb2
            go_wp2
            exact ⟨⟨k + 1, by omega, by simp, HB2.out, HJ2.out⟩, by simp [intOf]; omega⟩
          · have HJ2 : Hid (Jst w (bl s) more (k + 1) (.slice none 0 0) (.int .i64 x) w2) := Or.inr ⟨x, by have := walkP_err hR; omega, rfl, by rw [← HW.out, HD.out, walksP, hR], rfl⟩
            have HB2 := hid (below_tr HBR.out hb2)
            clear hR hb2
            go_wp2
            exact ⟨⟨k + 1, by omega, by simp, HB2.out, HJ2.out⟩, by simp [intOf]; omega⟩
        · have q1 : ¬ (k : Int) < (more.length : Int) := by omega
          obtain rfl : k = more.length := by omega
          have HR := hid (show joinP (bl s) more = endP m by rw [HJ.out, ← HW.out, List.drop_length, walksP]; rfl)
          have HPO := hid (pathOf_any _ m wr HOM.out.strs HNM.out (by omega))
          go_wp2_with (go_at_call 98; refine HPO.out.mono ?_; rintro e w2 ⟨rfl, hb2⟩)
          go_ret2
          exact ⟨ret_si (by rw [HR.out]) (by rw [HR.out]), below_tr HBR.out (below_le hb2 hle)⟩
      · have q1 : (er == 0) = false := by simp [hne]
        have q2 : (er != 0) = true := by simp [hne]
        have HR := hid (show joinP (bl s) more = .error er by rw [HJ.out, hw]; rfl)
        clear hw
        go_wp2
        go_ret2
        exact ⟨ret_si (by rw [HR.out]; rfl) (by rw [HR.out]; rfl), HBR.out⟩

set_option maxHeartbeats 1000000 in
theorem clean_any (s : ByteArray) (w : World) :
    Calls Tryz.prog 70 #[.string s] w fun e w' => e = .returned (.tuple #[.string (mk (aS (joinP [] [bl s]))), .int .i64 (aN (joinP [] [bl s]))]) ∧ Below w.heap.size w w' := by
  have HJ := hid (join_any (mk []) _ [bl s] _ (by rw [bl_mk]; decide) (pstrs_one w s) (by simp))
  rw [bl_mk] at HJ
  have HB := hid (below_walk w (.cells #[.string s] 9))
  have HSZ := hid (show w.heap.size ≤ (w.alloc (.cells #[.string s] 9)).heap.size by simp)
  go_enter Tryz.func70, Tryz.ntmps70
  go_wp2_with (go_at_call 69; refine HJ.out.mono ?_; rintro e w2 ⟨rfl, hb2⟩)
  go_ret2
  exact ⟨rfl, below_tr HB.out (below_le hb2 HSZ.out)⟩

theorem check_is (s : ByteArray) (x : Int) (h : chN (bl s) = x) (hs : (bl s).length ≤ 9223372036854775807) (w : World) :
    Calls Tryz.prog 39 #[.string s] w fun e w' => e = .returned (.int .i64 x) ∧ ∃ n, w' = w.drewN n := h ▸ check_any s w hs

theorem strs_two (w : World) (p q : ByteArray) : Strs (w.alloc (.cells #[.string p, .string q] 9)) (.slice (some ⟨w.heap.size, 0, none⟩) 2 2) [bl p, bl q] := by
  refine Or.inr ⟨w.heap.size, 0, 2, rfl, by simp, Nat.le_refl _, fun j hj => ?_⟩
  match j, hj with
  | 0, _ => simp [mk_bl]
  | 1, _ => simp [mk_bl]
theorem below_d {w w2 : World} {n : Nat} (h : Below (w.drewN n).heap.size (w.drewN n) w2) : Below w.heap.size w w2 := ⟨h.os, h.tape, h.output, h.size, h.block⟩
theorem pmk_add (l m : List UInt8) : mk l ++ mk m = mk (l ++ m) := by
  apply Go.WideShapes.bytes_inj
  simp [mk, ByteArray.data_append]
theorem pstr_add (l m : List UInt8) (h : l.length + m.length ≤ 9223372036854775807) (W : World) : (Op.stringOp .add (mk l) (mk m)).run Tryz.prog W = .ok (.string (mk (l ++ m))) W := by
  have hs : ¬ ((((mk l).size + (mk m).size : Nat) : Int) > IntKind.i64.max) := by
    rw [mk_size, mk_size, show IntKind.i64.max = 9223372036854775807 from rfl]
    omega
  simp only [Op.stringOp]
  rw [if_neg hs, pmk_add]
  rfl

end Go.Proofs.YtlpengaclkidiaaGreatDoor

/- The document's Name, Same, text; lists of one's own; Of of both sides. -/
namespace Go.Proofs.YtlpengaclkidiaaGreatDoor
open Go.RowKit

set_option maxRecDepth 100000 in
set_option maxHeartbeats 4000000 in
theorem prname_any (s : ByteArray) (w : World) :
    Calls Tryz.prog 73 #[.string s] w fun e w' => e = .returned (.bool (nmP (bl s))) ∧ w' = w := by
  have HAT := hid (bl_at s)
  have hsz := bl_size s
  obtain ⟨l, hl⟩ : ∃ l, bl s = l := ⟨_, rfl⟩
  have hl' : s.toList = l := hl
  rw [hl] at hsz HAT ⊢
  by_cases hok : 1 ≤ l.length ∧ l.length ≤ 64 ∧ l ≠ [46] ∧ l ≠ [46, 46]
  · have HOK := hid hok
    obtain ⟨o1, o2, o3, o4⟩ := hok
    have p1 : ¬ (l.length : Int) < 1 := by omega
    have p2 : ¬ (64 : Int) < (l.length : Int) := by omega
    have HL := hid hl
    have b3 : (l == [46]) = false := by simp [o3]
    have b4 : (l == [46, 46]) = false := by simp [o4]
    clear hl
    go_enter Tryz.func73, Tryz.ntmps73
    go_wp2
    go_loop [3] (fun i => ∃ k : Nat, i = .int .i64 k ∧ k ≤ l.length ∧ nbTo l k) (fun i => l.length - (intOf i).toNat)
    case atStart => exact ⟨0, rfl, by omega, fun j hj => by omega⟩
    case round =>
      obtain ⟨k, rfl, hk, hto⟩ := hrel
      have HTO := hid hto
      clear hto
      by_cases hlt : k < l.length
      · have q1 : (k : Int) < (l.length : Int) := by omega
        have i1 := HAT.out k hlt
        obtain ⟨C, HC⟩ : ∃ C : Int, Hid (((l.getD k 0).toNat : Int) = C) := ⟨_, rfl⟩
        rw [HC.out] at i1
        have fin : nbI C = false → nmN l = 42 := fun h => nmN_bad2 k hlt (by rw [HC.out]; exact h)
        have FB : Hid (nbI C = false → nmP l = false) := fun h => by
          have := fin h
          unfold nmN at this
          split at this
          · cases this
          · rename_i h2; simpa using h2
        have FG : Hid (nbI C = true → nbTo l (k + 1)) := fun h j hj => by
          by_cases hjk : j = k
          · subst hjk; rw [HC.out]; exact h
          · exact HTO.out j (by omega)
        clear fin
        go_wp2
        all_goals first
          | (go_ret
             refine ⟨ret_b ?_, rfl⟩
             rw [FB.out (by unfold nbI; simp at *; omega)])
          | (refine ⟨⟨k + 1, by simp, by omega, FG.out (by unfold nbI; simp at *; omega)⟩, by simp [intOf]; omega⟩)
      · have q1 : ¬ (k : Int) < (l.length : Int) := by omega
        obtain rfl : k = l.length := by omega
        have HP := hid (show nmP l = true by
          unfold nmP
          rw [decide_eq_true HOK.out, nbTo_all HTO.out]; rfl)
        go_wp2
        go_ret
        exact ⟨ret_b (by rw [HP.out]), rfl⟩
  · have HB := hid (show nmP l = false by unfold nmP; rw [decide_eq_false hok]; rfl)
    have HOK := hid hok
    clear hok hl
    go_enter Tryz.func73, Tryz.ntmps73
    go_wp2
    all_goals first
      | (go_ret; exact ⟨ret_b (by rw [HB.out]), rfl⟩)
      | (exfalso; refine HOK.out ?_; simp_all; done)
      | (exfalso; refine HOK.out ?_; simp_all; omega)

end Go.Proofs.YtlpengaclkidiaaGreatDoor

/- The document's Same and text; lists of one's own; Of of both sides. -/
namespace Go.Proofs.YtlpengaclkidiaaGreatDoor
open Go.RowKit

set_option maxRecDepth 100000 in
set_option maxHeartbeats 400000 in
theorem same_true (va vb : Value) (ts : List (List UInt8)) (w : World) (ha : Strs w va ts) (hb : Strs w vb ts) (hn : ts.length ≤ 9223372036854775806) :
    Calls Tryz.prog 12 #[va, vb] w fun e w' => e = .returned (.bool true) ∧ ∃ k, w' = w.drewN k := by
  rcases Nat.eq_zero_or_pos ts.length with hz | hpos
  · have : ts = [] := List.length_eq_zero_iff.1 hz
    subst this
    obtain ⟨a1, c1, rfl⟩ := ha.shape
    obtain ⟨a2, c2, rfl⟩ := hb.shape
    clear ha hb
    go_enter Tryz.func12, Tryz.ntmps12
    go_wp2
    go_loop [5] (fun i => i = .int .i64 0) (fun _ => 0)
    case atStart => rfl
    case round =>
      subst hrel
      go_wp2
      go_ret
      exact ⟨rfl, 0, rfl⟩
  · rcases ha with ⟨_, _, _, rfl, _⟩ | ⟨g1, o1, c1, rfl, _, _, hc1⟩
    · simp at hpos
    rcases hb with ⟨_, _, _, rfl, _⟩ | ⟨g2, o2, c2, rfl, _, _, hc2⟩
    · simp at hpos
    have H1 := hid hc1
    have H2 := hid hc2
    clear hc1 hc2
    go_enter Tryz.func12, Tryz.ntmps12
    go_wp2
    go_loopw [5] (fun i wr => ∃ k q : Nat, k ≤ ts.length ∧ i = .int .i64 k ∧ wr = w.drewN q) (fun i _ => ts.length - (intOf i).toNat)
    case atStart => exact ⟨0, 0, by omega, rfl, rfl⟩
    case round =>
      obtain ⟨k, q, hk, rfl, rfl⟩ := hrel
      by_cases hkn : k < ts.length
      · have e1 := H1.out k hkn
        have e2 := H2.out k hkn
        generalize mk (ts.getD k []) = s at *
        have hki : (k : Int) < (ts.length : Int) := by omega
        have hd : decide ((k : Int) < (ts.length : Int)) = true := by simpa using hki
        go_wp2_with fail
        go_quiet (fail)
        go_wp2_with fail
        go_roundw
        case rel => exact ⟨k + 1, q + nq, by omega, by go_num, rfl⟩
        case measure => simp [intOf]; omega
      · go_wp2
        go_ret
        exact ⟨rfl, _, rfl⟩

theorem txt_snoc (ts : List (List UInt8)) (k : Nat) (hk : k < ts.length) (h0 : 0 < k) : txt (ts.take (k + 1)) = txt (ts.take k) ++ [47] ++ ts.getD k [] := by
  rw [List.take_succ_eq_append_getElem hk]
  have e : ts.getD k [] = ts[k] := by simp [List.getD_eq_getElem?_getD, hk]
  rw [e]
  cases ts with
  | nil => simp at hk
  | cons x r =>
    obtain ⟨j, rfl⟩ : ∃ j, k = j + 1 := ⟨k - 1, by omega⟩
    simp only [List.take_succ_cons, List.cons_append, txt, List.map_append, List.flatten_append, List.map_cons, List.map_nil, List.flatten_cons, List.flatten_nil, List.append_nil, List.getElem_cons_succ, List.append_assoc, List.nil_append]
theorem txt_first (ts : List (List UInt8)) (hk : 0 < ts.length) : txt (ts.take 1) = ts.getD 0 [] := by
  cases ts with
  | nil => simp at hk
  | cons x r => simp [txt]
theorem txt_take_le (ts : List (List UInt8)) (k : Nat) : (txt (ts.take k)).length ≤ (txt ts).length := by
  cases ts with
  | nil => simp
  | cons x r =>
    cases k with
    | zero => simp [txt]
    | succ k =>
      simp only [List.take_succ_cons, txt, List.length_append]
      have : ((r.take k).map ((47 : UInt8) :: ·)).flatten.length ≤ (r.map ((47 : UInt8) :: ·)).flatten.length := by
        conv => rhs; rw [← List.take_append_drop k r]
        rw [List.map_append, List.flatten_append, List.length_append]
        omega
      omega

set_option maxRecDepth 100000 in
set_option maxHeartbeats 1000000 in
theorem rtext_any (v : Value) (ts : List (List UInt8)) (w : World) (h : Strs w v ts) (hn : ts.length ≤ 9223372036854775806) (hb : (txt ts).length ≤ 9223372036854775806) :
    Calls Tryz.prog 47 #[v] w fun e w' => e = .returned (.string (mk (txt ts))) ∧ w' = w := by
  obtain ⟨ao, c, rfl⟩ := h.shape
  have HS := hid h
  clear h
  go_enter Tryz.func47, Tryz.ntmps47
  go_wp2
  go_loop [3, 4] (fun s i => ∃ k : Nat, k ≤ ts.length ∧ i = .int .i64 k ∧ s = .string (mk (txt (ts.take k)))) (fun _ i => ts.length - (intOf i).toNat)
  case atStart => exact ⟨0, by omega, rfl, rfl⟩
  case round =>
    obtain ⟨k, hk, rfl, rfl⟩ := hrel
    by_cases hlt : k < ts.length
    · have q1 : (k : Int) < (ts.length : Int) := by omega
      obtain ⟨g, o, rfl, hc⟩ := HS.out.at k hlt
      have hle := txt_take_le ts (k + 1)
      by_cases h0 : 0 < k
      · have q2 : (0 : Int) < (k : Int) := by omega
        have hsn := txt_snoc ts k hlt h0
        generalize ts.getD k [] = x at *
        rw [hsn] at hle
        have a1 : ∀ W, (Op.stringOp .add (mk (txt (ts.take k))) ⟨#[47]⟩).run Tryz.prog W = .ok (.string (mk (txt (ts.take k) ++ [47]))) W := pstr_add _ [47] (by simp at hle ⊢; omega)
        have a2 := pstr_add (txt (ts.take k) ++ [47]) x (by simp at hle ⊢; omega)
        have HSN := hid hsn
        clear hsn hle h0
        generalize txt (ts.take k) = T at *
        go_wp2
        exact ⟨⟨k + 1, by omega, by simp, by rw [HSN.out]; simp⟩, by simp [intOf]; omega⟩
      · obtain rfl : k = 0 := by omega
        rw [Nat.add_zero] at hc
        have hsn := txt_first ts hlt
        generalize ts.getD 0 [] = x at *
        rw [hsn] at hle
        have a2 := pstr_add (txt (ts.take 0)) x (by simp [txt]; omega)
        have HSN := hid hsn
        clear hsn hle h0
        have HT := hid (show txt (ts.take 0) ++ x = x by simp [txt])
        generalize txt (ts.take 0) = T at *
        go_wp2
        exact ⟨⟨1, by omega, by simp, by rw [HT.out, HSN.out]⟩, by simp [intOf]; omega⟩
    · have q1 : ¬ (k : Int) < (ts.length : Int) := by omega
      obtain rfl : k = ts.length := by omega
      have HT := hid (show ts.take ts.length = ts from List.take_length)
      rw [HT.out]
      go_wp2
      go_ret
      exact ⟨rfl, rfl⟩

end Go.Proofs.YtlpengaclkidiaaGreatDoor

/- The document's Pieces and Names. -/
namespace Go.Proofs.YtlpengaclkidiaaGreatDoor
open Go.RowKit

/-- how Pieces stands: up to k looked at, from f on not yet laid -/
def Pst (l : List UInt8) (k f : Nat) (ts : List (List UInt8)) : Prop :=
  (k ≤ l.length ∧ f ≤ k ∧ (47 : UInt8) ∉ (l.take k).drop f ∧ ts ++ pcs (l.drop f) = pcs l ∧ ts.length ≤ k) ∨ (k = l.length + 1 ∧ f = k ∧ ts = pcs l)

theorem pst_next {l : List UInt8} {k f : Nat} {ts : List (List UInt8)} (h : Pst l k f ts) (hk : k < l.length) (hc : l.getD k 0 ≠ 47) : Pst l (k + 1) f ts := by
  rcases h with ⟨h1, h2, h3, h4, h5⟩ | ⟨h1, _⟩
  · refine Or.inl ⟨by omega, by omega, ?_, h4, by omega⟩
    rw [List.take_succ_eq_append_getElem hk, List.drop_append_of_le_length (by simp; omega)]
    simp only [List.mem_append, List.mem_singleton, not_or]
    refine ⟨h3, fun e => hc ?_⟩
    simp [List.getD_eq_getElem?_getD, hk, ← e]
  · omega
theorem drop_parts {l : List UInt8} {k f : Nat} (hf : f ≤ k) (hk : k < l.length) : l.drop f = (l.take k).drop f ++ l.getD k 0 :: l.drop (k + 1) := by
  have e : l.getD k 0 :: l.drop (k + 1) = l.drop k := by
    rw [List.drop_eq_getElem_cons hk]
    simp [List.getD_eq_getElem?_getD, hk]
  rw [e]
  conv => lhs; rw [← List.take_append_drop k l]
  rw [List.drop_append_of_le_length (by simp; omega)]
theorem pst_slash {l : List UInt8} {k f : Nat} {ts : List (List UInt8)} (h : Pst l k f ts) (hk : k < l.length) (hc : l.getD k 0 = 47) : Pst l (k + 1) (k + 1) (ts ++ [(l.take k).drop f]) := by
  rcases h with ⟨h1, h2, h3, h4, h5⟩ | ⟨h1, _⟩
  · refine Or.inl ⟨by omega, by omega, by simp, ?_, by simp; omega⟩
    rw [← h4, drop_parts h2 hk, hc, pcs_append, pcs_whole h3, List.append_assoc]
  · omega
theorem pst_end {l : List UInt8} {f : Nat} {ts : List (List UInt8)} (h : Pst l l.length f ts) : Pst l (l.length + 1) (l.length + 1) (ts ++ [(l.take l.length).drop f]) := by
  rcases h with ⟨h1, h2, h3, h4, h5⟩ | ⟨h1, _⟩
  · refine Or.inr ⟨rfl, rfl, ?_⟩
    rw [List.take_length] at h3 ⊢
    rw [← h4, pcs_whole h3]
  · omega
theorem pst_le {l : List UInt8} {k f : Nat} {ts : List (List UInt8)} (h : Pst l k f ts) : ts.length ≤ l.length + 1 ∧ f ≤ k ∧ k ≤ l.length + 1 := by
  rcases h with ⟨h1, h2, h3, h4, h5⟩ | ⟨h1, h2, h3⟩
  · omega
  · rw [h3]; have := pcs_len l; omega

set_option maxRecDepth 100000 in
set_option maxHeartbeats 1000000 in
theorem rpieces_any (s : ByteArray) (w : World) (hs : (bl s).length ≤ 1099511627776) :
    Calls Tryz.prog 49 #[.string s] w fun e w' => ∃ v, e = .returned v ∧ OwnS w' w.heap.size v (pcs (bl s)) ∧ Below w.heap.size w w' := by
  have HAT := hid (bl_at s)
  have HEX := hid (ext_bl s)
  have hsz := bl_size s
  obtain ⟨l, hl⟩ : ∃ l, bl s = l := ⟨_, rfl⟩
  rw [hl] at hsz HAT HEX hs ⊢
  clear hl
  go_enter Tryz.func49, Tryz.ntmps49
  go_wp2
  go_loopw [3, 4, 5] (fun x f i wr => ∃ (k F : Nat) (ts : List (List UInt8)), k ≤ l.length + 1 ∧ i = .int .i64 k ∧ f = .int .i64 F ∧ OwnS wr w.heap.size x ts ∧ Pst l k F ts ∧ Below w.heap.size w wr) (fun _ _ i _ => l.length + 1 - (intOf i).toNat)
  case atStart => exact ⟨0, 0, [], by omega, rfl, rfl, OwnS.nil _ _, Or.inl ⟨by omega, by omega, by simp, by simp, by simp⟩, Below.refl _ _⟩
  case round =>
    obtain ⟨k, F, ts, hk, rfl, rfl, ho, hp, hb⟩ := hrel
    have HO := hid ho
    have HP := hid hp
    have HB := hid hb
    obtain ⟨hts, hF, _⟩ := pst_le hp
    have hbs := hb.size
    obtain ⟨ax, cx, rfl⟩ := ho.strs.shape
    clear ho hp hb
    by_cases hlt : k ≤ l.length
    · have q1 : (k : Int) ≤ (l.length : Int) := by omega
      have HSL := hid (HEX.out F k)
      by_cases he : k = l.length
      · subst he
        have c2 : (F : Int) ≤ (l.length : Int) := by omega
        have c1 : (0 : Int) ≤ (F : Int) := by omega
        go_wp2_with (at_builtin; refine app_text rfl _ _ rfl w.heap.size _ _ rfl (HO.out.alloc _) _ _ rfl (pstrs_one _ _) ?c1 ?c2 ?_)
        case c1 => simp; omega
        case c2 => simp; omega
        intro v3 w3 ho3 hg3 hp3
        rw [HSL.out, bl_mk] at ho3
        obtain ⟨ao3, c3, rfl⟩ := ho3.strs.shape
        have HO3 := hid ho3
        have HB3 := hid (below_tr HB.out (below_tr (below_le (below_walk wr _) hbs) (own_below (HO.out.alloc _) (by simp; omega) hg3)))
        clear ho3 hg3 hp3
        go_wp2
        refine ⟨⟨l.length + 1, l.length + 1, ts ++ [(l.take l.length).drop F], by omega, by simp, by simp, ?_, pst_end HP.out, HB3.out⟩, by simp [intOf]⟩
        exact HO3.out
      · have hk2 : k < l.length := by omega
        have q2 : ((k : Int) == (l.length : Int)) = false := by simp; omega
        have q2' : ¬ (k : Int) = (l.length : Int) := by omega
        have i1 := HAT.out k hk2
        obtain ⟨C, HC⟩ : ∃ C : UInt8, Hid (l.getD k 0 = C) := ⟨_, rfl⟩
        rw [HC.out] at i1
        by_cases h47 : C = 47
        · subst h47
          have i2 : ((47 : UInt8).toNat : Int) = 47 := rfl
          rw [i2] at i1
          have c2 : (F : Int) ≤ (k : Int) := by omega
          have c1 : (0 : Int) ≤ (F : Int) := by omega
          have c3 : (k : Int) ≤ (l.length : Int) := by omega
          go_wp2_with (at_builtin; refine app_text rfl _ _ rfl w.heap.size _ _ rfl (HO.out.alloc _) _ _ rfl (pstrs_one _ _) ?d1 ?d2 ?_)
          case d1 => simp; omega
          case d2 => simp; omega
          intro v3 w3 ho3 hg3 hp3
          rw [HSL.out, bl_mk] at ho3
          obtain ⟨ao3, c3', rfl⟩ := ho3.strs.shape
          have HO3 := hid ho3
          have HB3 := hid (below_tr HB.out (below_tr (below_le (below_walk wr _) hbs) (own_below (HO.out.alloc _) (by simp; omega) hg3)))
          clear ho3 hg3 hp3
          go_wp2
          refine ⟨⟨k + 1, k + 1, ts ++ [(l.take k).drop F], by omega, by simp, by simp, ?_, pst_slash HP.out hk2 HC.out, HB3.out⟩, by simp [intOf]; omega⟩
          exact HO3.out
        · have i2 : ¬ (C.toNat : Int) = 47 := fun e => h47 (UInt8.toNat_inj.1 (by rw [show (47 : UInt8).toNat = 47 from rfl]; omega))
          have i3 : ((C.toNat : Int) == 47) = false := by simp; omega
          have HN := hid (pst_next HP.out hk2 (by rw [HC.out]; exact h47))
          clear h47
          go_wp2
          exact ⟨⟨k + 1, F, ts, by omega, by simp, rfl, HO.out, HN.out, HB.out⟩, by simp [intOf]; omega⟩
    · have q1 : ¬ (k : Int) ≤ (l.length : Int) := by omega
      have HR := hid (show ts = pcs l by rcases HP.out with ⟨h1, _⟩ | ⟨_, _, h⟩; omega; exact h)
      go_wp2
      go_ret
      exact ⟨_, rfl, by rw [← HR.out]; exact HO.out, HB.out⟩

/-- some of them is no name, or there are too many -/
theorem okP_no {l : List UInt8} {k : Nat} (h0 : l ≠ []) (hk : k < (pcs l).length) (hn : nmP ((pcs l).getD k []) = false) : okP l = false := by
  rw [okP_pcs h0]
  have : (pcs l).all nmP = false := by
    rw [Bool.eq_false_iff]
    intro e
    have := List.all_eq_true.1 e ((pcs l)[k]) (List.getElem_mem hk)
    simp [List.getD_eq_getElem?_getD, hk] at hn
    rw [hn] at this
    cases this
  rw [this]; rfl
/-- how far they are names -/
def nmTo (ts : List (List UInt8)) (k : Nat) : Prop := ∀ j, j < k → nmP (ts.getD j []) = true
theorem nmTo_all {ts : List (List UInt8)} (h : nmTo ts ts.length) : ∀ p ∈ ts, nmP p = true := by
  intro p hp
  obtain ⟨j, hj, rfl⟩ := List.mem_iff_getElem.1 hp
  have := h j hj
  simpa [List.getD_eq_getElem?_getD, hj] using this
theorem nmTo_next {ts : List (List UInt8)} {k : Nat} (h : nmTo ts k) (hn : nmP (ts.getD k []) = true) : nmTo ts (k + 1) := by
  intro j hj
  by_cases hjk : j = k
  · subst hjk; exact hn
  · exact h j (by omega)
theorem rname_is (s : ByteArray) (b : Bool) (h : nmP (bl s) = b) (w : World) :
    Calls Tryz.prog 73 #[.string s] w fun e w' => e = .returned (.bool b) ∧ w' = w := h ▸ prname_any s w

/-- what the document's Names says -/
def RNames (l : List UInt8) (w : World) (e : Ending) (w' : World) : Prop :=
  (okP l = true ∧ (∃ v, e = .returned (.tuple #[v, .bool true]) ∧ OwnS w' w.heap.size v (nms l)) ∨ okP l = false ∧ e = .returned (.tuple #[.slice none 0 0, .bool false])) ∧ Below w.heap.size w w'

set_option maxRecDepth 100000 in
set_option maxHeartbeats 1000000 in
theorem rnames_any (s : ByteArray) (w : World) (hs : (bl s).length ≤ 1099511627776) :
    Calls Tryz.prog 46 #[.string s] w fun e w' => RNames (bl s) w e w' := by
  by_cases h0 : bl s = []
  · have hl' : s.toList = [] := h0
    have HN : Hid (RNames (bl s) w (.returned (.tuple #[.slice none 0 0, .bool true])) w) := by
      rw [h0]; exact ⟨Or.inl ⟨rfl, _, rfl, OwnS.nil _ _⟩, Below.refl _ _⟩
    clear h0 hs
    go_enter Tryz.func46, Tryz.ntmps46
    go_wp2
    go_ret2
    exact HN.out
  · have hl' : s.toList.isEmpty = false := by simp; exact h0
    have HN := hid (show nms (bl s) = pcs (bl s) by unfold nms; rw [if_neg h0])
    have HPI := hid (rpieces_any s w hs)
    have hpl := pcs_len (bl s)
    have H0 := hid h0
    generalize bl s = l at *
    clear h0
    go_enter Tryz.func46, Tryz.ntmps46
    go_wp2_with fail
    refine HPI.out.mono ?_
    rintro e w1 ⟨v, rfl, ho, hb⟩
    obtain ⟨ax, cx, rfl⟩ := ho.strs.shape
    have HO := hid ho
    have HB := hid hb
    clear ho hb HPI
    go_wp2
    go_loop [5] (fun i => ∃ k : Nat, k ≤ (pcs l).length ∧ i = .int .i64 k ∧ nmTo (pcs l) k) (fun i => (pcs l).length - (intOf i).toNat)
    case atStart => exact ⟨0, by omega, rfl, fun j hj => by omega⟩
    case round =>
      obtain ⟨k, hk, rfl, hto⟩ := hrel
      have HTO := hid hto
      clear hto
      by_cases hlt : k < (pcs l).length
      · have q1 : (k : Int) < ((pcs l).length : Int) := by omega
        obtain ⟨g, o, rfl, hc⟩ := HO.out.strs.at k hlt
        cases hnm : nmP ((pcs l).getD k []) with
        | true =>
          have HNA := hid (rname_is (mk ((pcs l).getD k [])) true (by rw [bl_mk]; exact hnm))
          have HX := hid (nmTo_next HTO.out hnm)
          clear hnm
          generalize mk ((pcs l).getD k []) = x at *
          go_wp2_with (go_at_call 73; refine (HNA.out _).mono ?_; rintro e w' ⟨rfl, hw⟩; subst w')
          exact ⟨⟨k + 1, by omega, by simp, HX.out⟩, by simp [intOf]; omega⟩
        | false =>
          have HNA := hid (rname_is (mk ((pcs l).getD k [])) false (by rw [bl_mk]; exact hnm))
          have HX := hid (okP_no H0.out hlt hnm)
          clear hnm
          generalize mk ((pcs l).getD k []) = x at *
          go_wp2_with (go_at_call 73; refine (HNA.out _).mono ?_; rintro e w' ⟨rfl, hw⟩; subst w')
          go_ret2
          exact ⟨Or.inr ⟨HX.out, rfl⟩, HB.out⟩
      · have q1 : ¬ (k : Int) < ((pcs l).length : Int) := by omega
        obtain rfl : k = (pcs l).length := by omega
        have HA := hid (List.all_eq_true.2 (nmTo_all HTO.out))
        by_cases h32 : 32 < (pcs l).length
        · have q2 : (32 : Int) < ((pcs l).length : Int) := by omega
          have HE := hid (show okP l = false by rw [okP_pcs H0.out, HA.out, decide_eq_false (by omega)]; rfl)
          clear h32
          go_wp2
          go_ret2
          exact ⟨Or.inr ⟨HE.out, rfl⟩, HB.out⟩
        · have q2 : ¬ (32 : Int) < ((pcs l).length : Int) := by omega
          have HE := hid (show okP l = true by rw [okP_pcs H0.out, HA.out, decide_eq_true (by omega)]; rfl)
          clear h32
          go_wp2
          go_ret2
          exact ⟨Or.inl ⟨HE.out, _, rfl, by rw [HN.out]; exact HO.out⟩, HB.out⟩

end Go.Proofs.YtlpengaclkidiaaGreatDoor

/- The document's Path. -/
namespace Go.Proofs.YtlpengaclkidiaaGreatDoor
open Go.RowKit

set_option maxHeartbeats 1000000 in
theorem rpath_any (s : ByteArray) (w : World) (hs : (bl s).length ≤ 1099511627776) :
    Calls Tryz.prog 48 #[.string s] w fun e w' => e = .returned (.bool (okP (bl s))) ∧ Below w.heap.size w w' := by
  have HN := hid (rnames_any s w hs)
  clear hs
  go_enter Tryz.func48, Tryz.ntmps48
  go_wp2_with fail
  refine HN.out.mono ?_
  rintro e w1 ⟨⟨hok, v1, rfl, ho⟩ | ⟨hok, rfl⟩, hb⟩
  · have HOK := hid hok
    have HB := hid hb
    obtain ⟨a1, c1, rfl⟩ := ho.strs.shape
    clear hok hb ho
    go_wp2
    go_ret
    exact ⟨ret_b (by rw [HOK.out]), HB.out⟩
  · have HOK := hid hok
    have HB := hid hb
    clear hok hb
    go_wp2
    go_ret
    exact ⟨ret_b (by rw [HOK.out]), HB.out⟩

end Go.Proofs.YtlpengaclkidiaaGreatDoor

/- The document's walk by a written path, and its Join. -/
namespace Go.Proofs.YtlpengaclkidiaaGreatDoor
open Go.RowKit

/-- what the document's walk says -/
def GonePost (R : Except Int (List (List UInt8))) (w : World) (e : Ending) (w' : World) : Prop :=
  (∃ m v', R = .ok m ∧ e = .returned (.tuple #[v', .int .i64 0]) ∧ Strs w' v' m ∧ Below w.heap.size w w') ∨ (∃ x, R = .error x ∧ e = .returned (.tuple #[.slice none 0 0, .int .i64 x]) ∧ Below w.heap.size w w')

/-- how the walk stands ahead of a round -/
structure Gst (w : World) (g : Nat) (vp : Value) (P : List (List UInt8)) (R : Except Int (List (List UInt8))) (n k : Nat) (x : Value) (m : List (List UInt8)) (wr : World) : Prop where
  own : OwnS wr w.heap.size x m
  pcs : OwnS wr w.heap.size vp P
  ne : x.ownBlock ≠ some g
  st : stepsP m (P.drop k) = R
  len : m.length ≤ n + k
  bel : Below w.heap.size w wr
theorem Gst.step {w : World} {g : Nat} {vp : Value} {P : List (List UInt8)} {R : Except Int (List (List UInt8))} {n k : Nat} {x : Value} {m : List (List UInt8)} {wr : World} (h : Gst w g vp P R n k x m wr) (hvp : vp.ownBlock = some g)
    {w2 : World} {v2 : Value} {m2 : List (List UInt8)} (hk : k < P.length) (hR : stepP m (P.getD k []) = .ok m2) (ho : OwnS w2 w.heap.size v2 m2) (hg : wr.grownBy w2 x.ownBlock) (hp : v2.ownBlock = x.ownBlock ∨ ∃ j, v2.ownBlock = some j ∧ wr.heap.size ≤ j) :
    Gst w g vp P R n (k + 1) v2 m2 w2 := by
  refine ⟨ho, h.pcs.kept hg (Or.inr (fun e => h.ne (by rw [← e, hvp]))), ?_, ?_, ?_, below_tr h.bel (own_below h.own h.bel.size hg)⟩
  · intro e
    rcases hp with h1 | ⟨j, h1, hj⟩
    · exact h.ne (h1 ▸ e)
    · rw [h1] at e
      have e2 := Option.some.inj e
      have := (h.pcs.lt g hvp).2
      omega
  · rw [← h.st, drop_cons hk, stepsP, hR]
  · have := stepP_len hR; have := h.len; omega
theorem Gst.err {w : World} {g : Nat} {vp : Value} {P : List (List UInt8)} {R : Except Int (List (List UInt8))} {n k : Nat} {x : Value} {m : List (List UInt8)} {wr : World} (h : Gst w g vp P R n k x m wr) (hk : k < P.length) {e : Int} (hR : stepP m (P.getD k []) = .error e) : R = .error e := by
  rw [← h.st, drop_cons hk, stepsP, hR]

theorem stepP_skip {l : List (List UInt8)} {p : List UInt8} (h : p = [] ∨ p = [46]) : stepP l p = .ok l := by unfold stepP; rw [if_pos h]
theorem stepP_up {l : List (List UInt8)} (h : l ≠ []) : stepP l [46, 46] = .ok l.dropLast := by
  unfold stepP; rw [if_neg (by simp), if_pos rfl, if_neg h]
theorem stepP_out : stepP [] [46, 46] = .error 43 := by unfold stepP; rw [if_neg (by simp), if_pos rfl, if_pos rfl]
theorem stepP_name {l : List (List UInt8)} {p : List UInt8} (h : nmP p = true) : stepP l p = .ok (l ++ [p]) := by
  obtain ⟨h1, h2, h3⟩ := nmP_ne h
  unfold stepP; rw [if_neg (by simp [h1, h2]), if_neg h3, if_pos h]
theorem stepP_bad {l : List (List UInt8)} {p : List UInt8} (h1 : ¬ (p = [] ∨ p = [46])) (h2 : p ≠ [46, 46]) (h : nmP p = false) : stepP l p = .error 42 := by
  unfold stepP; rw [if_neg h1, if_neg h2, if_neg (by rw [h]; decide)]

set_option maxRecDepth 100000 in
set_option maxHeartbeats 2000000 in
theorem gone_any (v : Value) (ts : List (List UInt8)) (s : ByteArray) (w : World) (h : Strs w v ts) (hl : ts.length ≤ 1099511600000) :
    Calls Tryz.prog 74 #[v, .string s] w fun e w' => GonePost (walkP ts (bl s)) w e w' := by
  have HS := hid h
  clear h
  have hsz := bl_size s
  have HPI := hid (rpieces_any s)
  have HAT := hid (bl_at s 0)
  obtain ⟨l, hbl⟩ : ∃ l, bl s = l := ⟨_, rfl⟩
  rw [hbl] at hsz HPI HAT ⊢
  clear hbl
  unfold walkP
  obtain ⟨ao, c, rfl⟩ := HS.out.shape
  by_cases h4 : 4096 < l.length
  · rw [if_pos h4]
    have q1 : (4096 : Int) < (l.length : Int) := by omega
    clear h4
    go_enter Tryz.func74, Tryz.ntmps74
    go_wp2
    go_ret2
    exact Or.inr ⟨_, rfl, rfl, Below.refl _ _⟩
  · rw [if_neg h4]
    have q1 : ¬ (4096 : Int) < (l.length : Int) := by omega
    by_cases h47 : l.head? = some 47
    · rw [if_pos h47]
      obtain ⟨r, rfl⟩ : ∃ r, l = 47 :: r := by
        cases l with
        | nil => simp at h47
        | cons c r => simp at h47; subst h47; exact ⟨r, rfl⟩
      have q2 : (0 : Int) < (((47 : UInt8) :: r).length : Int) := by simp
      have i1 : ∀ W, (Instr.index 9 (.string s) (.int .i64 0)).run Tryz.prog W = .ok (.int .u8 (((((47 : UInt8) :: r).getD 0 0).toNat : Nat) : Int)) W := HAT.out (by simp)
      clear HAT HPI
      rw [show ((47 : UInt8) :: r).getD 0 0 = 47 from rfl, show ((47 : UInt8).toNat : Int) = 47 from rfl] at i1
      generalize ((47 : UInt8) :: r).length = n at *
      clear h47 h4
      go_enter Tryz.func74, Tryz.ntmps74
      go_wp2
      go_ret2
      exact Or.inr ⟨_, rfl, rfl, Below.refl _ _⟩
    · rw [if_neg h47]
      have HC : Hid (¬ 0 < l.length ∨ 0 < l.length ∧ ∃ C : UInt8, C ≠ 47 ∧ ∀ W, (Instr.index 9 (.string s) (.int .i64 0)).run Tryz.prog W = .ok (.int .u8 (C.toNat : Int)) W) := by
        cases l with
        | nil => exact Or.inl (by simp)
        | cons c r => exact Or.inr ⟨by simp, c, by simpa using h47, HAT.out (by simp)⟩
      obtain ⟨P, HP⟩ : ∃ P, Hid (pcs l = P) := ⟨_, rfl⟩
      have hpl := pcs_len l
      have HNE := hid (pcs_ne l)
      rw [HP.out] at HPI hpl HNE ⊢
      have HPJ := hid (fun W => HPI.out W (by omega))
      clear h47 h4 HPI HAT
      go_enter Tryz.func74, Tryz.ntmps74
      rcases HC.out with h0 | ⟨h0, C, hC, i1⟩
      · have q2 : ¬ (0 : Int) < (l.length : Int) := by omega
        go_wp2_with (at_builtin; refine app_text rfl _ _ rfl w.heap.size _ _ rfl (OwnS.nil _ _) _ _ rfl HS.out ?c1a (Nat.le_refl _) ?_)
        case c1a => first | omega | (simp; omega)
        intro v1 w1 ho1' hg1 hp1
        have ho1 : OwnS w1 w.heap.size v1 ts := ho1'
        clear ho1'
        obtain ⟨a1, c1, rfl⟩ := ho1.strs.shape
        have HO1 := hid ho1
        have HB1 := hid (gb_below hg1 : Below w.heap.size w w1)
        have hs1 := hg1.size
        clear ho1 hg1 hp1 HS
        go_wp2_with fail
        refine (HPJ.out w1).mono ?_
        rintro e w2 ⟨vp, rfl, hp2, hb2⟩
        rcases hp2.forms with ⟨_, e⟩ | ⟨gp, cp, rfl, hgp, hgl, _, _, _, _⟩
        · exact absurd e HNE.out
        have HG0 : Hid (Gst w gp (.slice (some ⟨gp, 0, none⟩) P.length cp) P (stepsP ts P) ts.length 0 (.slice a1 ts.length c1) ts w2) :=
          ⟨HO1.out.below hb2, hp2.le hs1, fun e => by have := (HO1.out.lt _ e).2; omega, by rw [List.drop_zero], by omega, below_tr HB1.out (below_le hb2 hs1)⟩
        clear hp2 hb2 hgl HPJ HO1 HB1
        go_wp2
        go_loopw [6, 8] (fun x i wr => ∃ (k : Nat) (m : List (List UInt8)), k ≤ P.length ∧ i = .int .i64 k ∧ Gst w gp (.slice (some ⟨gp, 0, none⟩) P.length cp) P (stepsP ts P) ts.length k x m wr) (fun _ i _ => P.length - (intOf i).toNat)
        case atStart => exact ⟨0, ts, by omega, rfl, HG0.out⟩
        case round =>
          obtain ⟨k, m, hk, rfl, hst⟩ := hrel
          have HG := hid hst
          have hml := hst.len
          have hbs := hst.bel.size
          obtain ⟨ax, cx, rfl⟩ := hst.own.strs.shape
          clear hst HG0
          by_cases hlt : k < P.length
          · have q3 : (k : Int) < (P.length : Int) := by omega
            obtain ⟨g3, o3, e3, hc⟩ := HG.out.pcs.strs.at k hlt
            injection e3 with e3
            injection e3 with e4 e5
            subst e4 e5
            rw [Nat.zero_add] at hc
            have HST : Hid (∀ (w2 : World) (v2 : Value) (m2 : List (List UInt8)), stepP m (P.getD k []) = .ok m2 → OwnS w2 w.heap.size v2 m2 → wr.grownBy w2 (Value.slice ax m.length cx).ownBlock → (v2.ownBlock = (Value.slice ax m.length cx).ownBlock ∨ ∃ j, v2.ownBlock = some j ∧ wr.heap.size ≤ j) → Gst w gp (.slice (some ⟨gp, 0, none⟩) P.length cp) P (stepsP ts P) ts.length (k + 1) v2 m2 w2) := fun w2 v2 m2 h1 h2 h3 h4 => HG.out.step rfl hlt h1 h2 h3 h4
            have HER := hid (fun e h => HG.out.err (e := e) hlt h)
            obtain ⟨pc, HPK⟩ : ∃ pc, Hid (P.getD k [] = pc) := ⟨_, rfl⟩
            rw [HPK.out] at hc HST HER
            have e0 : (mk pc).toList = pc := bl_mk pc
            by_cases hA : pc = [] ∨ pc = [46]
            · have HN := hid (HST.out _ _ _ (stepP_skip hA) HG.out.own (gb_refl _ _) (Or.inl rfl))
              rcases hA with rfl | rfl
              · go_wp2
                exact ⟨⟨k + 1, m, by omega, by simp, HN.out⟩, by simp [intOf]; omega⟩
              · go_wp2
                exact ⟨⟨k + 1, m, by omega, by simp, HN.out⟩, by simp [intOf]; omega⟩
            · have n1 : pc.isEmpty = false := by
                have : pc ≠ [] := fun e => hA (Or.inl e)
                simpa using this
              have n1' : ¬ pc = [] := fun e => hA (Or.inl e)
              have n2 : (pc == [46]) = false := by
                have : pc ≠ [46] := fun e => hA (Or.inr e)
                simpa using this
              have n2' : ¬ pc = [46] := fun e => hA (Or.inr e)
              have HA := hid hA
              clear hA
              by_cases hB : pc = [46, 46]
              · subst hB
                by_cases hm : m = []
                · subst hm
                  have HE := hid (HER.out _ stepP_out)
                  go_wp2
                  go_ret2
                  exact Or.inr ⟨_, HE.out, rfl, HG.out.bel⟩
                · rcases HG.out.own.forms with ⟨_, e⟩ | ⟨go', cap, hv, _, _, hcap, hmax, _, _⟩
                  · exact absurd e hm
                  · injection hv with e6 e7 e8
                    subst e6 e8
                    have hpos : 0 < m.length := List.length_pos_iff.2 hm
                    have p0 : ¬ (m.length : Int) = 0 := by omega
                    have p0' : ((m.length : Int) == 0) = false := by simp; exact hm
                    have HT := hid (show OwnS wr w.heap.size (.slice (some ⟨go', 0, none⟩) (m.length - 1) cx) m.dropLast by rw [List.dropLast_eq_take]; exact HG.out.own.take _ (by omega))
                    have HN := hid (HST.out _ _ _ (stepP_up hm) HT.out (gb_refl _ _) (Or.inl rfl))
                    obtain ⟨I, HI⟩ : ∃ I : Nat, Hid (I = m.length - 1) := ⟨_, rfl⟩
                    have j1 : IntKind.i64.wrap ((m.length : Int) - 1) = (I : Int) := by rw [IntKind.wrap_i64, HI.out]; omega
                    rw [← HI.out] at HT HN
                    have hsl := sl_to ⟨go', 0, none⟩ m.length cx I (by rw [HI.out]; omega)
                    go_wp2
                    exact ⟨⟨k + 1, m.dropLast, by omega, by simp, HN.out⟩, by simp [intOf]; omega⟩
              · have n3 : (pc == [46, 46]) = false := by simpa using hB
                have n3' : ¬ pc = [46, 46] := hB
                cases hn : nmP pc with
                | true =>
                  have HNA := hid (rname_is (mk pc) true (by rw [bl_mk]; exact hn))
                  have HSN := hid (stepP_name (l := m) hn)
                  clear hn
                  go_wp2_with (first | (go_at_call 73; refine (HNA.out _).mono ?_; rintro e w' ⟨rfl, hw⟩; subst w') | (at_builtin; refine app_text rfl _ _ rfl w.heap.size _ _ rfl (HG.out.own.alloc _) _ _ rfl (pstrs_one _ (mk pc)) ?d1a ?d2a ?_))
                  case d1a => simp; omega
                  case d2a => simp; omega
                  intro v3 w3 ho3 hg3 hp3
                  rw [bl_mk] at ho3
                  obtain ⟨a3, c3, rfl⟩ := ho3.strs.shape
                  have HN := hid (HST.out _ _ _ HSN.out ho3 (gb_trans (gb_alloc _ _ _) hg3) (hp3.elim Or.inl (fun e => Or.inr ⟨_, e, by simp⟩)))
                  clear ho3 hg3 hp3
                  go_wp2
                  exact ⟨⟨k + 1, m ++ [pc], by omega, by simp, HN.out⟩, by simp [intOf]; omega⟩
                | false =>
                  have HNA := hid (rname_is (mk pc) false (by rw [bl_mk]; exact hn))
                  have HE := hid (HER.out _ (stepP_bad HA.out hB hn))
                  clear hn
                  go_wp2_with (go_at_call 73; refine (HNA.out _).mono ?_; rintro e w' ⟨rfl, hw⟩; subst w')
                  go_ret2
                  exact Or.inr ⟨_, HE.out, rfl, HG.out.bel⟩
          · have q3 : ¬ (k : Int) < (P.length : Int) := by omega
            obtain rfl : k = P.length := by omega
            have HR := hid (show stepsP ts P = .ok m by have := HG.out.st; rw [List.drop_length, stepsP] at this; exact this.symm)
            go_wp2
            go_ret2
            exact Or.inl ⟨m, _, HR.out, rfl, HG.out.own.strs, HG.out.bel⟩
      · have q2 : (0 : Int) < (l.length : Int) := by omega
        have i2 : ¬ (C.toNat : Int) = 47 := fun e => hC (UInt8.toNat_inj.1 (by rw [show (47 : UInt8).toNat = 47 from rfl]; omega))
        have i3 : ((C.toNat : Int) == 47) = false := by simp; omega
        go_wp2_with (at_builtin; refine app_text rfl _ _ rfl w.heap.size _ _ rfl (OwnS.nil _ _) _ _ rfl HS.out ?c1b (Nat.le_refl _) ?_)
        case c1b => first | omega | (simp; omega)
        intro v1 w1 ho1' hg1 hp1
        have ho1 : OwnS w1 w.heap.size v1 ts := ho1'
        clear ho1'
        obtain ⟨a1, c1, rfl⟩ := ho1.strs.shape
        have HO1 := hid ho1
        have HB1 := hid (gb_below hg1 : Below w.heap.size w w1)
        have hs1 := hg1.size
        clear ho1 hg1 hp1 HS
        go_wp2_with fail
        refine (HPJ.out w1).mono ?_
        rintro e w2 ⟨vp, rfl, hp2, hb2⟩
        rcases hp2.forms with ⟨_, e⟩ | ⟨gp, cp, rfl, hgp, hgl, _, _, _, _⟩
        · exact absurd e HNE.out
        have HG0 : Hid (Gst w gp (.slice (some ⟨gp, 0, none⟩) P.length cp) P (stepsP ts P) ts.length 0 (.slice a1 ts.length c1) ts w2) :=
          ⟨HO1.out.below hb2, hp2.le hs1, fun e => by have := (HO1.out.lt _ e).2; omega, by rw [List.drop_zero], by omega, below_tr HB1.out (below_le hb2 hs1)⟩
        clear hp2 hb2 hgl HPJ HO1 HB1
        go_wp2
        go_loopw [6, 8] (fun x i wr => ∃ (k : Nat) (m : List (List UInt8)), k ≤ P.length ∧ i = .int .i64 k ∧ Gst w gp (.slice (some ⟨gp, 0, none⟩) P.length cp) P (stepsP ts P) ts.length k x m wr) (fun _ i _ => P.length - (intOf i).toNat)
        case atStart => exact ⟨0, ts, by omega, rfl, HG0.out⟩
        case round =>
          obtain ⟨k, m, hk, rfl, hst⟩ := hrel
          have HG := hid hst
          have hml := hst.len
          have hbs := hst.bel.size
          obtain ⟨ax, cx, rfl⟩ := hst.own.strs.shape
          clear hst HG0
          by_cases hlt : k < P.length
          · have q3 : (k : Int) < (P.length : Int) := by omega
            obtain ⟨g3, o3, e3, hc⟩ := HG.out.pcs.strs.at k hlt
            injection e3 with e3
            injection e3 with e4 e5
            subst e4 e5
            rw [Nat.zero_add] at hc
            have HST : Hid (∀ (w2 : World) (v2 : Value) (m2 : List (List UInt8)), stepP m (P.getD k []) = .ok m2 → OwnS w2 w.heap.size v2 m2 → wr.grownBy w2 (Value.slice ax m.length cx).ownBlock → (v2.ownBlock = (Value.slice ax m.length cx).ownBlock ∨ ∃ j, v2.ownBlock = some j ∧ wr.heap.size ≤ j) → Gst w gp (.slice (some ⟨gp, 0, none⟩) P.length cp) P (stepsP ts P) ts.length (k + 1) v2 m2 w2) := fun w2 v2 m2 h1 h2 h3 h4 => HG.out.step rfl hlt h1 h2 h3 h4
            have HER := hid (fun e h => HG.out.err (e := e) hlt h)
            obtain ⟨pc, HPK⟩ : ∃ pc, Hid (P.getD k [] = pc) := ⟨_, rfl⟩
            rw [HPK.out] at hc HST HER
            have e0 : (mk pc).toList = pc := bl_mk pc
            by_cases hA : pc = [] ∨ pc = [46]
            · have HN := hid (HST.out _ _ _ (stepP_skip hA) HG.out.own (gb_refl _ _) (Or.inl rfl))
              rcases hA with rfl | rfl
              · go_wp2
                exact ⟨⟨k + 1, m, by omega, by simp, HN.out⟩, by simp [intOf]; omega⟩
              · go_wp2
                exact ⟨⟨k + 1, m, by omega, by simp, HN.out⟩, by simp [intOf]; omega⟩
            · have n1 : pc.isEmpty = false := by
                have : pc ≠ [] := fun e => hA (Or.inl e)
                simpa using this
              have n1' : ¬ pc = [] := fun e => hA (Or.inl e)
              have n2 : (pc == [46]) = false := by
                have : pc ≠ [46] := fun e => hA (Or.inr e)
                simpa using this
              have n2' : ¬ pc = [46] := fun e => hA (Or.inr e)
              have HA := hid hA
              clear hA
              by_cases hB : pc = [46, 46]
              · subst hB
                by_cases hm : m = []
                · subst hm
                  have HE := hid (HER.out _ stepP_out)
                  go_wp2
                  go_ret2
                  exact Or.inr ⟨_, HE.out, rfl, HG.out.bel⟩
                · rcases HG.out.own.forms with ⟨_, e⟩ | ⟨go', cap, hv, _, _, hcap, hmax, _, _⟩
                  · exact absurd e hm
                  · injection hv with e6 e7 e8
                    subst e6 e8
                    have hpos : 0 < m.length := List.length_pos_iff.2 hm
                    have p0 : ¬ (m.length : Int) = 0 := by omega
                    have p0' : ((m.length : Int) == 0) = false := by simp; exact hm
                    have HT := hid (show OwnS wr w.heap.size (.slice (some ⟨go', 0, none⟩) (m.length - 1) cx) m.dropLast by rw [List.dropLast_eq_take]; exact HG.out.own.take _ (by omega))
                    have HN := hid (HST.out _ _ _ (stepP_up hm) HT.out (gb_refl _ _) (Or.inl rfl))
                    obtain ⟨I, HI⟩ : ∃ I : Nat, Hid (I = m.length - 1) := ⟨_, rfl⟩
                    have j1 : IntKind.i64.wrap ((m.length : Int) - 1) = (I : Int) := by rw [IntKind.wrap_i64, HI.out]; omega
                    rw [← HI.out] at HT HN
                    have hsl := sl_to ⟨go', 0, none⟩ m.length cx I (by rw [HI.out]; omega)
                    go_wp2
                    exact ⟨⟨k + 1, m.dropLast, by omega, by simp, HN.out⟩, by simp [intOf]; omega⟩
              · have n3 : (pc == [46, 46]) = false := by simpa using hB
                have n3' : ¬ pc = [46, 46] := hB
                cases hn : nmP pc with
                | true =>
                  have HNA := hid (rname_is (mk pc) true (by rw [bl_mk]; exact hn))
                  have HSN := hid (stepP_name (l := m) hn)
                  clear hn
                  go_wp2_with (first | (go_at_call 73; refine (HNA.out _).mono ?_; rintro e w' ⟨rfl, hw⟩; subst w') | (at_builtin; refine app_text rfl _ _ rfl w.heap.size _ _ rfl (HG.out.own.alloc _) _ _ rfl (pstrs_one _ (mk pc)) ?d1b ?d2b ?_))
                  case d1b => simp; omega
                  case d2b => simp; omega
                  intro v3 w3 ho3 hg3 hp3
                  rw [bl_mk] at ho3
                  obtain ⟨a3, c3, rfl⟩ := ho3.strs.shape
                  have HN := hid (HST.out _ _ _ HSN.out ho3 (gb_trans (gb_alloc _ _ _) hg3) (hp3.elim Or.inl (fun e => Or.inr ⟨_, e, by simp⟩)))
                  clear ho3 hg3 hp3
                  go_wp2
                  exact ⟨⟨k + 1, m ++ [pc], by omega, by simp, HN.out⟩, by simp [intOf]; omega⟩
                | false =>
                  have HNA := hid (rname_is (mk pc) false (by rw [bl_mk]; exact hn))
                  have HE := hid (HER.out _ (stepP_bad HA.out hB hn))
                  clear hn
                  go_wp2_with (go_at_call 73; refine (HNA.out _).mono ?_; rintro e w' ⟨rfl, hw⟩; subst w')
                  go_ret2
                  exact Or.inr ⟨_, HE.out, rfl, HG.out.bel⟩
          · have q3 : ¬ (k : Int) < (P.length : Int) := by omega
            obtain rfl : k = P.length := by omega
            have HR := hid (show stepsP ts P = .ok m by have := HG.out.st; rw [List.drop_length, stepsP] at this; exact this.symm)
            go_wp2
            go_ret2
            exact Or.inl ⟨m, _, HR.out, rfl, HG.out.own.strs, HG.out.bel⟩

end Go.Proofs.YtlpengaclkidiaaGreatDoor

/- The document's Join and Clean; PathJoins. -/
namespace Go.Proofs.YtlpengaclkidiaaGreatDoor
open Go.RowKit

set_option maxRecDepth 100000 in
set_option maxHeartbeats 1000000 in
theorem rjoin_any (s : ByteArray) (vm : Value) (more : List (List UInt8)) (w : World) (hs : (bl s).length ≤ 1099511627776) (hm : Strs w vm more) (hl : more.length ≤ 268000000) :
    Calls Tryz.prog 50 #[.string s, vm] w fun e w' => e = .returned (.tuple #[.string (mk (aS (joinP (bl s) more))), .int .i64 (aN (joinP (bl s) more))]) ∧ Below w.heap.size w w' := by
  have HM := hid hm
  have HNM := hid (rnames_any s w hs)
  clear hm hs
  obtain ⟨am, cm, rfl⟩ := HM.out.shape
  generalize bl s = b at *
  go_enter Tryz.func50, Tryz.ntmps50
  go_wp2_with fail
  refine HNM.out.mono ?_
  rintro e w1 ⟨⟨hok, v1, rfl, ho⟩ | ⟨hok, rfl⟩, hb⟩
  · have HPL := hid ((okP_iff _).1 hok)
    have HJ := hid (show joinP b more = finP (walksP (nms b) more) by unfold joinP; rw [hok, if_pos rfl])
    have HO := hid ho.strs
    have HB := hid hb
    obtain ⟨a1, c1, rfl⟩ := ho.strs.shape
    clear hb ho hok HNM
    go_wp2
    go_loopw [6, 8, 9] (fun x e i wr => ∃ (k : Nat) (m : List (List UInt8)), k ≤ more.length ∧ e = .int .i64 0 ∧ i = .int .i64 k ∧ Strs wr x m ∧ Below w.heap.size w wr ∧ Hid (walksP m (more.drop k) = walksP (nms b) more ∧ m.length ≤ 32 + 4097 * k ∧ (∀ p ∈ m, nmP p = true))) (fun _ _ i _ => more.length - (intOf i).toNat)
    case atStart => exact ⟨0, _, by omega, rfl, rfl, HO.out, HB.out, by rw [List.drop_zero]; exact ⟨rfl, by have := HPL.out.2; omega, HPL.out.1⟩⟩
    case round =>
      obtain ⟨k, m, hk, rfl, rfl, hx, hbr, HW⟩ := hrel
      have HX := hid hx
      have HBR := hid hbr
      have hle := hbr.size
      have hml := HW.out.2.1
      have HMR := hid (HM.out.below hbr)
      obtain ⟨ax, cx, rfl⟩ := hx.shape
      clear hx hbr HO HB
      by_cases hlt : k < more.length
      · have q1 : (k : Int) < (more.length : Int) := by omega
        obtain ⟨g, o, rfl, hc⟩ := HMR.out.at k hlt
        have HD := hid (drop_cons hlt)
        obtain ⟨pc, HPK⟩ : ∃ pc, Hid (more.getD k [] = pc) := ⟨_, rfl⟩
        rw [HPK.out] at hc HD
        have HWK := hid (gone_any _ m (mk pc) wr HX.out (by omega))
        rw [bl_mk] at HWK
        go_wp2_with fail
        refine HWK.out.mono ?_
        rintro e w2 (⟨m2, v2, hR, rfl, ho2, hb2⟩ | ⟨x, hR, rfl, hb2⟩)
        · have HB2 := hid (below_tr HBR.out (below_le hb2 hle))
          have HO2 := hid ho2
          have HW2 : Hid (walksP m2 (more.drop (k + 1)) = walksP (nms b) more ∧ m2.length ≤ 32 + 4097 * (k + 1) ∧ (∀ p ∈ m2, nmP p = true)) :=
            ⟨by rw [← HW.out.1, HD.out, walksP, hR], by have := walkP_len hR; omega, walkP_names hR HW.out.2.2⟩
          obtain ⟨a2, c2, rfl⟩ := ho2.shape
          clear hR ho2 hb2
          go_wp2
          exact ⟨⟨k + 1, m2, by omega, rfl, by simp, HO2.out, HB2.out, HW2⟩, by simp [intOf]; omega⟩
        · have HB2 := hid (below_tr HBR.out (below_le hb2 hle))
          have HR := hid (show joinP b more = .error x by rw [HJ.out, ← HW.out.1, HD.out, walksP, hR]; rfl)
          have hx := walkP_err hR
          have q2 : (x != 0) = true := by simp; omega
          have q3 : ¬ x = 0 := by omega
          clear hR hb2 hx
          go_wp2
          go_ret2
          exact ⟨ret_si (by rw [HR.out]; rfl) (by rw [HR.out]; rfl), HB2.out⟩
      · have q1 : ¬ (k : Int) < (more.length : Int) := by omega
        obtain rfl : k = more.length := by omega
        have HE := hid (show joinP b more = endP m by rw [HJ.out, ← HW.out.1, List.drop_length, walksP]; rfl)
        by_cases h32 : 32 < m.length
        · have q2 : (32 : Int) < (m.length : Int) := by omega
          have HR := hid (show joinP b more = .error 44 by rw [HE.out]; unfold endP; rw [if_pos h32])
          clear h32
          go_wp2
          go_ret2
          exact ⟨ret_si (by rw [HR.out]; rfl) (by rw [HR.out]; rfl), HBR.out⟩
        · have q2 : ¬ (32 : Int) < (m.length : Int) := by omega
          have HR := hid (show joinP b more = .ok (txt m) by rw [HE.out]; unfold endP; rw [if_neg h32])
          have hb := lens_pcs m HW.out.2.2
          have HT := hid (rtext_any _ m wr HX.out (by omega) (by omega))
          clear h32 hb
          go_wp2_with (go_at_call 47; refine HT.out.mono ?_; rintro e w2 ⟨rfl, hw⟩; subst w2)
          go_ret2
          exact ⟨ret_si (by rw [HR.out]; rfl) (by rw [HR.out]; rfl), HBR.out⟩
  · have HB := hid hb
    have HR := hid (show joinP b more = .error 45 by unfold joinP; rw [hok]; rfl)
    clear hb hok HNM
    go_wp2
    go_ret2
    exact ⟨ret_si (by rw [HR.out]; rfl) (by rw [HR.out]; rfl), HB.out⟩

set_option maxHeartbeats 1000000 in
theorem rclean_any (s : ByteArray) (w : World) :
    Calls Tryz.prog 51 #[.string s] w fun e w' => e = .returned (.tuple #[.string (mk (aS (joinP [] [bl s]))), .int .i64 (aN (joinP [] [bl s]))]) ∧ Below w.heap.size w w' := by
  have HJ := hid (rjoin_any (mk []) _ [bl s] _ (by rw [bl_mk]; decide) (pstrs_one w s) (by simp))
  rw [bl_mk] at HJ
  have HB := hid (below_walk w (.cells #[.string s] 9))
  have HSZ := hid (show w.heap.size ≤ (w.alloc (.cells #[.string s] 9)).heap.size by simp)
  go_enter Tryz.func51, Tryz.ntmps51
  go_wp2_with (go_at_call 50; refine HJ.out.mono ?_; rintro e w2 ⟨rfl, hb2⟩)
  go_ret2
  exact ⟨rfl, below_tr HB.out (below_le hb2 HSZ.out)⟩

end Go.Proofs.YtlpengaclkidiaaGreatDoor

/- PathNames: a text is a name or a path just when it is told to be. -/
namespace Go.Proofs.YtlpengaclkidiaaGreatDoor
open Go.RowKit

theorem Strs.drewN {w : World} {v : Value} {ts : List (List UInt8)} (h : Strs w v ts) (n : Nat) : Strs (w.drewN n) v ts := h
theorem below_drew {w w' w'' : World} {a n : Nat} (h : Below a w w') (k : Below (w'.drewN n).heap.size (w'.drewN n) w'') (ha : a ≤ w'.heap.size) : Below a w w'' :=
  ⟨k.os.trans h.os, k.tape.trans h.tape, k.output.trans h.output, Nat.le_trans h.size k.size, fun i hi => (k.block i (Nat.lt_of_lt_of_le hi ha)).trans (h.block i hi)⟩

/-- what both Names say -/
def BNames (l : List UInt8) (w : World) (e : Ending) (w' : World) : Prop :=
  (okP l = true ∧ (∃ v, e = .returned (.tuple #[v, .int .i64 0]) ∧ OwnS w' w.heap.size v (nms l)) ∨ okP l = false ∧ e = .returned (.tuple #[.slice none 0 0, .int .i64 45])) ∧ Below w.heap.size w w'
theorem pnames_any (s : ByteArray) (w : World) (hs : (bl s).length ≤ 9223372036854775807) :
    Calls Tryz.prog 96 #[.string s] w fun e w' => BNames (bl s) w e w' := by
  cases h : okP (bl s) with
  | true => exact (names_ok s w h).mono fun e w' ⟨v, he, ho, hb⟩ => ⟨Or.inl ⟨h, v, he, ho⟩, hb⟩
  | false => exact (names_bad s w h hs).mono fun e w' ⟨he, hb⟩ => ⟨Or.inr ⟨h, he⟩, hb⟩

end Go.Proofs.YtlpengaclkidiaaGreatDoor
