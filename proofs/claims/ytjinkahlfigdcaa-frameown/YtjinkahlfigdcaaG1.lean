/- Contracts and pure facts that the proof needs, joined. -/
import Derived.Shelf.LaysM
import Derived.Shelf.Strconv.Clone
import Derived.Ground.NamesProg
import Derived.Test.YtjinkahlfigdcaaProg
import Derived.WalkKit
import Derived.WalkSpells
import Derived.WalkLawsBesides
import Derived.BigQuiet
import Derived.Deep.QuietTactic
import Derived.Laws.AppendOwnNone
import Derived.Laws.OwnMore
import Derived.Lib.AppendStr
import Derived.Laws.BytesString
import Derived.Laws.IdiomStrings
import Derived.Deep.WholeRow
import Derived.Lib.Join
import Derived.Lib.Index
import Derived.Test.YtjinkahlfigdcaaRows
import Derived.ProofKit
import Derived.OpenShut
import Derived.SliceStrings
import Derived.ChangeMaps5
import Derived.SizedLaws
import Derived.JoinedCond
import Derived.LaidLaws
import Derived.Deep.RegionHeld3
import Derived.Deep.RegionHeldLaw
import Derived.Deep.MidRow
import Derived.Laws.StructEq
import Derived.Deep.Strs
import Derived.Deep.Slices
import Derived.Lib.SmallJoins
import Derived.Lib.BitFns
import Derived.Lib.Strings
import Derived.Lib.Slices
import Derived.Lib.Small
import Derived.Lib.Walk
import Derived.Deep.Cut
import Derived.StillTail
import Init
import Derived.KernelRfl
import Derived.Laws.BitsAllLaws
import Derived.Lib.SlBytesConst

/- The contracts of strings.Clone of the library, laid over this dump. -/
namespace Go.Proofs
open Go.Shelf
def Try.lays316_ren : Go.Shelf.Ren := ⟨fun | 316 => 59 | n => n, fun | 9 => 9 | 3 => 3 | 4 => 4 | 37 => 30 | 0 => 0 | 127 => 118 | 5 => 5 | n => n, fun | n => n⟩
theorem Try.lays316 : Go.Proofs.LaysM.n316 Try.prog Try.lays316_ren := {
  mixed := by kernel_rfl
  f316 := Try.func59.trans (congrArg some (by kernel_rfl))
  t0 := Try.underlying0
  a0 := Try.isAgg0
  z0 := Try.sizeOf0
  v0 := Try.zeroValue0
  t3 := Try.underlying3
  a3 := Try.isAgg3
  z3 := Try.sizeOf3
  v3 := Try.zeroValue3
  t4 := Try.underlying4
  a4 := Try.isAgg4
  z4 := Try.sizeOf4
  v4 := Try.zeroValue4
  t9 := Try.underlying9
  a9 := Try.isAgg9
  z9 := Try.sizeOf9
  v9 := Try.zeroValue9
  t37 := Try.underlying30
  a37 := Try.isAgg30
  z37 := Try.sizeOf30
  v37 := Try.zeroValue30
  t127 := Try.underlying118
  a127 := Try.isAgg118
  z127 := Try.sizeOf118
  v127 := Try.zeroValue118
  t5 := Try.underlying5
  a5 := Try.isAgg5
  z5 := Try.sizeOf5
  v5 := Try.zeroValue5
  i0 := by kernel_rfl
  i3 := by kernel_rfl
  i4 := by kernel_rfl
  i5 := by kernel_rfl
  i9 := by kernel_rfl
  i37 := by kernel_rfl
  i127 := by kernel_rfl }
open Go.RowKit in
theorem Try.stringslite_Clone (s : ByteArray) (w : World) (hlim : s.size ≤ 281474976710656) :
    Calls Try.prog 59 #[.string s] w fun e w' => e = .returned (.string s) ∧ Below w.heap.size w w' := Any.stringslite_Clone Try.lays316 s w hlim
end Go.Proofs

/- Small laws on worlds that only grew; bytes of one's own, bytes that lie somewhere; append and make. -/
namespace Go.Proofs.Ytjinkahlfigdcaa
open Go.RowKit

theorem Try.infoU8 : (Try.prog.info? 5).map (fun i => (i.zero, i.size, i.bytes)) = some (some (.int .u8 0), 1, 1) := by kernel_rfl

theorem gb_refl (w : World) (row : Option Nat) : w.grownBy w row := ⟨rfl, rfl, rfl, Nat.le_refl _, fun _ _ _ => rfl⟩
theorem gb_trans {a b c : World} {row : Option Nat} (h : a.grownBy b row) (k : b.grownBy c row) : a.grownBy c row :=
  ⟨k.os.trans h.os, k.tape.trans h.tape, k.output.trans h.output, Nat.le_trans h.size k.size,
    fun i hi hne => (k.block i (Nat.lt_of_lt_of_le hi h.size) hne).trans (h.block i hi hne)⟩
/-- a second growth may write what is new since the first world -/
theorem gb_then {a b c : World} {row row' : Option Nat} (h : a.grownBy b row) (k : b.grownBy c row') (hr : ∀ j, row' = some j → a.heap.size ≤ j ∨ row = some j) : a.grownBy c row :=
  ⟨k.os.trans h.os, k.tape.trans h.tape, k.output.trans h.output, Nat.le_trans h.size k.size,
    fun i hi hne => (k.block i (Nat.lt_of_lt_of_le hi h.size) (fun e => by
      rcases hr i e.symm with h1 | h1
      · omega
      · exact hne h1.symm)).trans (h.block i hi hne)⟩
theorem gb_drewN (w : World) (n : Nat) (row : Option Nat) : w.grownBy (w.drewN n) row := ⟨rfl, rfl, rfl, Nat.le_refl _, fun _ _ _ => rfl⟩
theorem gb_drew (w : World) (row : Option Nat) : w.grownBy w.drew row := ⟨rfl, rfl, rfl, Nat.le_refl _, fun _ _ _ => rfl⟩
theorem gb_alloc (w : World) (o : Obj) (row : Option Nat) : w.grownBy (w.alloc o) row :=
  ⟨rfl, rfl, rfl, by simp, fun k hk _ => Below.heap_alloc w o k hk⟩
theorem gb_set (w : World) (a : Addr) (u : Value) : w.grownBy (w.setCell a u) (some a.block) :=
  ⟨rfl, rfl, rfl, by simp, fun k _ hk => Below.heap_setCell w a u k (fun e => hk (by rw [e]))⟩
theorem gb_below {w w' : World} (h : w.grownBy w' none) : Below w.heap.size w w' := ⟨h.os, h.tape, h.output, h.size, fun k hk => h.block k hk (by simp)⟩
theorem below_gb {w w' : World} (h : Below w.heap.size w w') (row : Option Nat) : w.grownBy w' row := ⟨h.os, h.tape, h.output, h.size, fun k hk _ => h.block k hk⟩
theorem gb_any {w w' : World} (h : w.grownBy w' none) (row : Option Nat) : w.grownBy w' row := ⟨h.os, h.tape, h.output, h.size, fun k hk _ => h.block k hk (by simp)⟩
theorem below_walk (w : World) (o : Obj) : Below w.heap.size w (w.alloc o) := (Below.refl _ _).alloc (Nat.le_refl _) _
theorem below_walk2 (w : World) (o p : Obj) : Below w.heap.size w ((w.alloc o).alloc p) := (below_walk w o).alloc (by simp) _

/-- bytes, as cells -/
def bytesV (bs : List UInt8) : List Value := bs.map fun c => Value.int .u8 c.toNat
theorem bytesV_length (bs : List UInt8) : (bytesV bs).length = bs.length := by simp [bytesV]
theorem bytesV_append (a b : List UInt8) : bytesV (a ++ b) = bytesV a ++ bytesV b := by simp [bytesV]
theorem bytesV_get (bs : List UInt8) (j : Nat) : (bytesV bs)[j]? = (bs[j]?).map (fun c => Value.int .u8 c.toNat) := by simp [bytesV]
theorem bytesV_one (bs : List UInt8) : ∀ u ∈ bytesV bs, u.oneCell' = true := by
  intro u hu
  simp only [bytesV, List.mem_map] at hu
  obtain ⟨c, _, rfl⟩ := hu
  rfl
theorem bytesV_inj {a b : List UInt8} (h : bytesV a = bytesV b) : a = b := by
  unfold bytesV at h
  refine (List.map_inj_right ?_).1 h
  intro x y hxy
  simp only [Value.int.injEq, true_and] at hxy
  exact UInt8.toNat_inj.1 (by omega)

theorem addr_add (g j : Nat) : (⟨g, 0, none⟩ : Addr).add j = ⟨g, j, none⟩ := by
  by_cases h : j = 0
  · subst h; simp [Addr.add]
  · simp [Addr.add, h]

/-- v owns the bytes bs, in memory from block 'base' on -/
def OwnB (w : World) (base : Nat) (v : Value) (bs : List UInt8) : Prop := w.ownsRow base 5 1 v bs.length (bytesV bs)
theorem OwnB.kept {w w' : World} {base : Nat} {v : Value} {bs : List UInt8} {row : Option Nat} (h : OwnB w base v bs) (hg : w.grownBy w' row) (hne : v.ownBlock = none ∨ v.ownBlock ≠ row) : OwnB w' base v bs := World.ownsRow.kept h hg hne
theorem OwnB.below {w w' : World} {base : Nat} {v : Value} {bs : List UInt8} (h : OwnB w base v bs) (hb : Below w.heap.size w w') : OwnB w' base v bs :=
  World.ownsRow.kept h (below_gb hb none) (by cases e : v.ownBlock <;> simp)
theorem OwnB.le {w : World} {base base' : Nat} {v : Value} {bs : List UInt8} (h : OwnB w base v bs) (hb : base' ≤ base) : OwnB w base' v bs :=
  ⟨h.1, h.2.elim Or.inl (fun ⟨g, cap, cur, hv, hg, r⟩ => Or.inr ⟨g, cap, cur, hv, Nat.le_trans hb hg, r⟩)⟩
theorem OwnB.forms {w : World} {base : Nat} {v : Value} {bs : List UInt8} (h : OwnB w base v bs) :
    (v = .slice none 0 0 ∧ bs = []) ∨ ∃ g cap, v = .slice (some ⟨g, 0, none⟩) bs.length cap ∧ base ≤ g ∧ g < w.heap.size ∧ bs.length ≤ cap ∧ cap ≤ maxLen ∧ (∀ j, w.frozen? ⟨g, j, none⟩ = false) ∧ ∀ j, j < bs.length → w.cell? ⟨g, j, none⟩ = some (.int .u8 (bs.getD j 0).toNat) := by
  have h' := h
  rcases h.2 with ⟨h0, h1⟩ | ⟨g, cap, cur, hv, hb, hh, h1, h2, _, _⟩
  · exact Or.inl ⟨h0, List.length_eq_zero_iff.1 h1⟩
  · refine Or.inr ⟨g, cap, hv, hb, ?_, h1, h2, ?_, ?_⟩
    · exact (World.ownsRow.lt h' g (by rw [hv]; rfl)).2
    · intro j; simp [World.frozen?, hh]
    · intro j hj
      have := World.ownsRow.cells h' (g := g) (by rw [hv]; rfl) j (.int .u8 (bs.getD j 0).toNat) (by rw [bytesV_get]; simp [List.getElem?_eq_getElem hj, List.getD_eq_getElem?_getD])
      rw [addr_add] at this
      exact this
theorem OwnB.len {w : World} {base : Nat} {v : Value} {bs : List UInt8} (h : OwnB w base v bs) : bs.length ≤ maxLen := by
  rcases h.forms with ⟨_, rfl⟩ | ⟨g, cap, _, _, _, h1, h2, _⟩
  · simp
  · omega
theorem OwnB.shape {w : World} {base : Nat} {v : Value} {bs : List UInt8} (h : OwnB w base v bs) : ∃ a cap, v = .slice a bs.length cap := by
  rcases h.forms with ⟨h1, rfl⟩ | ⟨g, cap, h1, _⟩
  · exact ⟨none, 0, h1⟩
  · exact ⟨_, _, h1⟩
theorem OwnB.lt {w : World} {base : Nat} {v : Value} {bs : List UInt8} (h : OwnB w base v bs) : ∀ k, v.ownBlock = some k → base ≤ k ∧ k < w.heap.size := World.ownsRow.lt h
theorem OwnB.nil (w : World) (base : Nat) : OwnB w base (.slice none 0 0) [] := World.ownsRow_nil _ _ _ _

/-- v is a slice that holds the bytes bs, wherever they lie -/
def Src (w : World) (v : Value) (bs : List UInt8) : Prop :=
  bs.length ≤ 140737488355327 ∧ ((v = .slice none 0 0 ∧ bs = []) ∨ ∃ ad cap, v = .slice (some ad) bs.length cap ∧ bs.length ≤ cap ∧ cap ≤ maxLen ∧ (0 < bs.length → ad.block < w.heap.size) ∧ ∀ j, j < bs.length → w.cell? (ad.add j) = some (.int .u8 (bs.getD j 0).toNat))
theorem addr_block (ad : Addr) (j : Nat) : (ad.add j).block = ad.block := by unfold Addr.add; split <;> rfl
theorem Src.below {w w' : World} {v : Value} {bs : List UInt8} (h : Src w v bs) (hb : Below w.heap.size w w') : Src w' v bs := by
  obtain ⟨h0, h | ⟨ad, cap, rfl, h1, h2, hlt, h3⟩⟩ := h
  · exact ⟨h0, Or.inl h⟩
  · exact ⟨h0, Or.inr ⟨ad, cap, rfl, h1, h2, fun h => Nat.lt_of_lt_of_le (hlt h) hb.size, fun j hj => by rw [hb.cell (p := ad.add j) (by rw [addr_block]; exact hlt (by omega))]; exact h3 j hj⟩⟩
theorem Src.grown {w w' : World} {v : Value} {bs : List UInt8} {row : Option Nat} (h : Src w v bs) (hg : w.grownBy w' row) (hne : v.ownBlock = none ∨ v.ownBlock ≠ row) : Src w' v bs := by
  obtain ⟨h0, h | ⟨ad, cap, rfl, h1, h2, hlt, h3⟩⟩ := h
  · exact ⟨h0, Or.inl h⟩
  · refine ⟨h0, Or.inr ⟨ad, cap, rfl, h1, h2, fun h => Nat.lt_of_lt_of_le (hlt h) hg.size, fun j hj => ?_⟩⟩
    rw [World.cell?_of_block (hg.block (ad.add j).block (by rw [addr_block]; exact hlt (by omega)) (by rw [addr_block]; simpa [Value.ownBlock] using hne))]
    exact h3 j hj
theorem OwnB.src {w : World} {base : Nat} {v : Value} {bs : List UInt8} (h : OwnB w base v bs) (hl : bs.length ≤ 140737488355327) : Src w v bs := by
  refine ⟨hl, ?_⟩
  rcases h.forms with h0 | ⟨g, cap, hv, _, hlt, h1, h2, _, hc⟩
  · exact Or.inl h0
  · exact Or.inr ⟨⟨g, 0, none⟩, cap, hv, h1, h2, fun _ => hlt, fun j hj => by rw [addr_add]; exact hc j hj⟩

section
variable {w : World} {b : Nat}
theorem blk_set {cs : Array Value} {T : TypeId} {i : Nat} (hb : w.heap[b]? = some (.cells cs T (0, 0))) (u : Value) :
    (w.setCell ⟨b, i, none⟩ u).heap[b]? = some (.cells (cs.setIfInBounds i u) T (0, 0)) := by
  simp [World.setCell, Array.getElem?_modify, hb]
end

theorem hid {p : Prop} (h : p) : Hid p := h

theorem src_cells {w : World} {ad : Addr} {bs : List UInt8} (hc : ∀ j, j < bs.length → w.cell? (ad.add j) = some (.int .u8 (bs.getD j 0).toNat)) :
    ∀ j u, (bytesV bs)[j]? = some u → w.cell? (ad.add j) = some u := by
  intro j u hj
  rw [bytesV_get] at hj
  have hjl : j < bs.length := by
    rcases Nat.lt_or_ge j bs.length with h | h
    · exact h
    · rw [List.getElem?_eq_none h] at hj; cases hj
  rw [hc j hjl, ← hj]
  simp [List.getElem?_eq_getElem hjl, List.getD_eq_getElem?_getD]

/-- append(own, bytes...) -/
theorem app_src {w : World} {ops : Array Oper} {rest : List Oper} {o : Oper} {a : Act} {Q : Exit → Act → World → Prop} (hgd : o.guard = none) (s x : Operand)
    (ho : o.op = .call { callee := .builtin .append, args := #[s, x], argTypes := #[30, 30] })
    (base : Nat) (v : Value) (bs : List UInt8) (hs : a.eval s = v) (hown : OwnB w base v bs) (vx : Value) (cs : List UInt8) (hx : a.eval x = vx) (hsrc : Src w vx cs)
    (hlen : bs.length + cs.length ≤ 140737488355327) (hbase : base ≤ w.heap.size)
    (h : ∀ v' w', OwnB w' base v' (bs ++ cs) → w.grownBy w' v.ownBlock → wpList Try.prog ops Q rest (a.put o.dst v') w') : wpList Try.prog ops Q (o :: rest) a w := by
  obtain ⟨i0, hi, hz0, hz1, hz2⟩ := info_parts Try.infoU8
  obtain ⟨_, ⟨rfl, rfl⟩ | ⟨ad, cap, rfl, h1, h2, hlt, hc⟩⟩ := hsrc
  · refine wpList_append_own_none hgd s x 30 ho base 5 i0 1 Try.underlying30 hi v bs.length (bytesV bs) hs hown hx ?_
    exact h v w (by simpa using hown) (gb_refl _ _)
  · refine wpList_append_own w hgd s x 30 ho base 5 i0 (.int .u8 0) 1 1 Try.underlying30 hi hz0 hz1 hz2 rfl (by decide) v bs.length (bytesV bs) hs hown ad cs.length cap (bytesV cs) hx (by simp [bytesV]) (src_cells hc) (bytesV_one cs) (by unfold maxLen; omega) (by omega) hbase ?_
    intro v' w' h3 h4 _
    exact h v' w' (by unfold OwnB; rw [bytesV_append, List.length_append]; exact h3) h4

/-- append(own, text...) -/
theorem app_str {w : World} {ops : Array Oper} {rest : List Oper} {o : Oper} {a : Act} {Q : Exit → Act → World → Prop} (hgd : o.guard = none) (s x : Operand)
    (ho : o.op = .call { callee := .builtin .append, args := #[s, x], argTypes := #[30, 9] })
    (base : Nat) (v : Value) (bs : List UInt8) (hs : a.eval s = v) (hown : OwnB w base v bs) (t : ByteArray) (hx : a.eval x = .string t)
    (hlen : bs.length + t.size ≤ 140737488355327) (hbase : base ≤ w.heap.size)
    (h : ∀ v' w', OwnB w' base v' (bs ++ t.data.toList) → w.grownBy w' v.ownBlock → wpList Try.prog ops Q rest (a.put o.dst v') w') : wpList Try.prog ops Q (o :: rest) a w := by
  obtain ⟨i0, hi, hz0, hz1, hz2⟩ := info_parts Try.infoU8
  refine Lib.wpList_append_own_string w hgd s x 30 9 ho base 5 i0 Try.underlying30 Try.underlying9 hi hz0 hz1 hz2 v bs.length (bytesV bs) hs hown t hx (by unfold maxLen; omega) (by omega) hbase ?_
  intro v' w' h3 h4 _
  refine h v' w' ?_ h4
  unfold OwnB
  rw [bytesV_append, List.length_append]
  exact h3

/-- make([]byte, 0, n) -/
theorem make_own {w : World} {ops : Array Oper} {rest : List Oper} {o : Oper} {a : Act} {Q : Exit → Act → World → Prop} (hgd : o.guard = none) (l c : Operand) (ho : o.op = Op.makeSlice 30 l c)
    (C : Int) (n : Nat) (hl : a.eval l = .int .i64 0) (hc : a.eval c = .int .i64 C) (hC : C = (n : Int)) (hn : n ≤ 140737488355327)
    (h : ∀ v' w', OwnB w' w.heap.size v' [] → Below w.heap.size w w' → wpList Try.prog ops Q rest (a.put o.dst v') w') : wpList Try.prog ops Q (o :: rest) a w := by
  obtain ⟨i0, hi, hz0, hz1, hz2⟩ := info_parts Try.infoU8
  refine wpList_make_own w hgd l c 30 ho w.heap.size 5 i0 (.int .u8 0) 1 Try.underlying30 hi hz0 hz1 .i64 .i64 C n hl hc hC (by rw [hz2]; omega) (by unfold maxLen; omega) (Nat.le_refl _) ?_
  intro w' h1 h2
  exact h _ w' h1 (gb_below h2)

/-- string(bytes) -/
theorem run_str {w : World} {v : Value} {bs : List UInt8} (h : Src w v bs) : (convert 30 9 v).run Try.prog w = .ok (.string ⟨bs.toArray⟩) w := by
  obtain ⟨_, ⟨rfl, rfl⟩ | ⟨ad, cap, rfl, h1, h2, hlt, hc⟩⟩ := h
  · rw [run_convert_bytes_string w 30 9 5 none 0 0 Try.underlying30 Try.underlying5 Try.underlying9]
    rfl
  · refine run_convert_bytes_back w 30 9 5 ad cap bs Try.underlying30 Try.underlying5 Try.underlying9 ?_
    intro j hj
    rw [hc j hj]
    simp [List.getElem?_eq_getElem hj, List.getD_eq_getElem?_getD]


end Go.Proofs.Ytjinkahlfigdcaa

/- Paths, plainly: names, pieces, the text of pieces; walking by a written path. -/
namespace Go.Proofs.Ytjinkahlfigdcaa

/-- a sign that a name may have -/
def nbI (c : Int) : Bool := decide ((65 ≤ c ∧ c ≤ 90) ∨ (97 ≤ c ∧ c ≤ 122) ∨ (48 ≤ c ∧ c ≤ 57) ∨ c = 46 ∨ c = 95 ∨ c = 45)
/-- a name -/
def nmP (l : List UInt8) : Bool := decide (1 ≤ l.length ∧ l.length ≤ 64 ∧ l ≠ [46] ∧ l ≠ [46, 46]) && l.all (fun c => nbI c.toNat)
/-- what stands between the slashes -/
def pcs : List UInt8 → List (List UInt8)
  | [] => [[]]
  | c :: r => if c = 47 then [] :: pcs r else
    match pcs r with
    | [] => [[c]]
    | h :: t => (c :: h) :: t
/-- pieces with slashes between -/
def txt : List (List UInt8) → List UInt8
  | [] => []
  | x :: r => x ++ (r.map ((47 : UInt8) :: ·)).flatten

theorem txt_join (l : List (List UInt8)) : Lib.join l [47] = txt l := by
  cases l with
  | nil => rfl
  | cons x r => rw [Lib.join_cons]; rfl
theorem txt_one (x : List UInt8) : txt [x] = x := by simp [txt]
theorem txt_two (x y : List UInt8) (r : List (List UInt8)) : txt (x :: y :: r) = x ++ 47 :: txt (y :: r) := by simp [txt]

theorem pcs_ne (s : List UInt8) : pcs s ≠ [] := by
  cases s with
  | nil => simp [pcs]
  | cons c r =>
    unfold pcs
    split
    · simp
    · split <;> simp
theorem pcs_slash (r : List UInt8) : pcs (47 :: r) = [] :: pcs r := by simp [pcs]
theorem pcs_cons (c : UInt8) (r : List UInt8) (h : c ≠ 47) : ∃ x t, pcs r = x :: t ∧ pcs (c :: r) = (c :: x) :: t := by
  cases e : pcs r with
  | nil => exact absurd e (pcs_ne r)
  | cons x t => exact ⟨x, t, rfl, by simp [pcs, h, e]⟩
theorem pcs_append (a b : List UInt8) : pcs (a ++ 47 :: b) = pcs a ++ pcs b := by
  induction a with
  | nil => simp [pcs]
  | cons c a ih =>
    by_cases h : c = 47
    · subst h; rw [List.cons_append, pcs_slash, pcs_slash, ih]; rfl
    · obtain ⟨x, t, e1, e2⟩ := pcs_cons c a h
      obtain ⟨y, u, f1, f2⟩ := pcs_cons c (a ++ 47 :: b) h
      rw [List.cons_append, f2, e2]
      rw [ih, e1] at f1
      simp only [List.cons_append, List.cons.injEq] at f1
      obtain ⟨rfl, rfl⟩ := f1
      rfl
theorem pcs_whole {s : List UInt8} (h : (47 : UInt8) ∉ s) : pcs s = [s] := by
  induction s with
  | nil => rfl
  | cons c r ih =>
    simp only [List.mem_cons, not_or] at h
    obtain ⟨x, t, e1, e2⟩ := pcs_cons c r (fun e => h.1 e.symm)
    rw [ih h.2] at e1
    simp only [List.cons.injEq] at e1
    obtain ⟨rfl, rfl⟩ := e1
    exact e2
theorem pcs_mem (s : List UInt8) : ∀ p ∈ pcs s, (47 : UInt8) ∉ p := by
  induction s with
  | nil => simp [pcs]
  | cons c r ih =>
    by_cases h : c = 47
    · subst h; rw [pcs_slash]; intro p hp
      simp only [List.mem_cons] at hp
      rcases hp with rfl | hp
      · simp
      · exact ih p hp
    · obtain ⟨x, t, e1, e2⟩ := pcs_cons c r h
      rw [e2]; rw [e1] at ih
      intro p hp
      simp only [List.mem_cons] at hp
      rcases hp with rfl | hp
      · simp only [List.mem_cons, not_or]
        exact ⟨fun e => h e.symm, ih x (by simp)⟩
      · exact ih p (by simp [hp])
theorem txt_pcs (s : List UInt8) : txt (pcs s) = s := by
  induction s with
  | nil => rfl
  | cons c r ih =>
    by_cases h : c = 47
    · subst h; rw [pcs_slash]
      cases e : pcs r with
      | nil => exact absurd e (pcs_ne r)
      | cons x t => rw [txt_two, ← e, ih]; rfl
    · obtain ⟨x, t, e1, e2⟩ := pcs_cons c r h
      rw [e2]; rw [e1] at ih
      simp only [txt] at ih ⊢
      rw [← ih]; rfl
theorem pcs_txt : ∀ (l : List (List UInt8)), l ≠ [] → (∀ p ∈ l, (47 : UInt8) ∉ p) → pcs (txt l) = l
  | [], h, _ => absurd rfl h
  | [x], _, h => by rw [txt_one]; exact pcs_whole (h x (by simp))
  | x :: y :: r, _, h => by
    rw [txt_two, pcs_append, pcs_whole (h x (by simp)), pcs_txt (y :: r) (by simp) (fun p hp => h p (List.mem_cons_of_mem _ hp))]
    rfl

theorem nmP_slash {p : List UInt8} (h : nmP p = true) : (47 : UInt8) ∉ p := by
  unfold nmP at h
  rw [Bool.and_eq_true, List.all_eq_true] at h
  intro hm
  have := h.2 47 hm
  revert this; decide
theorem nmP_ne {p : List UInt8} (h : nmP p = true) : p ≠ [] ∧ p ≠ [46] ∧ p ≠ [46, 46] := by
  unfold nmP at h
  rw [Bool.and_eq_true, decide_eq_true_iff] at h
  obtain ⟨⟨h1, _, h2, h3⟩, _⟩ := h
  refine ⟨?_, h2, h3⟩
  rintro rfl; simp at h1
theorem nmP_len {p : List UInt8} (h : nmP p = true) : p.length ≤ 64 := by
  unfold nmP at h
  rw [Bool.and_eq_true, decide_eq_true_iff] at h
  exact h.1.2.1

/-- so many names, and no more, make a path -/
def pathL (l : List (List UInt8)) : Prop := (∀ p ∈ l, nmP p = true) ∧ l.length ≤ 32
/-- a path's names -/
def nms (s : List UInt8) : List (List UInt8) := if s = [] then [] else pcs s
/-- is it a path? -/
def okP (s : List UInt8) : Bool := (nms s).all nmP && decide ((nms s).length ≤ 32)
theorem okP_iff (s : List UInt8) : okP s = true ↔ pathL (nms s) := by
  unfold okP pathL
  rw [Bool.and_eq_true, List.all_eq_true, decide_eq_true_iff]
theorem txt_nms (s : List UInt8) : txt (nms s) = s := by
  unfold nms
  split
  · rename_i h; rw [h]; rfl
  · exact txt_pcs s
theorem txt_ne {l : List (List UInt8)} (h : ∀ p ∈ l, nmP p = true) (hl : l ≠ []) : txt l ≠ [] := by
  cases l with
  | nil => exact absurd rfl hl
  | cons x r =>
    have := (nmP_ne (h x (by simp))).1
    simp only [txt]
    intro e
    exact this (List.append_eq_nil_iff.1 e).1
theorem nms_txt {l : List (List UInt8)} (h : ∀ p ∈ l, nmP p = true) : nms (txt l) = l := by
  unfold nms
  by_cases hl : l = []
  · subst hl; rfl
  · rw [if_neg (txt_ne h hl)]
    exact pcs_txt l hl (fun p hp => nmP_slash (h p hp))
theorem okP_txt {l : List (List UInt8)} (h : pathL l) : okP (txt l) = true := by
  rw [okP_iff, nms_txt h.1]; exact h
theorem okP_nil : okP [] = true := by decide

/-- one piece of a written path -/
def stepP (l : List (List UInt8)) (p : List UInt8) : Except Int (List (List UInt8)) :=
  if p = [] ∨ p = [46] then .ok l
  else if p = [46, 46] then (if l = [] then .error 43 else .ok l.dropLast)
  else if nmP p = true then .ok (l ++ [p]) else .error 42
/-- pieces, one behind the other -/
def stepsP : List (List UInt8) → List (List UInt8) → Except Int (List (List UInt8))
  | l, [] => .ok l
  | l, p :: r => match stepP l p with
    | .ok m => stepsP m r
    | .error e => .error e
/-- a written path -/
def walkP (l : List (List UInt8)) (s : List UInt8) : Except Int (List (List UInt8)) :=
  if 4096 < s.length then .error 40 else if s.head? = some 47 then .error 41 else stepsP l (pcs s)
def walksP : List (List UInt8) → List (List UInt8) → Except Int (List (List UInt8))
  | l, [] => .ok l
  | l, s :: r => match walkP l s with
    | .ok m => walksP m r
    | .error e => .error e
/-- the path of names that are names -/
def endP (l : List (List UInt8)) : Except Int (List UInt8) := if 32 < l.length then .error 44 else .ok (txt l)
def finP (r : Except Int (List (List UInt8))) : Except Int (List UInt8) := match r with
  | .ok m => endP m
  | .error e => .error e
def joinP (b : List UInt8) (more : List (List UInt8)) : Except Int (List UInt8) :=
  if okP b = true then finP (walksP (nms b) more) else .error 45
/-- an answer's text and number -/
def aS (r : Except Int (List UInt8)) : List UInt8 := match r with | .ok s => s | .error _ => []
def aN (r : Except Int (List UInt8)) : Int := match r with | .ok _ => 0 | .error e => e

theorem stepP_err {l : List (List UInt8)} {p : List UInt8} {e : Int} (h : stepP l p = .error e) : e = 42 ∨ e = 43 := by
  unfold stepP at h
  repeat' split at h
  all_goals first | (cases h; done) | (cases h; simp)
theorem stepsP_err : ∀ {r l : List (List UInt8)} {e : Int}, stepsP l r = .error e → e = 42 ∨ e = 43
  | [], l, e, h => by cases h
  | p :: r, l, e, h => by
    unfold stepsP at h
    split at h
    · exact stepsP_err h
    · rename_i e' he; cases h; exact stepP_err he
theorem walkP_err {l : List (List UInt8)} {s : List UInt8} {e : Int} (h : walkP l s = .error e) : 40 ≤ e ∧ e ≤ 43 := by
  unfold walkP at h
  split at h
  · cases h; decide
  · split at h
    · cases h; decide
    · rcases stepsP_err h with rfl | rfl <;> decide
theorem walksP_err : ∀ {r l : List (List UInt8)} {e : Int}, walksP l r = .error e → 40 ≤ e ∧ e ≤ 43
  | [], l, e, h => by cases h
  | p :: r, l, e, h => by
    unfold walksP at h
    split at h
    · exact walksP_err h
    · rename_i e' he; cases h; exact walkP_err he
theorem stepP_names {l m : List (List UInt8)} {p : List UInt8} (h : stepP l p = .ok m) (hl : ∀ x ∈ l, nmP x = true) : ∀ x ∈ m, nmP x = true := by
  unfold stepP at h
  repeat' split at h
  · cases h; exact hl
  · cases h
  · cases h; exact fun x hx => hl x ((List.dropLast_sublist l).subset hx)
  · rename_i hp; cases h
    intro x hx
    rw [List.mem_append] at hx
    rcases hx with hx | hx
    · exact hl x hx
    · rw [List.mem_singleton] at hx; rw [hx]; exact hp
  · cases h
theorem stepsP_names : ∀ {r l m : List (List UInt8)}, stepsP l r = .ok m → (∀ x ∈ l, nmP x = true) → ∀ x ∈ m, nmP x = true
  | [], l, m, h, hl => by cases h; exact hl
  | p :: r, l, m, h, hl => by
    unfold stepsP at h
    split at h
    · rename_i k hk; exact stepsP_names h (stepP_names hk hl)
    · cases h
theorem walkP_names {l m : List (List UInt8)} {s : List UInt8} (h : walkP l s = .ok m) (hl : ∀ x ∈ l, nmP x = true) : ∀ x ∈ m, nmP x = true := by
  unfold walkP at h
  split at h
  · cases h
  · split at h
    · cases h
    · exact stepsP_names h hl
theorem walksP_names : ∀ {r l m : List (List UInt8)}, walksP l r = .ok m → (∀ x ∈ l, nmP x = true) → ∀ x ∈ m, nmP x = true
  | [], l, m, h, hl => by cases h; exact hl
  | p :: r, l, m, h, hl => by
    unfold walksP at h
    split at h
    · rename_i k hk; exact walksP_names h (walkP_names hk hl)
    · cases h

/-- what is answered is a path -/
theorem joinP_ok {b : List UInt8} {more : List (List UInt8)} {s : List UInt8} (h : joinP b more = .ok s) : ∃ m, okP b = true ∧ walksP (nms b) more = .ok m ∧ pathL m ∧ s = txt m := by
  unfold joinP at h
  split at h
  · rename_i hb
    unfold finP at h
    split at h
    · rename_i m hm
      unfold endP at h
      split at h
      · cases h
      · cases h
        exact ⟨m, hb, hm, ⟨walksP_names hm ((okP_iff b).1 hb).1, by omega⟩, rfl⟩
    · cases h
  · cases h

end Go.Proofs.Ytjinkahlfigdcaa

/- Texts as lists of bytes; slices of texts in memory, of one's own or wherever they lie. -/
namespace Go.Proofs.Ytjinkahlfigdcaa
open Go.RowKit

/-- a text's bytes, and the text of bytes -/
def bl (s : ByteArray) : List UInt8 := s.toList
def mk (l : List UInt8) : ByteArray := ⟨l.toArray⟩
theorem bl_eq (s : ByteArray) : bl s = s.data.toList := ByteArray.toList_eq s
theorem bl_mk (l : List UInt8) : bl (mk l) = l := ByteArray.toList_mk l
theorem mk_bl (s : ByteArray) : mk (bl s) = s := by
  rw [bl_eq]; exact Lib.mk_data s
theorem bl_size (s : ByteArray) : s.size = (bl s).length := by rw [bl_eq]; exact Lib.size_eq s
theorem mk_size (l : List UInt8) : (mk l).size = l.length := by rw [bl_size, bl_mk]
theorem bl_inj {s t : ByteArray} (h : bl s = bl t) : s = t := by rw [← mk_bl s, h, mk_bl]
theorem mk_inj {a b : List UInt8} (h : mk a = mk b) : a = b := by rw [← bl_mk a, h, bl_mk]
theorem ext_bl (s : ByteArray) (a b : Nat) : s.extract a b = mk (((bl s).take b).drop a) := by
  rw [bl_eq, Lib.extract_eq, List.drop_take]
  rfl

theorem hp_new (w : World) (o : Obj) : (w.alloc o).heap[w.heap.size]? = some o := heap_alloc_last w o
theorem hp_lt {w : World} {b : Nat} {o : Obj} (h : w.heap[b]? = some o) : b < w.heap.size := (Array.getElem?_eq_some_iff.1 h).1

theorem Try.infoStr : (Try.prog.info? 9).map (fun i => (i.zero, i.size, i.bytes)) = some (some (.string ⟨#[]⟩), 1, 16) := by kernel_rfl

def strV (ts : List (List UInt8)) : List Value := ts.map fun t => Value.string (mk t)
theorem strV_length (ts : List (List UInt8)) : (strV ts).length = ts.length := by simp [strV]
theorem strV_one (ts : List (List UInt8)) : ∀ u ∈ strV ts, u.oneCell' = true := by
  intro u hu
  simp only [strV, List.mem_map] at hu
  obtain ⟨c, _, rfl⟩ := hu
  rfl
theorem strV_get (ts : List (List UInt8)) (j : Nat) (hj : j < ts.length) : (strV ts)[j]? = some (.string (mk (ts.getD j []))) := by
  simp [strV, List.getD_eq_getElem?_getD, hj]

/-- v is a slice that holds the texts ts, wherever they lie -/
def Strs (w : World) (v : Value) (ts : List (List UInt8)) : Prop :=
  (∃ ao c, v = .slice ao 0 c ∧ ts = [] ∧ (ao = none → c = 0)) ∨ ∃ g o c, v = .slice (some ⟨g, o, none⟩) ts.length c ∧ g < w.heap.size ∧ ts.length ≤ c ∧ ∀ j, j < ts.length → w.cell? ⟨g, o + j, none⟩ = some (.string (mk (ts.getD j [])))
theorem Strs.below {w w' : World} {v : Value} {ts : List (List UInt8)} (h : Strs w v ts) (hb : Below w.heap.size w w') : Strs w' v ts := by
  rcases h with h | ⟨g, o, c, hv, hlt, h1, hc⟩
  · exact Or.inl h
  · exact Or.inr ⟨g, o, c, hv, Nat.lt_of_lt_of_le hlt hb.size, h1, fun j hj => by rw [hb.cell (p := ⟨g, o + j, none⟩) hlt]; exact hc j hj⟩
theorem Strs.shape {w : World} {v : Value} {ts : List (List UInt8)} (h : Strs w v ts) : ∃ ao c, v = .slice ao ts.length c := by
  rcases h with ⟨ao, c, hv, rfl, _⟩ | ⟨g, o, c, hv, _⟩
  · exact ⟨ao, c, hv⟩
  · exact ⟨_, _, hv⟩
theorem Strs.at {w : World} {ao : Option Addr} {n c : Nat} {ts : List (List UInt8)} (h : Strs w (.slice ao n c) ts) (k : Nat) (hk : k < ts.length) :
    ∃ g o, ao = some ⟨g, o, none⟩ ∧ w.cell? ⟨g, o + k, none⟩ = some (.string (mk (ts.getD k []))) := by
  rcases h with ⟨_, _, _, h0, _⟩ | ⟨g, o, c, hv, _, _, hc⟩
  · rw [h0] at hk; simp at hk
  · injection hv with h1 _ _
    exact ⟨g, o, h1, hc k hk⟩

/-- v owns the texts ts, in memory from block 'base' on -/
def OwnS (w : World) (base : Nat) (v : Value) (ts : List (List UInt8)) : Prop := w.ownsRow base 9 1 v ts.length (strV ts)
theorem OwnS.nil (w : World) (base : Nat) : OwnS w base (.slice none 0 0) [] := World.ownsRow_nil _ _ _ _
theorem OwnS.lt {w : World} {base : Nat} {v : Value} {ts : List (List UInt8)} (h : OwnS w base v ts) : ∀ k, v.ownBlock = some k → base ≤ k ∧ k < w.heap.size := World.ownsRow.lt h
theorem OwnS.kept {w w' : World} {base : Nat} {v : Value} {ts : List (List UInt8)} {row : Option Nat} (h : OwnS w base v ts) (hg : w.grownBy w' row) (hne : v.ownBlock = none ∨ v.ownBlock ≠ row) : OwnS w' base v ts := World.ownsRow.kept h hg hne
theorem OwnS.below {w w' : World} {base : Nat} {v : Value} {ts : List (List UInt8)} (h : OwnS w base v ts) (hb : Below w.heap.size w w') : OwnS w' base v ts :=
  World.ownsRow.kept h (below_gb hb none) (by cases e : v.ownBlock <;> simp)
theorem OwnS.le {w : World} {base base' : Nat} {v : Value} {ts : List (List UInt8)} (h : OwnS w base v ts) (hb : base' ≤ base) : OwnS w base' v ts :=
  ⟨h.1, h.2.elim Or.inl (fun ⟨g, cap, cur, hv, hg, r⟩ => Or.inr ⟨g, cap, cur, hv, Nat.le_trans hb hg, r⟩)⟩
theorem OwnS.forms {w : World} {base : Nat} {v : Value} {ts : List (List UInt8)} (h : OwnS w base v ts) :
    (v = .slice none 0 0 ∧ ts = []) ∨ ∃ g cap, v = .slice (some ⟨g, 0, none⟩) ts.length cap ∧ base ≤ g ∧ g < w.heap.size ∧ ts.length ≤ cap ∧ cap ≤ maxLen ∧ (∀ j, w.frozen? ⟨g, j, none⟩ = false) ∧ ∀ j, j < ts.length → w.cell? ⟨g, j, none⟩ = some (.string (mk (ts.getD j []))) := by
  have h' := h
  rcases h.2 with ⟨h0, h1⟩ | ⟨g, cap, cur, hv, hb, hh, h1, h2, _, _⟩
  · exact Or.inl ⟨h0, List.length_eq_zero_iff.1 h1⟩
  · refine Or.inr ⟨g, cap, hv, hb, ?_, h1, h2, ?_, ?_⟩
    · exact (World.ownsRow.lt h' g (by rw [hv]; rfl)).2
    · intro j; simp [World.frozen?, hh]
    · intro j hj
      have := World.ownsRow.cells h' (g := g) (by rw [hv]; rfl) j _ (strV_get ts j hj)
      rw [addr_add] at this
      exact this
theorem OwnS.strs {w : World} {base : Nat} {v : Value} {ts : List (List UInt8)} (h : OwnS w base v ts) : Strs w v ts := by
  rcases h.forms with ⟨rfl, rfl⟩ | ⟨g, cap, rfl, h1, h2, h3, h4, h5, h6⟩
  · exact Or.inl ⟨_, _, rfl, rfl, fun _ => rfl⟩
  · exact Or.inr ⟨g, 0, cap, rfl, h2, h3, fun j hj => by rw [Nat.zero_add]; exact h6 j hj⟩
/-- a row that was laid at once -/
theorem OwnS.made {w : World} {g base : Nat} {ts : List (List UInt8)} (hb : w.heap[g]? = some (.cells (strV ts).toArray 9 (0, 0))) (hl : ts.length ≤ 1099511627776) (hg : base ≤ g) (n : Nat) (hn : n = ts.length) :
    OwnS w base (.slice (some ⟨g, 0, none⟩) n n) ts := by
  subst hn
  refine ⟨by simp [strV], Or.inr ⟨g, ts.length, (strV ts).toArray, rfl, hg, hb, Nat.le_refl _, by unfold maxLen; omega, ?_, ?_⟩⟩
  · simp [strV]
  · rw [Nat.mul_one, ← strV_length ts, List.take_length]
/-- without the last ones -/
theorem OwnS.take {w : World} {base g cap : Nat} {ts : List (List UInt8)} (h : OwnS w base (.slice (some ⟨g, 0, none⟩) ts.length cap) ts) (n : Nat) (hn : n ≤ ts.length) : OwnS w base (.slice (some ⟨g, 0, none⟩) n cap) (ts.take n) := by
  obtain ⟨h0, h | ⟨g', cap', cur, hv, hb, hh, h1, h2, h3, h4⟩⟩ := h
  · cases h.1
  · injection hv with e1 e2 e3
    injection e1 with e1
    injection e1 with e1
    subst e1 e3
    have el : (ts.take n).length = n := by rw [List.length_take]; omega
    unfold OwnS
    rw [el]
    refine ⟨by rw [strV_length, el]; omega, Or.inr ⟨g, cap, cur, rfl, hb, hh, by omega, h2, h3, ?_⟩⟩
    have e : strV (ts.take n) = (strV ts).take n := by simp [strV, List.map_take]
    rw [e, ← h4, List.take_take]
    congr 1
    omega

/-- where an append lies: where it lay, or at the end -/
theorem app_place {P : Program} (w : World) (base : Nat) (t ty e : TypeId) (i : TypeInfo) (z : Value) (size bytes : Nat) (ht : P.underlying t = some (.slice e)) (hi : P.info? e = some i) (hz : i.zero = some z)
    (hsize : i.size = size) (hby : i.bytes = bytes)
    (v : Value) (n : Nat) (xs : List Value) (hown : w.ownsRow base e size v n xs)
    (a : Addr) (m c : Nat) (news : List Value) (hl : news.length = m * size) (hnews : ∀ j u, news[j]? = some u → w.cell? (a.add j) = some u) (h1 : ∀ u ∈ news, u.oneCell' = true)
    (h63 : n + m ≤ maxLen) (hbytes : (n + m) * bytes ≤ 140737488355328) (v' : Value) (w' : World)
    (hr : (Builtin.append_ #[t, t] ty #[v, .slice (some a) m c]).run P w = .ok v' w') : v'.ownBlock = v.ownBlock ∨ v'.ownBlock = some w.heap.size := by
  subst hsize
  subst hby
  have hsmall : n + m ≤ 9223372036854775807 := by simp only [maxLen] at h63; omega
  rcases hown.2 with ⟨rfl, rfl⟩ | ⟨g, cap, cur, rfl, hbg, hg, hnc, hcm, hcs, htake⟩
  · by_cases hm : m = 0
    · subst hm
      simp [Builtin.append_, run_underlying ht, sizeOf, typeInfo, hi, Builtin.lenOf, Builtin.firstCells, loadCells, loadCellsFrom] at hr
      rw [← hr.1]
      exact Or.inl rfl
    · have hr2 := run_append_nil (P := P) w t ty e i z ht hi hz a m c news hl hnews (by omega) (by omega) (by have hb := hbytes; simp only [Nat.zero_add] at hb; omega)
      rw [hr] at hr2
      injection hr2 with e1 e2
      rw [e1]
      exact Or.inr rfl
  · by_cases hroom : n + m ≤ cap
    · have hfit : n * i.size + news.length ≤ cur.size := by rw [hl, hcs, ← Nat.add_mul]; exact Nat.mul_le_mul_right _ hroom
      have hr2 := run_append_room (P := P) w t ty e i ht hi g n cap cur hg a m c news hl hnews h1 hroom hfit
      rw [hr] at hr2
      injection hr2 with e1 e2
      rw [e1]
      exact Or.inl rfl
    · have holds : ∀ j u, xs[j]? = some u → w.cell? ((⟨g, 0, none⟩ : Addr).add j) = some u := hown.cells (g := g) rfl
      have hr2 := run_append_grow (P := P) w t ty e i z ht hi hz ⟨g, 0, none⟩ n cap xs hown.1 holds a m c news hl hnews (by omega) (by omega) (growslice_fits (by omega) hbytes)
      rw [hr] at hr2
      injection hr2 with e1 e2
      rw [e1]
      exact Or.inr rfl

/-- append(own, texts...) -/
theorem app_text {w : World} {ops : Array Oper} {rest : List Oper} {o : Oper} {a : Act} {Q : Exit → Act → World → Prop} (hgd : o.guard = none) (s x : Operand)
    (ho : o.op = .call { callee := .builtin .append, args := #[s, x], argTypes := #[27, 27] })
    (base : Nat) (v : Value) (ts : List (List UInt8)) (hs : a.eval s = v) (hown : OwnS w base v ts) (us : List (List UInt8)) (vx : Value) (hx : a.eval x = vx) (hc : Strs w vx us)
    (hlen : ts.length + us.length ≤ 8796093022208) (hbase : base ≤ w.heap.size)
    (h : ∀ v' w', OwnS w' base v' (ts ++ us) → w.grownBy w' v.ownBlock → (v'.ownBlock = v.ownBlock ∨ v'.ownBlock = some w.heap.size) → wpList Try.prog ops Q rest (a.put o.dst v') w') : wpList Try.prog ops Q (o :: rest) a w := by
  obtain ⟨i0, hi, hz0, hz1, hz2⟩ := info_parts Try.infoStr
  have fin : ∀ (ad : Addr) (m c : Nat) (news : List Value), news = strV us → vx = .slice (some ad) m c → m = us.length → (∀ j u, news[j]? = some u → w.cell? (ad.add j) = some u) → wpList Try.prog ops Q (o :: rest) a w := by
    intro ad m c news hn hv hm hcl
    subst hn hv hm
    refine wpList_plain hgd fun K hK => ?_
    have hl : (strV us).length = us.length * 1 := by rw [strV_length]; omega
    obtain ⟨v', w', hr, h2, h3, _⟩ := run_append_own (P := Try.prog) w base 27 o.type 9 i0 (.string ⟨#[]⟩) 1 16 Try.underlying27 hi hz0 hz1 hz2 rfl (by decide) v ts.length (strV ts) hown ad us.length c (strV us) hl hcl (strV_one us) (by unfold maxLen; omega) (by omega) hbase
    have hp := app_place (P := Try.prog) w base 27 o.type 9 i0 (.string ⟨#[]⟩) 1 16 Try.underlying27 hi hz0 hz1 hz2 v ts.length (strV ts) hown ad us.length c (strV us) hl hcl (strV_one us) (by unfold maxLen; omega) (by omega) v' w' hr
    unfold Oper.wp execOp
    simp only [ho, resolve, invoke, builtin, Sem.run_bind, Sem.run_pure, Result.andThen_ok, List.map_toArray, List.map_cons, List.map_nil, hs, hx, hr]
    refine hK _ _ (h v' w' ?_ h3 hp)
    unfold OwnS
    rw [List.length_append, show strV (ts ++ us) = strV ts ++ strV us by simp [strV]]
    exact h2
  rcases hc with ⟨ao, c, rfl, rfl, h0⟩ | ⟨g, off, c, rfl, hlt, h1, h2⟩
  · cases ao with
    | none =>
      obtain rfl := h0 rfl
      refine wpList_append_own_none hgd s x 27 ho base 9 i0 1 Try.underlying27 hi v ts.length _ hs hown hx ?_
      exact h v w (by simpa using hown) (gb_refl _ _) (Or.inl rfl)
    | some ad => exact fin ad 0 c [] rfl rfl rfl (fun j u hj => by simp at hj)
  · refine fin ⟨g, off, none⟩ _ c _ rfl rfl rfl ?_
    intro j u hj
    have hjl : j < us.length := by
      rcases Nat.lt_or_ge j us.length with h | h
      · exact h
      · rw [List.getElem?_eq_none (by rw [strV_length]; exact h)] at hj; cases hj
    rw [strV_get us j hjl] at hj
    have hj := Option.some.inj hj
    rw [← hj]
    have := h2 j hjl
    rw [show (⟨g, off, none⟩ : Addr).add j = ⟨g, off + j, none⟩ by by_cases h0 : j = 0 <;> simp [Addr.add, h0]]
    exact this

/-- a slice's beginning -/
theorem sl_to (ad : Addr) (n cap k : Nat) (hk : k ≤ cap) (W : World) : (Instr.slice 27 (.slice (some ad) n cap) none (some (.int .i64 (k : Int))) none).run Try.prog W = .ok (.slice (some ad) k cap) W := by
  have hk2 : (k : Int) ≤ (cap : Int) := by omega
  go_simp

end Go.Proofs.Ytjinkahlfigdcaa

/- Rows: the condition of the second form beside laid tables; texts out of their reading. -/
namespace Go.Proofs.Ytjinkahlfigdcaa
open Go.ChangeShapes Go.WideShapes Go.ChangeAt Go.RowKit

section
variable {H : Type} {enc : TypeId × Value → H}
theorem returns_cond_and {a : Assume} {C : Checked} {os : Os} {f : FuncId} {fn : Func} {s : OpenSpec} {k : (H : Type) → List (DataW H) → Bool} (hk : s.cond = some k) {F : Stop.Interp} {conds : List PathCond} {apart fresh handsOn again : Bool} {X : World → Array Value → Prop}
    (hX : ∀ (w w' : World) (args : Array Value), w.heap = w'.heap → X w args → X w' args)
    (own : ownKnob C.prog.godebug = none) (started : os.Started) (noInit : C.prog.inits.idxOf? f = none) (hfn : C.prog.funcs[f]? = some fn)
    (witness : ∃ (w : World) (tape : Tape) (i : Input), w.os = os ∧ (w.forCall tape i).Shaped C.prog ∧ i.vars = [] ∧ Input.okWide C.prog (w.forCall tape i) .any w.heap.size f i ∧
      ((s.pre enc C.prog fn conds apart (w.forCall tape i).memory i.args ∧ X (w.forCall tape i).memory i.args) ∧ sizedMet enc C.prog fn s apart (w.forCall tape i).memory i.args) ∧ a.holds C.prog (lone (Frame.enter C.prog f i.args .normal) [] (w.forCall tape i)))
    (contract : ∀ (W : World) (base : Nat) (args : Array Value) (ds gs : List (DataW H)) (before : List MemPlace),
      (∀ (j : Nat) t v, fn.params[j]? = some t → args[j]? = some v → Value.okWide C.prog W .any base t v) →
      DataW.Whole enc C.prog fn.params.toList s.vars apart W args.toList ds gs before →
      k H (ds ++ gs) = true → X W args →
      Calls C.prog f args W fun e W' => ∃ v, e = .returned v ∧ (s.at F).post enc C.prog fn apart fresh handsOn again W args v W') :
    ReturnsInHanded a C os f .any (fun w args => (s.pre enc C.prog fn conds apart w args ∧ X w args) ∧ sizedMet enc C.prog fn s apart w args) ((s.at F).post enc C.prog fn apart fresh handsOn again) := by
  refine returnsInHanded_of_calls own started noInit witness ?_
  intro w tape i _ _ _ hok hpre _
  obtain ⟨_, _, _, fn', hfn', _, _, _, _, hval⟩ := hok
  have e : fn' = fn := Option.some.inj (hfn'.symm.trans hfn)
  subst e
  obtain ⟨⟨hp, hx⟩, _⟩ := hpre
  obtain ⟨ds, gs, before, hw, _, hkk⟩ := (OpenSpec.pre_some hk conds apart _ _).1 hp
  have hw' := DataW.Whole.of_heap (w' := w.forCall tape i) (by rfl) hw
  refine (contract (w.forCall tape i) w.heap.size i.args ds gs before hval hw' hkk (hX _ _ _ (by rfl) hx)).mono fun e W' ⟨v, he, hp⟩ => ?_
  subst he
  exact ChangeSpec.post_blind hp

theorem witness_cond {C : Checked} {os : Os} {f : FuncId} {fn : Func} {s : OpenSpec} {k : (H : Type) → List (DataW H) → Bool} (hk : s.cond = some k) {conds : List PathCond} {apart : Bool} {X : World → Array Value → Prop} (modest : Bool) (w0 : World) (args : Array Value) (fuel : Nat) (hos : w0.os = os)
    (hsh : (w0.forCall (fun _ _ => 0) ⟨#[], args, []⟩).Shaped C.prog)
    (hok : Input.okWideB C.prog (w0.forCall (fun _ _ => 0) ⟨#[], args, []⟩) f ⟨#[], args, []⟩ = true)
    {x : List (DataW H) × List (DataW H) × List MemPlace} (hx : DataW.whole enc C.prog (w0.forCall (fun _ _ => 0) ⟨#[], args, []⟩).memory fn.params.toList s.vars apart args.toList fuel = some x)
    (hconds : conds.all (PathCond.test C.prog ⟨fn.params.toList, x.1, s.bare.plain.varTypes C.prog, x.2.1⟩) = true) (hkk : k H (x.1 ++ x.2.1) = true)
    (hsz : s.bare.sizedB enc C.prog fn apart (w0.forCall (fun _ _ => 0) ⟨#[], args, []⟩).memory args fuel = true)
    (hX : X (w0.forCall (fun _ _ => 0) ⟨#[], args, []⟩).memory args) :
    ∃ (w : World) (tape : Tape) (i : Input), w.os = os ∧ (w.forCall tape i).Shaped C.prog ∧ i.vars = [] ∧ Input.okWide C.prog (w.forCall tape i) .any w.heap.size f i ∧
      ((s.pre enc C.prog fn conds apart (w.forCall tape i).memory i.args ∧ X (w.forCall tape i).memory i.args) ∧ sizedMet enc C.prog fn s apart (w.forCall tape i).memory i.args) ∧ ({ modest := modest } : Assume).holds C.prog (lone (Frame.enter C.prog f i.args .normal) [] (w.forCall tape i)) :=
  ⟨w0, fun _ _ => 0, ⟨#[], args, []⟩, hos, hsh, (Input.okWide_of_okWideB (base := 0) hok).1, (Input.okWide_of_okWideB hok).2,
    ⟨⟨(OpenSpec.pre_some hk conds apart _ _).2 ⟨x.1, x.2.1, x.2.2, DataW.Whole_of_whole hx, hconds, hkk⟩, hX⟩, sizedMet_of_sizedB hsz⟩, by
    simp only [Assume.holds]
    exact ⟨by simp, by simp, fun _ => Modest.zero, by simp, by simp⟩⟩
end

theorem cellsStr : Try.prog.cellsOf 9 = 1 := by kernel_rfl
theorem addr_plain {w : World} {a : Addr} {v : Value} (h : w.cell? a = some v) : a = ⟨a.block, a.off, none⟩ := by
  obtain ⟨b, o, sp⟩ := a
  cases sp with
  | none => rfl
  | some s =>
    unfold World.cell? at h
    split at h <;> simp at h
theorem add_plain (b o j : Nat) : (⟨b, o, none⟩ : Addr).add j = ⟨b, o + j, none⟩ := by
  by_cases h : j = 0
  · subst h; simp [Addr.add]
  · simp [Addr.add, h]
theorem list_of {α : Type} {P : Nat → α → Prop} : ∀ {n : Nat}, (∀ i, i < n → ∃ x, P i x) → ∃ l : List α, l.length = n ∧ ∀ j x, l[j]? = some x → P j x
  | 0, _ => ⟨[], rfl, by intro j x h; simp at h⟩
  | n + 1, h => by
    obtain ⟨l, hl, hp⟩ := list_of (n := n) (fun i hi => h i (by omega))
    obtain ⟨x, hx⟩ := h n (by omega)
    refine ⟨l ++ [x], by simp [hl], fun j y hj => ?_⟩
    rcases Nat.lt_or_ge j n with hjn | hjn
    · rw [List.getElem?_append_left (by omega)] at hj
      exact hp j y hj
    · rw [List.getElem?_append_right (by omega)] at hj
      have : j - l.length = 0 := by
        rcases Nat.eq_zero_or_pos (j - l.length) with h0 | h0
        · exact h0
        · rw [List.getElem?_eq_none (by simp; omega)] at hj; cases hj
      rw [this] at hj
      simp at hj
      subst hj
      obtain rfl : j = n := by omega
      exact hx
section
variable {H : Type}
theorem bulk_pos (d : DataW H) : 1 ≤ Rows.uptoBulk d := by
  cases d with
  | lit l => cases l <;> simp [Rows.uptoBulk]
  | _ => simp [Rows.uptoBulk]
theorem bulk_mem {d : DataW H} : ∀ {l : List (DataW H)}, d ∈ l → Rows.uptoBulk d ≤ Rows.uptoBulkAll l
  | [], h => by cases h
  | x :: r, h => by
    simp only [Rows.uptoBulkAll]
    rcases List.mem_cons.1 h with rfl | h
    · omega
    · have := bulk_mem h; omega
theorem bulk_count : ∀ (l : List (DataW H)), l.length ≤ Rows.uptoBulkAll l
  | [] => by simp
  | x :: r => by
    have h1 := bulk_pos x
    have h2 := bulk_count r
    simp only [Rows.uptoBulkAll, List.length_cons]
    omega
theorem small {l : List (DataW H)} (hk : Rows.uptoSmall H l = true) : Rows.uptoBulkAll l ≤ 1048576 := of_decide_eq_true hk
theorem bulk_range (D : Nat → DataW H) (n : Nat) : Rows.uptoBulkAll ((List.range (n + 1)).map D) = Rows.uptoBulkAll ((List.range n).map D) + Rows.uptoBulk (D n) := by
  rw [List.range_succ, List.map_append]
  generalize (List.range n).map D = L
  induction L with
  | nil => simp [Rows.uptoBulkAll]
  | cons a r ih2 => simp only [List.cons_append, List.map_cons, List.map_nil, Rows.uptoBulkAll] at ih2 ⊢; omega
end

section
variable {H : Type} {enc : TypeId × Value → H} {W : World} {spare : Nat → Bool} {held : Bool}
theorem bulk_strs : ∀ (ss : List ByteArray), ss.length ≤ Rows.uptoBulkAll (strs (H := H) ss) ∧ ∀ s ∈ ss, (bl s).length ≤ Rows.uptoBulkAll (strs (H := H) ss)
  | [] => ⟨by simp, fun s h => (by cases h)⟩
  | x :: r => by
    obtain ⟨h1, h2⟩ := bulk_strs r
    have e : Rows.uptoBulkAll (strs (H := H) (x :: r)) = (bl x).length + 1 + Rows.uptoBulkAll (strs (H := H) r) := by
      rw [bl_eq]; rfl
    refine ⟨by rw [e]; simp; omega, fun s hs => ?_⟩
    rw [e]
    rcases List.mem_cons.1 hs with rfl | hs
    · omega
    · have := h2 s hs; omega
/-- texts out of their reading -/
theorem texts_of {ao : Option Addr} {n c : Nat} {d : DataW H} {pl : List MemPlace} (h : DataW.Trod enc Try.prog W 0 spare held 27 (.slice ao n c) d pl) :
    ∃ ts : List (List UInt8), Strs W (.slice ao n c) ts ∧ ts.length = n ∧ (∀ t ∈ ts, t.length ≤ 9223372036854775807) ∧ (∀ elems more, d = .slice elems more → elems.length = n) ∧ n ≤ Rows.uptoBulk d ∧ (∀ t ∈ ts, t.length ≤ Rows.uptoBulk d) ∧ (d = .nil → n = 0) := by
  obtain ⟨fuel, hf⟩ := h
  rcases open_strings Try.underlying27 Try.underlying9 cellsStr hf with ⟨hcs, hx⟩ | ⟨a, len, cap, ss, hcs, _, hl, hm, hz, hx, hcell, hwz⟩
  · simp [Value.cells] at hcs
    obtain ⟨rfl, rfl, rfl⟩ := hcs
    simp only [Prod.mk.injEq] at hx
    obtain ⟨rfl, _⟩ := hx
    exact ⟨[], Or.inl ⟨_, _, rfl, rfl, fun _ => rfl⟩, rfl, fun t h => (by cases h), fun el mo e => (by cases e), Nat.zero_le _, fun t h => (by cases h), fun _ => rfl⟩
  · simp [Value.cells] at hcs
    obtain ⟨rfl, rfl, rfl⟩ := hcs
    simp only [Prod.mk.injEq] at hx
    obtain ⟨rfl, _⟩ := hx
    have hlm : n ≤ ss.length := by rw [hz]; split <;> omega
    have hlen : ((ss.take n).map bl).length = n := by simp; omega
    obtain ⟨hb1, hb2⟩ := bulk_strs (H := H) (ss.take n)
    refine ⟨(ss.take n).map bl, ?_, hlen, ?_, ?_, ?_, ?_, fun e => by cases e⟩
    · rcases Nat.eq_zero_or_pos n with rfl | hpos
      · exact Or.inl ⟨_, _, rfl, by simp, fun e => by cases e⟩
      · have h0 := hcell 0 (by omega)
        have ha : a = ⟨a.block, a.off, none⟩ := addr_plain (v := .string (ss.getD 0 ByteArray.empty)) (by simpa [Addr.add] using h0)
        have hlt : a.block < W.heap.size := World.block_lt_of_cell? W a (u := .string (ss.getD 0 ByteArray.empty)) (by simpa [Addr.add] using h0)
        generalize a.block = g at ha hlt
        generalize a.off = o at ha
        subst ha
        refine Or.inr ⟨g, o, c, by rw [hlen], hlt, by rw [hlen]; exact hl, fun j hj => ?_⟩
        rw [hlen] at hj
        have h1 := hcell j (by omega)
        rw [add_plain] at h1
        rw [h1]
        have hj2 : j < ss.length := by omega
        congr 2
        simp [List.getD_eq_getElem?_getD, hj, hj2, mk_bl]
    · intro t ht
      obtain ⟨s, hs, rfl⟩ := List.mem_map.1 ht
      have := hwz s (List.mem_of_mem_take hs)
      rw [← bl_size]
      unfold maxLen at this
      omega
    · intro el mo e
      injection e with e1 _
      rw [← e1]
      simp [strs]
      omega
    · simp only [Rows.uptoBulk]
      have : (ss.take n).length = n := by simp; omega
      omega
    · intro t ht
      obtain ⟨s, hs, rfl⟩ := List.mem_map.1 ht
      have := hb2 s hs
      simp only [Rows.uptoBulk]
      omega
end

end Go.Proofs.Ytjinkahlfigdcaa

/- Lists of texts are compared: slices.Equal, and the document's Same. -/
namespace Go.Proofs.Ytjinkahlfigdcaa
open Go.RowKit

theorem take_next {xs ys : List (List UInt8)} {k : Nat} (hl : xs.length = ys.length) (hk : k < xs.length) (h : xs.take k = ys.take k) (he : xs.getD k [] = ys.getD k []) : xs.take (k + 1) = ys.take (k + 1) := by
  have hk2 : k < ys.length := by omega
  rw [List.take_succ_eq_append_getElem hk, List.take_succ_eq_append_getElem hk2, h]
  simp only [List.getD_eq_getElem?_getD, List.getElem?_eq_getElem hk, List.getElem?_eq_getElem hk2, Option.getD_some] at he
  rw [he]
theorem ret_eq {b c : Bool} (h : b = c) : Ending.returned (.bool b) = .returned (.bool c) := by rw [h]

set_option maxRecDepth 100000 in
set_option maxHeartbeats 1000000 in
theorem eqs_any (va vb : Value) (xs ys : List (List UInt8)) (w : World) (ha : Strs w va xs) (hb : Strs w vb ys) (hn : xs.length ≤ 9223372036854775807) :
    Calls Try.prog 38 #[va, vb] w fun e w' => e = .returned (.bool (decide (xs = ys))) ∧ ∃ k, w' = w.drewN k := by
  obtain ⟨aa, ca, rfl⟩ := ha.shape
  obtain ⟨ab, cb, rfl⟩ := hb.shape
  have HA := hid ha
  have HB := hid hb
  clear ha hb
  by_cases hlen : xs.length = ys.length
  · have HL := hid hlen
    go_enter Try.func38, Try.ntmps38
    rw [← hlen]
    clear hlen
    go_wp2
    go_loopw [13] (fun i wr => ∃ k q : Nat, k ≤ xs.length ∧ i = .int .i64 k ∧ wr = w.drewN q ∧ Hid (xs.take k = ys.take k)) (fun i _ => xs.length - (intOf i).toNat)
    case atStart => exact ⟨0, 0, by omega, rfl, rfl, rfl⟩
    case round =>
      obtain ⟨k, q, hk, rfl, rfl, HT⟩ := hrel
      by_cases hlt : k < xs.length
      · obtain ⟨g1, o1, rfl, c1⟩ := HA.out.at k hlt
        obtain ⟨g2, o2, rfl, c2⟩ := HB.out.at k (by have := HL.out; omega)
        by_cases hxy : xs.getD k [] = ys.getD k []
        · have HN := hid (take_next HL.out hlt HT.out hxy)
          rw [← hxy] at c2
          generalize mk (xs.getD k []) = s at *
          have hki : (k : Int) < (xs.length : Int) := by omega
          have hd : decide ((k : Int) < (xs.length : Int)) = true := by simpa using hki
          clear hxy
          go_wp2_with fail
          go_quiet (fail)
          go_wp2_with fail
          go_roundw
          case rel => exact ⟨k + 1, q + nq, by omega, by go_num, rfl, HN⟩
          case measure => simp [intOf]; omega
        · have HF := hid (show (false : Bool) = decide (xs = ys) from (decide_eq_false (fun e => hxy (by rw [e]))).symm)
          have t1 : ¬ (mk (xs.getD k [])).toList = (mk (ys.getD k [])).toList := fun h9 => hxy ((bl_mk _).symm.trans (h9.trans (bl_mk _)))
          generalize mk (xs.getD k []) = s at c1 t1
          generalize mk (ys.getD k []) = u at c2 t1
          have t2 : (s.toList == u.toList) = false := by simpa using t1
          have t3 : (s.toList != u.toList) = true := by simpa using t1
          have hki : (k : Int) < (xs.length : Int) := by omega
          have hd : decide ((k : Int) < (xs.length : Int)) = true := by simpa using hki
          clear hxy
          go_wp2
          go_quiet (fail)
          go_wp2
          go_ret
          exact ⟨ret_eq HF.out, _, World.drewN_drewN _ _ _⟩
      · obtain rfl : k = xs.length := by omega
        have HT2 := hid (show (true : Bool) = decide (xs = ys) from (decide_eq_true (by
          have h1 := HT.out
          rw [List.take_length, HL.out, List.take_length] at h1
          exact h1)).symm)
        go_wp2
        go_ret
        exact ⟨ret_eq HT2.out, _, rfl⟩
  · have HF := hid (show (false : Bool) = decide (xs = ys) from (decide_eq_false (fun e => hlen (by rw [e]))).symm)
    have q1 : ((xs.length : Int) != (ys.length : Int)) = true := by simp; omega
    have q2 : ((xs.length : Int) == (ys.length : Int)) = false := by simp; omega
    have q3 : ¬ (xs.length : Int) = (ys.length : Int) := by omega
    clear hlen
    go_enter Try.func38, Try.ntmps38
    go_wp2
    go_ret
    exact ⟨ret_eq HF.out, 0, rfl⟩

set_option maxRecDepth 100000 in
set_option maxHeartbeats 1000000 in
theorem wsame_any (va vb : Value) (xs ys : List (List UInt8)) (w : World) (ha : Strs w va xs) (hb : Strs w vb ys) (hn : xs.length ≤ 9223372036854775807) :
    Calls Try.prog 33 #[va, vb] w fun e w' => e = .returned (.bool (decide (xs = ys))) ∧ ∃ k, w' = w.drewN k := by
  obtain ⟨aa, ca, rfl⟩ := ha.shape
  obtain ⟨ab, cb, rfl⟩ := hb.shape
  have HA := hid ha
  have HB := hid hb
  clear ha hb
  by_cases hlen : xs.length = ys.length
  · have HL := hid hlen
    go_enter Try.func33, Try.ntmps33
    rw [← hlen]
    clear hlen
    go_wp2
    go_loopw [5] (fun i wr => ∃ k q : Nat, k ≤ xs.length ∧ i = .int .i64 k ∧ wr = w.drewN q ∧ Hid (xs.take k = ys.take k)) (fun i _ => xs.length - (intOf i).toNat)
    case atStart => exact ⟨0, 0, by omega, rfl, rfl, rfl⟩
    case round =>
      obtain ⟨k, q, hk, rfl, rfl, HT⟩ := hrel
      by_cases hlt : k < xs.length
      · obtain ⟨g1, o1, rfl, c1⟩ := HA.out.at k hlt
        obtain ⟨g2, o2, rfl, c2⟩ := HB.out.at k (by have := HL.out; omega)
        by_cases hxy : xs.getD k [] = ys.getD k []
        · have HN := hid (take_next HL.out hlt HT.out hxy)
          rw [← hxy] at c2
          generalize mk (xs.getD k []) = s at *
          have hki : (k : Int) < (xs.length : Int) := by omega
          have hd : decide ((k : Int) < (xs.length : Int)) = true := by simpa using hki
          clear hxy
          go_wp2_with fail
          go_quiet (fail)
          go_wp2_with fail
          go_roundw
          case rel => exact ⟨k + 1, q + nq, by omega, by go_num, rfl, HN⟩
          case measure => simp [intOf]; omega
        · have HF := hid (show (false : Bool) = decide (xs = ys) from (decide_eq_false (fun e => hxy (by rw [e]))).symm)
          have t1 : ¬ (mk (xs.getD k [])).toList = (mk (ys.getD k [])).toList := fun h9 => hxy ((bl_mk _).symm.trans (h9.trans (bl_mk _)))
          generalize mk (xs.getD k []) = s at c1 t1
          generalize mk (ys.getD k []) = u at c2 t1
          have t2 : (s.toList == u.toList) = false := by simpa using t1
          have t3 : (s.toList != u.toList) = true := by simpa using t1
          have hki : (k : Int) < (xs.length : Int) := by omega
          have hd : decide ((k : Int) < (xs.length : Int)) = true := by simpa using hki
          clear hxy
          go_wp2
          go_quiet (fail)
          go_wp2
          go_ret
          exact ⟨ret_eq HF.out, _, World.drewN_drewN _ _ _⟩
      · obtain rfl : k = xs.length := by omega
        have HT2 := hid (show (true : Bool) = decide (xs = ys) from (decide_eq_true (by
          have h1 := HT.out
          rw [List.take_length, HL.out, List.take_length] at h1
          exact h1)).symm)
        go_wp2
        go_ret
        exact ⟨ret_eq HT2.out, _, rfl⟩
  · have HF := hid (show (false : Bool) = decide (xs = ys) from (decide_eq_false (fun e => hlen (by rw [e]))).symm)
    have q1 : ((xs.length : Int) != (ys.length : Int)) = true := by simp; omega
    have q2 : ((xs.length : Int) == (ys.length : Int)) = false := by simp; omega
    have q3 : ¬ (xs.length : Int) = (ys.length : Int) := by omega
    clear hlen
    go_enter Try.func33, Try.ntmps33
    go_wp2
    go_ret
    exact ⟨ret_eq HF.out, 0, rfl⟩

end Go.Proofs.Ytjinkahlfigdcaa

/- A frame: its fields, its cells, its block. -/
namespace Go.Proofs.Ytjinkahlfigdcaa
open Go.RowKit

theorem run_part_int {P : Program} (w : World) (e : TypeId) (k : IntKind) (he : P.underlying e = some (.int k)) (cs : Array Value) (i : Nat) (v : Value) (h : cs[i]? = some v) : (part e cs i).run P w = .ok v w := by
  have ha : (isAgg e).run P w = .ok false w := by
    unfold isAgg
    rw [Sem.run_bind, run_underlying he w]
    rfl
  simp [part, Sem.run_bind, ha, h]

/-- arrays of numbers, alike or not -/
theorem run_equaln {P : Program} (w : World) (d : Nat) (t e : TypeId) (n : Nat) (k : IntKind) (ht : P.underlying t = some (.array n e)) (he : P.underlying e = some (.int k)) (hs : (P.info? e).map (·.size) = some 1)
    (xs ys : List Int) (hx : xs.length = n) (hy : ys.length = n) : (Op.equalIn (d + 1 + 1) t (.agg (xs.map (Value.int k)).toArray) (.agg (ys.map (Value.int k)).toArray)).run P w = .ok (decide (xs = ys)) w := by
  have hsz : (sizeOf e).run P w = .ok 1 w := by
    cases hq : P.info? e with
    | none => rw [hq] at hs; cases hs
    | some i => rw [hq] at hs; simp at hs; simp [sizeOf, typeInfo, hq, hs]
  unfold Op.equalIn
  simp only [Sem.run_bind, run_underlying ht, Result.andThen_ok, hsz, Nat.mul_one]
  have key : ∀ (l : List Nat), (∀ i ∈ l, i < n) → ∀ (f : Nat → Option Bool × Unit → Sem (ForInStep (Option Bool × Unit))),
      (∀ i, i < n → (f i (none, ())).run P w = .ok (if xs.getD i 0 = ys.getD i 0 then .yield (none, ()) else .done (some false, ())) w) → (forIn l (none, ()) f).run P w = .ok (if ∀ i ∈ l, xs.getD i 0 = ys.getD i 0 then (none, ()) else (some false, ())) w := by
    intro l
    induction l with
    | nil => intro _ f _; simp
    | cons a r ih =>
      intro hl f hf
      simp only [List.forIn_cons, Sem.run_bind]
      rw [hf a (hl a (by simp))]
      by_cases hab : xs.getD a 0 = ys.getD a 0
      · rw [if_pos hab]
        simp only [Result.andThen_ok]
        rw [ih (fun i hi => hl i (by simp [hi])) f hf]
        simp only [List.mem_cons, forall_eq_or_imp, hab, true_and]
      · rw [if_neg hab]
        simp only [Result.andThen_ok, Sem.run_pure, List.mem_cons, forall_eq_or_imp, hab, false_and, if_false]
  rw [Std.Legacy.Range.forIn_eq_forIn_range']
  simp only [Std.Legacy.Range.size, Nat.sub_zero, Nat.add_one_sub_one, Nat.div_one]
  rw [key _ (fun i hi => by simpa using hi) _ (fun i hi => ?_)]
  · have hall : (∀ i ∈ List.range' 0 n, xs.getD i 0 = ys.getD i 0) ↔ xs = ys := by
      constructor
      · intro h
        apply List.ext_getElem (by omega)
        intro i h1 h2
        have := h i (by simp; omega)
        simpa [List.getD_eq_getElem?_getD, h1, h2] using this
      · intro h i _
        rw [h]
    by_cases h : xs = ys
    · rw [if_pos (hall.2 h), decide_eq_true h]
      simp
    · rw [if_neg (fun h2 => h (hall.1 h2)), decide_eq_false h]
      simp
  · have hc : (xs.map (Value.int k)).toArray[i]? = some (.int k (xs.getD i 0)) := by simp [List.getD_eq_getElem?_getD, show i < xs.length by omega]
    have hd : (ys.map (Value.int k)).toArray[i]? = some (.int k (ys.getD i 0)) := by simp [List.getD_eq_getElem?_getD, show i < ys.length by omega]
    simp only [Sem.run_bind, run_part_int w e k he _ i _ hc, run_part_int w e k he _ i _ hd, Result.andThen_ok, run_equalIn_int w d e k k _ _ he]
    generalize xs.getD i 0 = X
    generalize ys.getD i 0 = Y
    by_cases hab : X = Y
    · simp [hab]
    · simp [hab]
theorem dig_eql (a b : List UInt8) (ha : a.length = 32) (hb : b.length = 32) (W : World) : (binOp .eql 24 (.agg (bytesV a).toArray) (.agg (bytesV b).toArray)).run Try.prog W = .ok (.bool (decide (a = b))) W := by
  have e : ∀ c : List UInt8, bytesV c = (c.map fun x => (x.toNat : Int)).map (Value.int .u8) := fun c => by simp [bytesV]
  rw [e a, e b, run_eql_struct, run_equaln W 9998 24 5 32 .u8 Try.underlying24 Try.underlying5 (by kernel_rfl) _ _ (by simpa using ha) (by simpa using hb)]
  have : (decide (a.map (fun x => (x.toNat : Int)) = b.map (fun x => (x.toNat : Int)))) = decide (a = b) := by
    refine decide_eq_decide.2 ⟨fun h => ?_, fun h => by rw [h]⟩
    refine (List.map_inj_right ?_).1 h
    intro x y hxy
    exact UInt8.toNat_inj.1 (by omega)
  rw [this]
  rfl

theorem lim_run (a b c x y z : Int) (w : World) : (Op.equalIn 10000 26 (.agg #[.int .i64 a, .int .i64 b, .int .i64 c]) (.agg #[.int .i64 x, .int .i64 y, .int .i64 z])).run Try.prog w = .ok (a == x && b == y && c == z) w := by
  have hS : Try.prog.underlying 26 = some (.struct (Try.prog.fieldsOf 26)) := by kernel_rfl
  have hp : Try.prog.stoodInHeld 26 = false := by kernel_rfl
  have u3 := Try.underlying3
  have a3 := Try.isAgg3
  have z3 := Try.sizeOf3
  rw [show (10000 : Nat) = 9999 + 1 from rfl, run_equalIn_agg w 9999 26 _ _ hS hp]
  simp only [Program.fieldsOf, Try.underlying26]
  go_simp
  by_cases h1 : a = x <;> by_cases h2 : b = y <;> by_cases h3 : c = z <;> simp [h1, h2, h3]
theorem lim_eql (a b c x y z : Int) (w : World) : (binOp .eql 26 (.agg #[.int .i64 a, .int .i64 b, .int .i64 c]) (.agg #[.int .i64 x, .int .i64 y, .int .i64 z])).run Try.prog w = .ok (.bool (decide ((a, b, c) = (x, y, z)))) w := by
  rw [run_eql_struct, lim_run]
  have : (a == x && b == y && c == z) = decide ((a, b, c) = (x, y, z)) := by
    rw [Bool.eq_iff_iff]
    simp [and_assoc]
  rw [this]
  rfl

/-- a frame's fields -/
structure Fr where
  kind : Int
  id : Int
  ver : Int
  slots : Int
  tool : List UInt8
  status : Int
  lim : Int × Int × Int
  args : List (List UInt8)
  body : List UInt8
def fcells (f : Fr) (va : Value) : List Value := [.int .i64 f.kind, .int .u64 f.id, .int .i64 f.ver, .int .i64 f.slots] ++ (bytesV f.tool ++ [.int .i64 f.status, .int .i64 f.lim.1, .int .i64 f.lim.2.1, .int .i64 f.lim.2.2, va, .string (mk f.body)])
/-- all fields are the same -/
def sameP (f g : Fr) : Bool := decide (f.kind = g.kind ∧ f.id = g.id ∧ f.ver = g.ver ∧ f.slots = g.slots ∧ f.tool = g.tool ∧ f.status = g.status ∧ f.lim = g.lim ∧ f.args = g.args ∧ f.body = g.body)
theorem sameP_self (f : Fr) : sameP f f = true := by simp [sameP]
theorem sameP_symm (f g : Fr) : sameP f g = sameP g f := by
  unfold sameP
  exact decide_eq_decide.2 ⟨fun ⟨a, b, c, d, e, x, y, z, u⟩ => ⟨a.symm, b.symm, c.symm, d.symm, e.symm, x.symm, y.symm, z.symm, u.symm⟩, fun ⟨a, b, c, d, e, x, y, z, u⟩ => ⟨a.symm, b.symm, c.symm, d.symm, e.symm, x.symm, y.symm, z.symm, u.symm⟩⟩
theorem fcells_length (f : Fr) (va : Value) (h : f.tool.length = 32) : (fcells f va).length = 42 := by simp [fcells, bytesV, h]

/-- a frame's block -/
structure Fb (w : World) (b : Nat) (f : Fr) (va : Value) : Prop where
  intro ::
  k : w.cell? ⟨b, 0, none⟩ = some (.int .i64 f.kind)
  i : w.cell? ⟨b, 1, none⟩ = some (.int .u64 f.id)
  v : w.cell? ⟨b, 2, none⟩ = some (.int .i64 f.ver)
  s : w.cell? ⟨b, 3, none⟩ = some (.int .i64 f.slots)
  t : w.rangeAt b 4 (bytesV f.tool)
  st : w.cell? ⟨b, 36, none⟩ = some (.int .i64 f.status)
  l1 : w.cell? ⟨b, 37, none⟩ = some (.int .i64 f.lim.1)
  l2 : w.cell? ⟨b, 38, none⟩ = some (.int .i64 f.lim.2.1)
  l3 : w.cell? ⟨b, 39, none⟩ = some (.int .i64 f.lim.2.2)
  a : w.cell? ⟨b, 40, none⟩ = some va
  bd : w.cell? ⟨b, 41, none⟩ = some (.string (mk f.body))
theorem Fb.of {w : World} {b : Nat} {f : Fr} {va : Value} {t : TypeId} (h : w.heap[b]? = some (.cells (fcells f va).toArray t (0, 0))) (hl : f.tool.length = 32) : Fb w b f va := by
  have hb : (bytesV f.tool).length = 32 := by rw [bytesV_length, hl]
  have key : ∀ (i : Nat) (v : Value), (fcells f va)[i]? = some v → w.cell? ⟨b, i, none⟩ = some v := fun i v hv => by
    rw [cell_of_row w b i (fcells f va).toArray t (0, 0) h]
    simpa using hv
  have far : ∀ (j : Nat) (v : Value), ([Value.int .i64 f.status, .int .i64 f.lim.1, .int .i64 f.lim.2.1, .int .i64 f.lim.2.2, va, .string (mk f.body)])[j]? = some v → (fcells f va)[36 + j]? = some v := fun j v hv => by
    unfold fcells
    rw [List.getElem?_append_right (by simp; omega), List.getElem?_append_right (by rw [hb]; simp; omega), hb]
    rw [show 36 + j - [Value.int .i64 f.kind, .int .u64 f.id, .int .i64 f.ver, .int .i64 f.slots].length - 32 = j by simp; omega]
    exact hv
  refine ⟨key 0 _ rfl, key 1 _ rfl, key 2 _ rfl, key 3 _ rfl, ?_, key 36 _ (far 0 _ rfl), key 37 _ (far 1 _ rfl), key 38 _ (far 2 _ rfl), key 39 _ (far 3 _ rfl), key 40 _ (far 4 _ rfl), key 41 _ (far 5 _ rfl)⟩
  intro j v hv
  have hj : j < (bytesV f.tool).length := (List.getElem?_eq_some_iff.1 hv).1
  apply key
  unfold fcells
  rw [List.getElem?_append_right (by simp), List.getElem?_append_left (by simpa using hj)]
  simpa using hv
theorem tool_size (T : List UInt8) (h : T.length = 32) : (Try.prog.info? 24).map (·.size) = some (bytesV T).length := by rw [bytesV_length, h]; kernel_rfl
theorem Fb.tool {w : World} {b : Nat} {f : Fr} {va : Value} (h : Fb w b f va) (hl : f.tool.length = 32) : (Instr.loadAt 24 (.pointer (some ⟨b, 4, none⟩))).run Try.prog w = .ok (.agg (bytesV f.tool).toArray) w :=
  run_loadAt_mid w b 4 24 (bytesV f.tool) _ h.t Try.underlying24 rfl (tool_size f.tool hl)
theorem Fb.below {w w' : World} {b : Nat} {f : Fr} {va : Value} (h : Fb w b f va) (hb : b < w.heap.size) (hB : Below w.heap.size w w') : Fb w' b f va := by
  have c : ∀ {i : Nat} {v : Value}, w.cell? ⟨b, i, none⟩ = some v → w'.cell? ⟨b, i, none⟩ = some v := fun {i v} hc => (hB.cell (p := ⟨b, i, none⟩) hb).trans hc
  exact ⟨c h.k, c h.i, c h.v, c h.s, fun j v hv => c (h.t j v hv), c h.st, c h.l1, c h.l2, c h.l3, c h.a, c h.bd⟩
end Go.Proofs.Ytjinkahlfigdcaa

/- A frame out of its reading. -/
namespace Go.Proofs.Ytjinkahlfigdcaa
open Go.ChangeShapes Go.WideShapes Go.ChangeAt Go.RowKit

theorem own : ownKnob Try.prog.godebug = none := by kernel_rfl
theorem laidOut : laidOutB Try.prog = true := by kernel_rfl
theorem nine_of {α : Type} {l : List α} (h : l.length = 9) : ∃ a b c d e f g i j, l = [a, b, c, d, e, f, g, i, j] := by
  match l, h with
  | [a, b, c, d, e, f, g, i, j], _ => exact ⟨a, b, c, d, e, f, g, i, j, rfl⟩
theorem six_of {α : Type} {l : List α} (h : l.length = 6) : ∃ a b c d e f, l = [a, b, c, d, e, f] := by
  match l, h with
  | [a, b, c, d, e, f], _ => exact ⟨a, b, c, d, e, f, rfl⟩
theorem four_cut {α : Type} {l : List α} (h : 4 ≤ l.length) : ∃ a b c d r, l = a :: b :: c :: d :: r := by
  match l, h with
  | a :: b :: c :: d :: r, _ => exact ⟨a, b, c, d, r, rfl⟩
theorem cells42 {l : List Value} (h : l.length = 42) : ∃ c0 c1 c2 c3 T s l1 l2 l3 va b, l = [c0, c1, c2, c3] ++ (T ++ [s, l1, l2, l3, va, b]) ∧ T.length = 32 := by
  obtain ⟨a, b, c, d, r, rfl⟩ := four_cut (l := l) (by omega)
  have hr : r.length = 38 := by simpa using h
  obtain ⟨s, l1, l2, l3, va, bd, e⟩ := six_of (l := r.drop 32) (by simp [hr])
  refine ⟨a, b, c, d, r.take 32, s, l1, l2, l3, va, bd, ?_, by simp [hr]⟩
  rw [← e, List.take_append_drop]
  rfl
theorem far42 {c0 c1 c2 c3 : Value} {T R : List Value} (h : T.length = 32) (j : Nat) : ([c0, c1, c2, c3] ++ (T ++ R)).drop (36 + j) = R.drop j := by
  rw [List.drop_append, List.drop_append, h]
  rw [List.drop_of_length_le (l := [c0, c1, c2, c3]) (by simp; omega), List.drop_of_length_le (l := T) (by simp; omega), List.nil_append, List.nil_append]
  congr 1
  simp only [List.length_cons, List.length_nil]
  omega
theorem mid42 {c0 c1 c2 c3 : Value} {T R : List Value} (h : T.length = 32) : (([c0, c1, c2, c3] ++ (T ++ R)).drop 4).take 32 = T := by
  rw [List.drop_left' (by rfl), List.take_left' h]
theorem cellsFrame : Try.prog.cellsOf 29 = 42 := by kernel_rfl
theorem cellsDig : Try.prog.cellsOf 24 = 32 := by kernel_rfl
theorem cellsLim : Try.prog.cellsOf 26 = 3 := by kernel_rfl
theorem cellsInt : Try.prog.cellsOf 3 = 1 := by kernel_rfl
theorem cellsU64 : Try.prog.cellsOf 22 = 1 := by kernel_rfl
theorem cellsTexts : Try.prog.cellsOf 27 = 1 := by kernel_rfl
theorem three_of {α : Type} {l : List α} (h : l.length = 3) : ∃ a b c, l = [a, b, c] := by
  match l, h with
  | [a, b, c], _ => exact ⟨a, b, c, rfl⟩
theorem ints_of_array {H : Type} {enc : TypeId × Value → H} {P : Program} {w : World} {base : Nat} {sp : Nat → Bool} {held : Bool} {t e : TypeId} {n : Nat} {k : IntKind} {v : Value} {d : DataW H} {p : List MemPlace}
    (ht : P.underlying t = some (.array n e)) (he : P.underlying e = some (.int k)) (hce : P.cellsOf e = 1) (hct : P.cellsOf t = n) (hn : n ≠ 1)
    (h : DataW.Trod enc P w base sp held t v d p) : ∃ xs : List Int, xs.length = n ∧ v = .agg (xs.map (Value.int k)).toArray := by
  obtain ⟨fuel, h⟩ := h
  cases fuel with
  | zero => simp [DataW.trod] at h
  | succ fuel =>
    simp only [DataW.trod, ht, hce, hct, Nat.mul_one] at h
    split at h
    · rename_i hl
      obtain ⟨xs, hm, hx⟩ := Option.map_eq_some_iff.1 h
      obtain ⟨C, rfl⟩ : ∃ C, v = .agg C := by
        cases v with
        | agg C => exact ⟨C, rfl⟩
        | _ => simp [Value.cells] at hl; exact absurd hl.symm hn
      have hC : C.size = n := by simpa [Value.cells] using hl
      have hcell : ∀ i, i < n → ∃ z, C[i]? = some (.int k z) := by
        intro i hi
        obtain ⟨b, hb, hf⟩ := Lib.mapM_at hm i i (by simp [hi])
        obtain ⟨z, hc, _, _⟩ := DataW.trod_int he hf
        refine ⟨z, ?_⟩
        have := congrArg (·[0]?) hc
        simpa [Value.cells, List.getElem?_take, List.getElem?_drop] using this
      refine ⟨C.toList.map (fun v => match v with | .int _ z => z | _ => 0), by simpa using hC, ?_⟩
      congr 1
      apply Array.ext_getElem?
      intro i
      by_cases hi : i < n
      · obtain ⟨z, hz⟩ := hcell i hi
        simp [hz]
      · rw [Array.getElem?_eq_none (by omega), Array.getElem?_eq_none (by simp; omega)]
    · cases h

theorem bytes_of_array {H : Type} {enc : TypeId × Value → H} {P : Program} {w : World} {base : Nat} {sp : Nat → Bool} {held : Bool} {t e : TypeId} {n : Nat} {v : Value} {d : DataW H} {p : List MemPlace}
    (ht : P.underlying t = some (.array n e)) (he : P.underlying e = some (.int .u8)) (hce : P.cellsOf e = 1) (hct : P.cellsOf t = n) (hn : n ≠ 1)
    (h : DataW.Trod enc P w base sp held t v d p) : ∃ bs : List UInt8, bs.length = n ∧ v = .agg (bytesV bs).toArray := by
  have h' := h
  obtain ⟨xs, hl, rfl⟩ := ints_of_array ht he hce hct hn h
  obtain ⟨fuel, hf⟩ := h'
  obtain ⟨ys, m, _, _, _, hyl, hel⟩ := DataW.trod_array ht hf
  have hb : ∀ i, i < n → 0 ≤ xs.getD i 0 ∧ xs.getD i 0 ≤ 255 := by
    intro i hi
    have h1 := hel i hi
    rw [hce, Nat.mul_one, List.getElem?_eq_getElem (by omega)] at h1
    obtain ⟨z, hc, _, hw⟩ := DataW.trod_int he h1
    have h2 := congrArg (·[0]?) hc
    have h3 : xs[i]? = some z := by
      simpa [Value.cells, List.getElem?_take, List.getElem?_drop, List.getElem?_map] using h2
    rw [List.getD_eq_getElem?_getD, h3]
    simpa [Lit.wf, IntKind.min, IntKind.max, IntKind.signed, IntKind.bits] using hw
  refine ⟨xs.map (fun z => z.toNat.toUInt8), by simpa using hl, ?_⟩
  congr 2
  apply List.ext_getElem?
  intro i
  by_cases hi : i < n
  · have := hb i hi
    rw [List.getD_eq_getElem?_getD, List.getElem?_eq_getElem (by omega)] at this
    simp only [Option.getD_some] at this
    simp [bytesV, List.getElem?_eq_getElem (show i < xs.length by omega)]
    omega
  · rw [List.getElem?_eq_none (by simp; omega), List.getElem?_eq_none (by simp [bytesV]; omega)]

theorem trod_struct9 {H : Type} {enc : TypeId × Value → H} {P : Program} {w : World} {base : Nat} {spare : Nat → Bool} {held : Bool} {t : TypeId} {f0 f1 f2 f3 f4 f5 f6 f7 f8 : Field} {fuel : Nat} {cs : List Value} {x : DataW H × List MemPlace} (ht : P.underlying t = some (.struct #[f0, f1, f2, f3, f4, f5, f6, f7, f8])) (h : DataW.trod enc P w base spare held fuel t cs = some x) :
    ∃ y0 y1 y2 y3 y4 y5 y6 y7 y8 n, x.1 = .agg [y0.1, y1.1, y2.1, y3.1, y4.1, y5.1, y6.1, y7.1, y8.1] ∧ cs.length = P.cellsOf t ∧ DataW.trod enc P w base spare held n f0.type ((cs.drop f0.offset).take (P.cellsOf f0.type)) = some y0 ∧ DataW.trod enc P w base spare held n f1.type ((cs.drop f1.offset).take (P.cellsOf f1.type)) = some y1 ∧ DataW.trod enc P w base spare held n f2.type ((cs.drop f2.offset).take (P.cellsOf f2.type)) = some y2 ∧ DataW.trod enc P w base spare held n f3.type ((cs.drop f3.offset).take (P.cellsOf f3.type)) = some y3 ∧ DataW.trod enc P w base spare held n f4.type ((cs.drop f4.offset).take (P.cellsOf f4.type)) = some y4 ∧ DataW.trod enc P w base spare held n f5.type ((cs.drop f5.offset).take (P.cellsOf f5.type)) = some y5 ∧ DataW.trod enc P w base spare held n f6.type ((cs.drop f6.offset).take (P.cellsOf f6.type)) = some y6 ∧ DataW.trod enc P w base spare held n f7.type ((cs.drop f7.offset).take (P.cellsOf f7.type)) = some y7 ∧ DataW.trod enc P w base spare held n f8.type ((cs.drop f8.offset).take (P.cellsOf f8.type)) = some y8 := by
  obtain ⟨xs, n, _, rfl, hl, hlen, hf⟩ := DataW.trod_struct ht h
  match xs, hlen with
  | [y0, y1, y2, y3, y4, y5, y6, y7, y8], _ => exact ⟨y0, y1, y2, y3, y4, y5, y6, y7, y8, n, by simp, hl, by simpa using hf 0 f0 rfl, by simpa using hf 1 f1 rfl, by simpa using hf 2 f2 rfl, by simpa using hf 3 f3 rfl, by simpa using hf 4 f4 rfl, by simpa using hf 5 f5 rfl, by simpa using hf 6 f6 rfl, by simpa using hf 7 f7 rfl, by simpa using hf 8 f8 rfl⟩

section
variable {H : Type} {enc : TypeId × Value → H} {W : World} {spare : Nat → Bool} {held : Bool}

/-- a frame, of which nothing is told but what it holds -/
structure FRead (W : World) (v : Value) (f : Fr) (va : Value) : Prop where
  is : v = .agg (fcells f va).toArray
  tool : f.tool.length = 32
  strs : Strs W va f.args
  many : f.args.length ≤ maxLen
  ints : (-9223372036854775808 ≤ f.kind ∧ f.kind ≤ 9223372036854775807) ∧ (0 ≤ f.id ∧ f.id ≤ 18446744073709551615) ∧ (-9223372036854775808 ≤ f.ver ∧ f.ver ≤ 9223372036854775807) ∧ (-9223372036854775808 ≤ f.slots ∧ f.slots ≤ 9223372036854775807) ∧ (-9223372036854775808 ≤ f.status ∧ f.status ≤ 9223372036854775807)
  lims : (-9223372036854775808 ≤ f.lim.1 ∧ f.lim.1 ≤ 9223372036854775807) ∧ (-9223372036854775808 ≤ f.lim.2.1 ∧ f.lim.2.1 ≤ 9223372036854775807) ∧ (-9223372036854775808 ≤ f.lim.2.2 ∧ f.lim.2.2 ≤ 9223372036854775807)

theorem wf_i {n : Int} (h : (Lit.int .i64 n).wf = true) : -9223372036854775808 ≤ n ∧ n ≤ 9223372036854775807 := by simpa [Lit.wf, IntKind.min, IntKind.max, IntKind.signed, IntKind.bits] using h
theorem wf_u {n : Int} (h : (Lit.int .u64 n).wf = true) : 0 ≤ n ∧ n ≤ 18446744073709551615 := by simpa [Lit.wf, IntKind.min, IntKind.max, IntKind.signed, IntKind.bits] using h

set_option maxRecDepth 100000 in
set_option maxHeartbeats 1000000 in
theorem frame_of {r : Reach} {b0 : Nat} {v : Value} {d : DataW H} {pl : List MemPlace} (hv : Value.okWide Try.prog W r b0 29 v) (h : DataW.Trod enc Try.prog W 0 spare held 29 v d pl) :
    ∃ (f : Fr) (va : Value), FRead W v f va ∧ ∃ d0 d1 d2 d3 d4 d5 d6 d7 : DataW H, d = .agg [d0, d1, d2, d3, d4, d5, d6, d7, .lit (.string f.body)] ∧ f.args.length ≤ Rows.uptoBulk d7 ∧ (∀ t ∈ f.args, t.length ≤ Rows.uptoBulk d7) ∧ (∀ elems more, d7 = .slice elems more → elems.length = f.args.length) ∧ (d7 = .nil → f.args.length = 0) := by
  obtain ⟨cs, rfl, hsz⟩ := okWide_struct Try.underlying29 hv
  rw [cellsFrame] at hsz
  obtain ⟨fuel, hf⟩ := h
  obtain ⟨y0, y1, y2, y3, y4, y5, y6, y7, y8, k, hx, hlen, t0, t1, t2, t3, t4, t5, t6, t7, t8⟩ := trod_struct9 Try.underlying29 hf
  obtain ⟨l⟩ := cs
  obtain ⟨c0, c1, c2, c3, T, s, l1, l2, l3, va, b, rfl, hT⟩ := cells42 (l := l) (by simpa using hsz)
  simp only [Value.cells] at t0 t1 t2 t3 t4 t5 t6 t7 t8
  simp only [cellsInt, cellsU64, cellsDig, cellsLim, cellsTexts, cellsStr] at t0 t1 t2 t3 t4 t5 t6 t7 t8
  rw [mid42 hT] at t4
  rw [show (36 : Nat) = 36 + 0 from rfl, far42 hT] at t5
  rw [show (37 : Nat) = 36 + 1 from rfl, far42 hT] at t6
  rw [show (40 : Nat) = 36 + 4 from rfl, far42 hT] at t7
  rw [show (41 : Nat) = 36 + 5 from rfl, far42 hT] at t8
  simp only [List.cons_append, List.nil_append, List.drop_zero, List.drop_succ_cons, List.take_succ_cons, List.take_zero] at t0 t1 t2 t3 t5 t6 t7 t8 t4
  obtain ⟨n0, e0, _, w0⟩ := DataW.trod_int Try.underlying3 t0
  obtain ⟨n1, e1, _, w1⟩ := DataW.trod_int Try.underlying22 t1
  obtain ⟨n2, e2, _, w2⟩ := DataW.trod_int Try.underlying3 t2
  obtain ⟨n3, e3, _, w3⟩ := DataW.trod_int Try.underlying3 t3
  obtain ⟨n5, e5, _, w5⟩ := DataW.trod_int Try.underlying3 t5
  obtain ⟨bs, hbl, hbe⟩ := bytes_of_array (v := .agg T.toArray) (d := y4.1) (p := y4.2) Try.underlying24 Try.underlying5 (by kernel_rfl) (by kernel_rfl) (by decide) ⟨k, by simpa [Value.cells] using t4⟩
  have hbe2 : T = bytesV bs := by
    injection hbe with hbe
    have := congrArg Array.toList hbe
    simpa using this
  obtain ⟨z0, z1, z2, k6, hx6, hl6, g0, g1, g2⟩ := Go.Deep.trod_struct3 Try.underlying26 t6
  simp only [cellsInt, List.drop_zero, List.drop_succ_cons, List.take_succ_cons, List.take_zero] at g0 g1 g2
  obtain ⟨m0, f0, _, v0⟩ := DataW.trod_int Try.underlying3 g0
  obtain ⟨m1, f1, _, v1⟩ := DataW.trod_int Try.underlying3 g1
  obtain ⟨m2, f2, _, v2⟩ := DataW.trod_int Try.underlying3 g2
  obtain ⟨ao, n, c, rfl⟩ : ∃ ai ni ci, va = .slice ai ni ci := by
    rcases DataW.trod_slice Try.underlying27 t7 with ⟨hc1, _⟩ | ⟨a', len', cap', _, _, _, _, hc1, _⟩
    · simp at hc1; exact ⟨_, _, _, hc1⟩
    · simp at hc1; exact ⟨_, _, _, hc1⟩
  have hmany : n ≤ maxLen := by
    rcases Go.Deep.open_slice Try.underlying27 t7 with ⟨hcs, _⟩ | ⟨a, len, cap, m, n', D, Pl, hcs, _, hl, hm, hmm, hx, hel⟩
    · simp at hcs
      rw [hcs.2.1]
      exact Nat.zero_le _
    · simp at hcs
      rw [hcs.2.1]
      exact Nat.le_trans hl hm
  obtain ⟨ts, hs1, hs2, hs3, hs4, hs5, hs6, hs7⟩ := texts_of (W := W) (pl := y7.2) (d := y7.1) (ao := ao) (n := n) (c := c) ⟨k, by simpa [Value.cells] using t7⟩
  obtain ⟨sb, e8, f8, _⟩ := DataW.trod_string Try.underlying9 t8
  simp only [List.cons.injEq, and_true] at e0 e1 e2 e3 e5 e8 f0 f1 f2
  subst e0 e1 e2 e3 e5 e8 f0 f1 f2 hbe2
  refine ⟨⟨n0, n1, n2, n3, bs, n5, (m0, m1, m2), ts, bl sb⟩, .slice ao n c, ⟨?_, hbl, hs1, by rw [hs2]; exact hmany, ⟨wf_i w0, wf_u w1, wf_i w2, wf_i w3, wf_i w5⟩, ⟨wf_i v0, wf_i v1, wf_i v2⟩⟩, y0.1, y1.1, y2.1, y3.1, y4.1, y5.1, y6.1, y7.1, ?_, ?_, ?_, ?_, ?_⟩
  · unfold fcells
    rw [mk_bl]
  · show _ = _
    have hx' : d = _ := hx
    rw [hx', f8]
    simp [bl_eq]
  · rw [hs2]; exact hs5
  · exact hs6
  · intro el mo e
    rw [hs2]
    exact hs4 el mo e
  · intro e
    rw [hs2]
    exact hs7 e
end
end Go.Proofs.Ytjinkahlfigdcaa

/- A frame out of its reading, in the full form. -/
namespace Go.Proofs.Ytjinkahlfigdcaa
open Go.ChangeShapes Go.WideShapes Go.ChangeAt Go.RowKit

theorem bytesStr : Try.prog.bytesOf 9 = 16 := by kernel_rfl
theorem weightsAll_mem {H : Type} {P : Program} {e : TypeId} : ∀ {l : List (DataW H)} {d : DataW H}, d ∈ l → ∀ n ∈ d.weights P e, n ∈ DataW.weightsAll P e l
  | d' :: r, d, hd, n, hn => by
    simp only [DataW.weightsAll, List.mem_append]
    rcases List.mem_cons.1 hd with rfl | h
    · exact Or.inl hn
    · exact Or.inr (weightsAll_mem h n hn)
section
variable {H : Type} {enc : TypeId × Value → H} {W : World} {spare : Nat → Bool} {held : Bool}
theorem sized_at {ts : List TypeId} {ds : List (DataW H)} (h : ((DataW.weightsEach Try.prog ts ds).all fun x => decide (x ≤ reachBytes)) = true) {j : Nat} {t : TypeId} {d : DataW H} (ht : ts[j]? = some t) (hd : ds[j]? = some d) : ∀ x ∈ d.weights Try.prog t, x ≤ reachBytes :=
  fun x hx => of_decide_eq_true (List.all_eq_true.1 h _ (DataW.weights_mem_each ht hd x hx))
set_option maxRecDepth 100000 in
theorem texts_w {ao : Option Addr} {n c : Nat} {d : DataW H} {pl : List MemPlace} (h : DataW.Trod enc Try.prog W 0 spare held 27 (.slice ao n c) d pl) (hk : ∀ x ∈ d.weights Try.prog 27, x ≤ reachBytes) :
    ∃ ts : List (List UInt8), Strs W (.slice ao n c) ts ∧ ts.length = n ∧ n ≤ 8796093022207 ∧ ∀ t ∈ ts, t.length ≤ reachBytes := by
  have hr : reachBytes < 2 ^ 47 := reachBytes_lt
  obtain ⟨fuel, hf⟩ := h
  rcases Go.Deep.open_slice Try.underlying27 hf with ⟨hcs, _⟩ | ⟨a, len, cap, m, n', D, Pl, hcs, _, hl, hm, hmm, hx, hel⟩
  · simp [Value.cells] at hcs
    obtain ⟨rfl, rfl, rfl⟩ := hcs
    exact ⟨[], Or.inl ⟨_, _, rfl, rfl, fun _ => rfl⟩, rfl, by omega, fun e h => (by cases h)⟩
  · simp [Value.cells] at hcs
    obtain ⟨rfl, rfl, rfl⟩ := hcs
    have hlm : n ≤ m := by rw [hmm]; split <;> omega
    rw [cellsStr] at hel
    simp only [Prod.mk.injEq] at hx
    obtain ⟨rfl, _⟩ := hx
    have hn : n ≤ 8796093022207 := by
      have := hk (((List.range n).map D).length * Try.prog.bytesOf 9 + ((List.range (m - n)).map fun j => D (n + j)).length * Try.prog.bytesOf 9) (by simp [DataW.weights, Try.underlying27, Nat.add_mul])
      rw [bytesStr] at this
      simp at this
      omega
    have hw : ∀ i, i < n → ∀ x ∈ (D i).weights Try.prog 9, x ≤ reachBytes := fun i hi x hxm => hk x (by
      simp only [DataW.weights, Try.underlying27, List.mem_cons, List.mem_append]
      exact Or.inr (Or.inl (weightsAll_mem (List.mem_map.2 ⟨i, List.mem_range.2 hi, rfl⟩) x hxm)))
    obtain ⟨ts, hts, hp⟩ := list_of (P := fun i (e : List UInt8) => W.cell? (a.add i) = some (.string (mk e)) ∧ e.length ≤ reachBytes) (n := n) (by
      intro i hi
      obtain ⟨cs', hc, ht⟩ := hel i (by omega)
      obtain ⟨s, e0, f0, _⟩ := DataW.trod_string Try.underlying9 ht
      subst e0
      have hh := World.cells?_some hc
      refine ⟨bl s, by rw [mk_bl]; simpa [Addr.add] using hh.2.2 0 (by omega), ?_⟩
      refine hw i hi _ ?_
      simp only [Prod.mk.injEq] at f0
      rw [f0.1]
      simp [DataW.weights, bl_eq])
    refine ⟨ts, ?_, hts, hn, ?_⟩
    · rcases Nat.eq_zero_or_pos n with rfl | hpos
      · exact Or.inl ⟨_, _, rfl, List.length_eq_zero_iff.1 hts, fun e => by cases e⟩
      · have hg : ∀ j, j < n → ts[j]? = some (ts.getD j []) := fun j hj => by rw [List.getD_eq_getElem?_getD, List.getElem?_eq_getElem (show j < ts.length by omega)]; rfl
        have h0 := (hp 0 _ (hg 0 hpos)).1
        have ha : a = ⟨a.block, a.off, none⟩ := addr_plain (v := .string (mk (ts.getD 0 []))) (by simpa [Addr.add] using h0)
        have hlt : a.block < W.heap.size := World.block_lt_of_cell? W a (u := .string (mk (ts.getD 0 []))) (by simpa [Addr.add] using h0)
        generalize a.block = g at ha hlt
        generalize a.off = o at ha
        subst ha
        refine Or.inr ⟨g, o, c, by rw [hts], hlt, by rw [hts]; exact hl, fun j hj => ?_⟩
        obtain ⟨c0, _⟩ := hp j _ (hg j (by omega))
        simpa only [add_plain] using c0
    · intro e he
      obtain ⟨j, hj, rfl⟩ := List.mem_iff_getElem.1 he
      exact (hp j _ (List.getElem?_eq_getElem hj)).2

set_option maxRecDepth 100000 in
set_option maxHeartbeats 1000000 in
theorem frame_w {r : Reach} {b0 : Nat} {v : Value} {d : DataW H} {pl : List MemPlace} (hv : Value.okWide Try.prog W r b0 29 v) (h : DataW.Trod enc Try.prog W 0 spare held 29 v d pl) (hk : ∀ x ∈ d.weights Try.prog 29, x ≤ reachBytes) :
    ∃ (f : Fr) (va : Value), FRead W v f va ∧ f.args.length ≤ 8796093022207 ∧ (∀ t ∈ f.args, t.length ≤ reachBytes) ∧ f.body.length ≤ reachBytes := by
  obtain ⟨cs, rfl, hsz⟩ := okWide_struct Try.underlying29 hv
  rw [cellsFrame] at hsz
  obtain ⟨fuel, hf⟩ := h
  obtain ⟨y0, y1, y2, y3, y4, y5, y6, y7, y8, k, hx, hlen, t0, t1, t2, t3, t4, t5, t6, t7, t8⟩ := trod_struct9 Try.underlying29 hf
  obtain ⟨l⟩ := cs
  obtain ⟨c0, c1, c2, c3, T, s, l1, l2, l3, va, b, rfl, hT⟩ := cells42 (l := l) (by simpa using hsz)
  simp only [Value.cells] at t0 t1 t2 t3 t4 t5 t6 t7 t8
  simp only [cellsInt, cellsU64, cellsDig, cellsLim, cellsTexts, cellsStr] at t0 t1 t2 t3 t4 t5 t6 t7 t8
  rw [mid42 hT] at t4
  rw [show (36 : Nat) = 36 + 0 from rfl, far42 hT] at t5
  rw [show (37 : Nat) = 36 + 1 from rfl, far42 hT] at t6
  rw [show (40 : Nat) = 36 + 4 from rfl, far42 hT] at t7
  rw [show (41 : Nat) = 36 + 5 from rfl, far42 hT] at t8
  simp only [List.cons_append, List.nil_append, List.drop_zero, List.drop_succ_cons, List.take_succ_cons, List.take_zero] at t0 t1 t2 t3 t5 t6 t7 t8 t4
  obtain ⟨n0, e0, _, w0⟩ := DataW.trod_int Try.underlying3 t0
  obtain ⟨n1, e1, _, w1⟩ := DataW.trod_int Try.underlying22 t1
  obtain ⟨n2, e2, _, w2⟩ := DataW.trod_int Try.underlying3 t2
  obtain ⟨n3, e3, _, w3⟩ := DataW.trod_int Try.underlying3 t3
  obtain ⟨n5, e5, _, w5⟩ := DataW.trod_int Try.underlying3 t5
  obtain ⟨bs, hbl, hbe⟩ := bytes_of_array (v := .agg T.toArray) (d := y4.1) (p := y4.2) Try.underlying24 Try.underlying5 (by kernel_rfl) (by kernel_rfl) (by decide) ⟨k, by simpa [Value.cells] using t4⟩
  have hbe2 : T = bytesV bs := by
    injection hbe with hbe
    have := congrArg Array.toList hbe
    simpa using this
  obtain ⟨z0, z1, z2, k6, hx6, hl6, g0, g1, g2⟩ := Go.Deep.trod_struct3 Try.underlying26 t6
  simp only [cellsInt, List.drop_zero, List.drop_succ_cons, List.take_succ_cons, List.take_zero] at g0 g1 g2
  obtain ⟨m0, f0, _, v0⟩ := DataW.trod_int Try.underlying3 g0
  obtain ⟨m1, f1, _, v1⟩ := DataW.trod_int Try.underlying3 g1
  obtain ⟨m2, f2, _, v2⟩ := DataW.trod_int Try.underlying3 g2
  obtain ⟨ao, n, c, rfl⟩ : ∃ ai ni ci, va = .slice ai ni ci := by
    rcases DataW.trod_slice Try.underlying27 t7 with ⟨hc1, _⟩ | ⟨a', len', cap', _, _, _, _, hc1, _⟩
    · simp at hc1; exact ⟨_, _, _, hc1⟩
    · simp at hc1; exact ⟨_, _, _, hc1⟩
  have hmany : n ≤ maxLen := by
    rcases Go.Deep.open_slice Try.underlying27 t7 with ⟨hcs, _⟩ | ⟨a, len, cap, m, n', D, Pl, hcs, _, hl, hm, hmm, hx, hel⟩
    · simp at hcs
      rw [hcs.2.1]
      exact Nat.zero_le _
    · simp at hcs
      rw [hcs.2.1]
      exact Nat.le_trans hl hm
  have hx' : d = _ := hx
  obtain ⟨ts, hs1, hs2, hs3, hs4⟩ := texts_w (W := W) (pl := y7.2) (d := y7.1) (ao := ao) (n := n) (c := c) ⟨k, by simpa [Value.cells] using t7⟩ (fun x hxm => hk x (by
    rw [hx']
    simp [DataW.weights, DataW.weightsEach, Try.underlying29, hxm]))
  obtain ⟨sb, e8, f8, _⟩ := DataW.trod_string Try.underlying9 t8
  simp only [List.cons.injEq, and_true] at e0 e1 e2 e3 e5 e8 f0 f1 f2
  subst e0 e1 e2 e3 e5 e8 f0 f1 f2 hbe2
  refine ⟨⟨n0, n1, n2, n3, bs, n5, (m0, m1, m2), ts, bl sb⟩, .slice ao n c, ⟨?_, hbl, hs1, by rw [hs2]; exact hmany, ⟨wf_i w0, wf_u w1, wf_i w2, wf_i w3, wf_i w5⟩, ⟨wf_i v0, wf_i v1, wf_i v2⟩⟩, ?_, ?_, ?_⟩
  · unfold fcells
    rw [mk_bl]
  · rw [hs2]; exact hs3
  · exact hs4
  · refine hk _ ?_
    rw [hx', f8]
    simp [DataW.weights, DataW.weightsEach, Try.underlying29, bl_eq]
end
end Go.Proofs.Ytjinkahlfigdcaa

/- A frame that is handed in, with all that memory's bound tells of its texts. -/
namespace Go.Proofs.Ytjinkahlfigdcaa
open Go.ChangeShapes Go.WideShapes Go.ChangeAt Go.RowKit
section
variable {H : Type} {enc : TypeId × Value → H} {W : World} {spare : Nat → Bool} {held : Bool}
set_option maxRecDepth 100000 in
theorem texts_x {ao : Option Addr} {n c : Nat} {d : DataW H} {pl : List MemPlace} (h : DataW.Trod enc Try.prog W 0 spare held 27 (.slice ao n c) d pl) (hk : ∀ x ∈ d.weights Try.prog 27, x ≤ reachBytes) :
    ∃ ts : List (List UInt8), Strs W (.slice ao n c) ts ∧ ts.length = n ∧ n ≤ 8796093021952 ∧ ∀ t ∈ ts, t.length ≤ reachBytes := by
  have hr : reachBytes ≤ 140737488351232 := by decide
  obtain ⟨fuel, hf⟩ := h
  rcases Go.Deep.open_slice Try.underlying27 hf with ⟨hcs, _⟩ | ⟨a, len, cap, m, n', D, Pl, hcs, _, hl, hm, hmm, hx, hel⟩
  · simp [Value.cells] at hcs
    obtain ⟨rfl, rfl, rfl⟩ := hcs
    exact ⟨[], Or.inl ⟨_, _, rfl, rfl, fun _ => rfl⟩, rfl, by omega, fun e h => (by cases h)⟩
  · simp [Value.cells] at hcs
    obtain ⟨rfl, rfl, rfl⟩ := hcs
    have hlm : n ≤ m := by rw [hmm]; split <;> omega
    rw [cellsStr] at hel
    simp only [Prod.mk.injEq] at hx
    obtain ⟨rfl, _⟩ := hx
    have hn : n ≤ 8796093021952 := by
      have := hk (((List.range n).map D).length * Try.prog.bytesOf 9 + ((List.range (m - n)).map fun j => D (n + j)).length * Try.prog.bytesOf 9) (by simp [DataW.weights, Try.underlying27, Nat.add_mul])
      rw [bytesStr] at this
      simp at this
      omega
    have hw : ∀ i, i < n → ∀ x ∈ (D i).weights Try.prog 9, x ≤ reachBytes := fun i hi x hxm => hk x (by
      simp only [DataW.weights, Try.underlying27, List.mem_cons, List.mem_append]
      exact Or.inr (Or.inl (weightsAll_mem (List.mem_map.2 ⟨i, List.mem_range.2 hi, rfl⟩) x hxm)))
    obtain ⟨ts, hts, hp⟩ := list_of (P := fun i (e : List UInt8) => W.cell? (a.add i) = some (.string (mk e)) ∧ e.length ≤ reachBytes) (n := n) (by
      intro i hi
      obtain ⟨cs', hc, ht⟩ := hel i (by omega)
      obtain ⟨s, e0, f0, _⟩ := DataW.trod_string Try.underlying9 ht
      subst e0
      have hh := World.cells?_some hc
      refine ⟨bl s, by rw [mk_bl]; simpa [Addr.add] using hh.2.2 0 (by omega), ?_⟩
      refine hw i hi _ ?_
      simp only [Prod.mk.injEq] at f0
      rw [f0.1]
      simp [DataW.weights, bl_eq])
    refine ⟨ts, ?_, hts, hn, ?_⟩
    · rcases Nat.eq_zero_or_pos n with rfl | hpos
      · exact Or.inl ⟨_, _, rfl, List.length_eq_zero_iff.1 hts, fun e => by cases e⟩
      · have hg : ∀ j, j < n → ts[j]? = some (ts.getD j []) := fun j hj => by rw [List.getD_eq_getElem?_getD, List.getElem?_eq_getElem (show j < ts.length by omega)]; rfl
        have h0 := (hp 0 _ (hg 0 hpos)).1
        have ha : a = ⟨a.block, a.off, none⟩ := addr_plain (v := .string (mk (ts.getD 0 []))) (by simpa [Addr.add] using h0)
        have hlt : a.block < W.heap.size := World.block_lt_of_cell? W a (u := .string (mk (ts.getD 0 []))) (by simpa [Addr.add] using h0)
        generalize a.block = g at ha hlt
        generalize a.off = o at ha
        subst ha
        refine Or.inr ⟨g, o, c, by rw [hts], hlt, by rw [hts]; exact hl, fun j hj => ?_⟩
        obtain ⟨c0, _⟩ := hp j _ (hg j (by omega))
        simpa only [add_plain] using c0
    · intro e he
      obtain ⟨j, hj, rfl⟩ := List.mem_iff_getElem.1 he
      exact (hp j _ (List.getElem?_eq_getElem hj)).2

set_option maxRecDepth 100000 in
set_option maxHeartbeats 1000000 in
theorem frame_x {r : Reach} {b0 : Nat} {v : Value} {d : DataW H} {pl : List MemPlace} (hv : Value.okWide Try.prog W r b0 29 v) (h : DataW.Trod enc Try.prog W 0 spare held 29 v d pl) (hk : ∀ x ∈ d.weights Try.prog 29, x ≤ reachBytes) :
    ∃ (f : Fr) (va : Value), FRead W v f va ∧ f.args.length ≤ 8796093021952 ∧ (∀ t ∈ f.args, t.length ≤ reachBytes) ∧ f.body.length ≤ reachBytes := by
  obtain ⟨cs, rfl, hsz⟩ := okWide_struct Try.underlying29 hv
  rw [cellsFrame] at hsz
  obtain ⟨fuel, hf⟩ := h
  obtain ⟨y0, y1, y2, y3, y4, y5, y6, y7, y8, k, hx, hlen, t0, t1, t2, t3, t4, t5, t6, t7, t8⟩ := trod_struct9 Try.underlying29 hf
  obtain ⟨l⟩ := cs
  obtain ⟨c0, c1, c2, c3, T, s, l1, l2, l3, va, b, rfl, hT⟩ := cells42 (l := l) (by simpa using hsz)
  simp only [Value.cells] at t0 t1 t2 t3 t4 t5 t6 t7 t8
  simp only [cellsInt, cellsU64, cellsDig, cellsLim, cellsTexts, cellsStr] at t0 t1 t2 t3 t4 t5 t6 t7 t8
  rw [mid42 hT] at t4
  rw [show (36 : Nat) = 36 + 0 from rfl, far42 hT] at t5
  rw [show (37 : Nat) = 36 + 1 from rfl, far42 hT] at t6
  rw [show (40 : Nat) = 36 + 4 from rfl, far42 hT] at t7
  rw [show (41 : Nat) = 36 + 5 from rfl, far42 hT] at t8
  simp only [List.cons_append, List.nil_append, List.drop_zero, List.drop_succ_cons, List.take_succ_cons, List.take_zero] at t0 t1 t2 t3 t5 t6 t7 t8 t4
  obtain ⟨n0, e0, _, w0⟩ := DataW.trod_int Try.underlying3 t0
  obtain ⟨n1, e1, _, w1⟩ := DataW.trod_int Try.underlying22 t1
  obtain ⟨n2, e2, _, w2⟩ := DataW.trod_int Try.underlying3 t2
  obtain ⟨n3, e3, _, w3⟩ := DataW.trod_int Try.underlying3 t3
  obtain ⟨n5, e5, _, w5⟩ := DataW.trod_int Try.underlying3 t5
  obtain ⟨bs, hbl, hbe⟩ := bytes_of_array (v := .agg T.toArray) (d := y4.1) (p := y4.2) Try.underlying24 Try.underlying5 (by kernel_rfl) (by kernel_rfl) (by decide) ⟨k, by simpa [Value.cells] using t4⟩
  have hbe2 : T = bytesV bs := by
    injection hbe with hbe
    have := congrArg Array.toList hbe
    simpa using this
  obtain ⟨z0, z1, z2, k6, hx6, hl6, g0, g1, g2⟩ := Go.Deep.trod_struct3 Try.underlying26 t6
  simp only [cellsInt, List.drop_zero, List.drop_succ_cons, List.take_succ_cons, List.take_zero] at g0 g1 g2
  obtain ⟨m0, f0, _, v0⟩ := DataW.trod_int Try.underlying3 g0
  obtain ⟨m1, f1, _, v1⟩ := DataW.trod_int Try.underlying3 g1
  obtain ⟨m2, f2, _, v2⟩ := DataW.trod_int Try.underlying3 g2
  obtain ⟨ao, n, c, rfl⟩ : ∃ ai ni ci, va = .slice ai ni ci := by
    rcases DataW.trod_slice Try.underlying27 t7 with ⟨hc1, _⟩ | ⟨a', len', cap', _, _, _, _, hc1, _⟩
    · simp at hc1; exact ⟨_, _, _, hc1⟩
    · simp at hc1; exact ⟨_, _, _, hc1⟩
  have hmany : n ≤ maxLen := by
    rcases Go.Deep.open_slice Try.underlying27 t7 with ⟨hcs, _⟩ | ⟨a, len, cap, m, n', D, Pl, hcs, _, hl, hm, hmm, hx, hel⟩
    · simp at hcs
      rw [hcs.2.1]
      exact Nat.zero_le _
    · simp at hcs
      rw [hcs.2.1]
      exact Nat.le_trans hl hm
  have hx' : d = _ := hx
  obtain ⟨ts, hs1, hs2, hs3, hs4⟩ := texts_x (W := W) (pl := y7.2) (d := y7.1) (ao := ao) (n := n) (c := c) ⟨k, by simpa [Value.cells] using t7⟩ (fun x hxm => hk x (by
    rw [hx']
    simp [DataW.weights, DataW.weightsEach, Try.underlying29, hxm]))
  obtain ⟨sb, e8, f8, _⟩ := DataW.trod_string Try.underlying9 t8
  simp only [List.cons.injEq, and_true] at e0 e1 e2 e3 e5 e8 f0 f1 f2
  subst e0 e1 e2 e3 e5 e8 f0 f1 f2 hbe2
  refine ⟨⟨n0, n1, n2, n3, bs, n5, (m0, m1, m2), ts, bl sb⟩, .slice ao n c, ⟨?_, hbl, hs1, by rw [hs2]; exact hmany, ⟨wf_i w0, wf_u w1, wf_i w2, wf_i w3, wf_i w5⟩, ⟨wf_i v0, wf_i v1, wf_i v2⟩⟩, ?_, ?_, ?_⟩
  · unfold fcells
    rw [mk_bl]
  · rw [hs2]; exact hs3
  · exact hs4
  · refine hk _ ?_
    rw [hx', f8]
    simp [DataW.weights, DataW.weightsEach, Try.underlying29, bl_eq]
end

end Go.Proofs.Ytjinkahlfigdcaa

/- Small laws on worlds that only grew, and what it means that a block is a reader that NewReader gave. -/
namespace Go.Proofs.Ytjinkahlfigdcaa
open Go.RowKit







/-- block b is a reader that NewReader gave: its bytes, its place, its fault -/
structure Rd (w : World) (base b : Nat) (v : Value) (bs : List UInt8) (a : Nat) (why wat : Int) : Prop where
  lo : base ≤ b
  blk : w.heap[b]? = some (.cells #[v, .int .i64 a, .int .i64 why, .int .i64 wat, .bool true] 100 (0, 0))
  own : OwnB w base v bs
  ne : v.ownBlock ≠ some b
  le : a ≤ bs.length

section
variable {w w' : World} {base b : Nat} {v : Value} {bs : List UInt8} {a : Nat} {why wat : Int}
theorem Rd.lt (h : Rd w base b v bs a why wat) : b < w.heap.size := by
  rcases Nat.lt_or_ge b w.heap.size with h1 | h1
  · exact h1
  · have := h.blk; rw [Array.getElem?_eq_none h1] at this; cases this
theorem Rd.c0 (h : Rd w base b v bs a why wat) : w.cell? ⟨b, 0, none⟩ = some v := by simp [World.cell?, h.blk]
theorem Rd.c1 (h : Rd w base b v bs a why wat) : w.cell? ⟨b, 1, none⟩ = some (.int .i64 a) := by simp [World.cell?, h.blk]
theorem Rd.c2 (h : Rd w base b v bs a why wat) : w.cell? ⟨b, 2, none⟩ = some (.int .i64 why) := by simp [World.cell?, h.blk]
theorem Rd.c3 (h : Rd w base b v bs a why wat) : w.cell? ⟨b, 3, none⟩ = some (.int .i64 wat) := by simp [World.cell?, h.blk]
theorem Rd.c4 (h : Rd w base b v bs a why wat) : w.cell? ⟨b, 4, none⟩ = some (.bool true) := by simp [World.cell?, h.blk]
theorem Rd.fz (h : Rd w base b v bs a why wat) (i : Nat) : w.frozen? ⟨b, i, none⟩ = false := by simp [World.frozen?, h.blk]
theorem Rd.grown {row : Option Nat} (h : Rd w base b v bs a why wat) (hg : w.grownBy w' row) (hb : row ≠ some b) (hv : v.ownBlock = none ∨ v.ownBlock ≠ row) : Rd w' base b v bs a why wat :=
  ⟨h.lo, (hg.block b h.lt (fun e => hb e.symm)).trans h.blk, h.own.kept hg hv, h.ne, h.le⟩
theorem Rd.below (h : Rd w base b v bs a why wat) (hb : Below w.heap.size w w') : Rd w' base b v bs a why wat :=
  ⟨h.lo, (hb.block b h.lt).trans h.blk, h.own.below hb, h.ne, h.le⟩
theorem Rd.drewN (h : Rd w base b v bs a why wat) (k : Nat) : Rd (w.drewN k) base b v bs a why wat := ⟨h.lo, h.blk, h.own, h.ne, h.le⟩
theorem Rd.drew (h : Rd w base b v bs a why wat) : Rd w.drew base b v bs a why wat := ⟨h.lo, h.blk, h.own, h.ne, h.le⟩
theorem Rd.setAt (h : Rd w base b v bs a why wat) (a' : Nat) (h' : a' ≤ bs.length) : Rd (w.setCell ⟨b, 1, none⟩ (.int .i64 a')) base b v bs a' why wat :=
  ⟨h.lo, blk_set h.blk _, h.own.kept (gb_set w _ _) (Or.inr (by simpa using h.ne)), h.ne, h'⟩
theorem Rd.setFault (h : Rd w base b v bs a why wat) (e x : Int) : Rd ((w.setCell ⟨b, 2, none⟩ (.int .i64 e)).setCell ⟨b, 3, none⟩ (.int .i64 x)) base b v bs a e x :=
  ⟨h.lo, blk_set (blk_set h.blk _) _, (h.own.kept (gb_set w _ _) (Or.inr (by simpa using h.ne))).kept (gb_set _ _ _) (Or.inr (by simpa using h.ne)), h.ne, h.le⟩
end

end Go.Proofs.Ytjinkahlfigdcaa

/- What the small methods of a reader that NewReader gave do: own, over, fail, mayRead, At, Left, Fault; and NewReader. -/
namespace Go.Proofs.Ytjinkahlfigdcaa
open Go.RowKit

set_option maxHeartbeats 400000 in
theorem own_made (b : Nat) (w : World) (hc : w.cell? ⟨b, 4, none⟩ = some (.bool true)) :
    Calls Try.prog 54 #[.pointer (some ⟨b, 0, none⟩)] w fun e w' => e = .returned (.pointer (some ⟨b, 0, none⟩)) ∧ w' = w := by
  go_enter Try.func54, Try.ntmps54
  go_wp2
  go_ret
  exact ⟨rfl, rfl⟩

set_option maxHeartbeats 400000 in
theorem over_any (b : Nat) (why : Int) (w : World) (hc : w.cell? ⟨b, 2, none⟩ = some (.int .i64 why)) :
    Calls Try.prog 71 #[.pointer (some ⟨b, 0, none⟩)] w fun e w' => e = .returned (.bool (why != 0)) ∧ w' = w := by
  go_enter Try.func71, Try.ntmps71
  go_wp2
  go_ret
  exact ⟨rfl, rfl⟩

set_option maxHeartbeats 400000 in
theorem pat_any (b : Nat) (a : Int) (w : World) (hc : w.cell? ⟨b, 1, none⟩ = some (.int .i64 a)) :
    Calls Try.prog 58 #[.pointer (some ⟨b, 0, none⟩)] w fun e w' => e = .returned (.int .i64 a) ∧ w' = w := by
  go_enter Try.func58, Try.ntmps58
  go_wp2
  go_ret
  exact ⟨rfl, rfl⟩

set_option maxHeartbeats 400000 in
theorem pleft_any (b n c : Nat) (a : Int) (v : Option Addr) (w : World) (hn : n ≤ maxLen) (h0 : 0 ≤ a) (ha : a ≤ n)
    (h1 : w.cell? ⟨b, 0, none⟩ = some (.slice v n c)) (h2 : w.cell? ⟨b, 1, none⟩ = some (.int .i64 a)) :
    Calls Try.prog 72 #[.pointer (some ⟨b, 0, none⟩)] w fun e w' => e = .returned (.int .i64 (n - a)) ∧ ∃ k, w' = w.drewN k := by
  unfold maxLen at hn
  go_enter Try.func72, Try.ntmps72
  go_wp2
  go_quiet (fail)
  go_wp2
  go_ret
  exact ⟨rfl, _, rfl⟩

set_option maxHeartbeats 400000 in
/-- fail, where there is a fault already or no error: nothing -/
theorem fail_idle (b : Nat) (why n : Int) (w : World) (hc : w.cell? ⟨b, 2, none⟩ = some (.int .i64 why)) (h : why ≠ 0 ∨ n = 0) :
    Calls Try.prog 57 #[.pointer (some ⟨b, 0, none⟩), .int .i64 n] w fun e w' => e = .returned (.tuple #[]) ∧ w' = w := by
  by_cases h1 : why = 0
  · obtain rfl : n = 0 := by rcases h with h | h; exact absurd h1 h; exact h
    subst h1
    go_enter Try.func57, Try.ntmps57
    go_wp2_with (go_at_call 71; refine (over_any _ _ _ (by assumption)).mono ?_; rintro e w' ⟨rfl, rfl⟩)
    go_end0
    exact ⟨rfl, rfl⟩
  · have hb : (why != 0) = true := by simpa using h1
    go_enter Try.func57, Try.ntmps57
    go_wp2_with (go_at_call 71; refine (over_any _ _ _ (by assumption)).mono ?_; rintro e w' ⟨rfl, rfl⟩)
    go_end0
    exact ⟨rfl, rfl⟩

set_option maxHeartbeats 400000 in
/-- fail, where there is no fault and an error: the fault is that, at the place -/
theorem fail_sets (b : Nat) (a n : Int) (w : World) (h1 : w.cell? ⟨b, 1, none⟩ = some (.int .i64 a)) (h2 : w.cell? ⟨b, 2, none⟩ = some (.int .i64 0)) (x : Value) (h3 : w.cell? ⟨b, 3, none⟩ = some x)
    (f2 : w.frozen? ⟨b, 2, none⟩ = false) (f3 : w.frozen? ⟨b, 3, none⟩ = false) (hn : n ≠ 0) :
    Calls Try.prog 57 #[.pointer (some ⟨b, 0, none⟩), .int .i64 n] w fun e w' => e = .returned (.tuple #[]) ∧ w' = (w.setCell ⟨b, 2, none⟩ (.int .i64 n)).setCell ⟨b, 3, none⟩ (.int .i64 a) := by
  have hb : (n != 0) = true := by simpa using hn
  go_enter Try.func57, Try.ntmps57
  go_wp2_with (first
    | (go_at_call 71; refine (over_any _ _ _ (by assumption)).mono ?_; rintro e w' ⟨rfl, rfl⟩)
    | (go_at_call 58; refine (pat_any _ _ _ (by assumption)).mono ?_; rintro e w' ⟨rfl, rfl⟩))
  go_end0
  exact ⟨rfl, rfl⟩

end Go.Proofs.Ytjinkahlfigdcaa

/- What mayRead does over a reader that NewReader gave: with no bounds, one, or two. -/
namespace Go.Proofs.Ytjinkahlfigdcaa
open Go.RowKit

set_option maxHeartbeats 400000 in
theorem may_none (b : Nat) (why : Int) (w : World) (hc : w.cell? ⟨b, 2, none⟩ = some (.int .i64 why)) :
    Calls Try.prog 55 #[.pointer (some ⟨b, 0, none⟩), .slice none 0 0] w fun e w' => e = .returned (.bool (!(why != 0))) ∧ w' = w := by
  go_enter Try.func55, Try.ntmps55
  go_wp2
  go_loop [9] (fun i => i = .int .i64 0) (fun _ => 0)
  case atStart => rfl
  case round =>
    subst hrel
    go_wp2_with (go_at_call 71; refine (over_any _ _ _ (by assumption)).mono ?_; rintro e w' ⟨rfl, rfl⟩)
    go_ret
    exact ⟨rfl, rfl⟩

set_option maxHeartbeats 400000 in
/-- nothing is wrong with the bounds, or there is a fault already -/
theorem may_ok (b c n : Nat) (why : Int) (zs : Nat → Int) (w : World) (hn : n ≤ 2) (hc : w.cell? ⟨b, 2, none⟩ = some (.int .i64 why))
    (hz : ∀ i : Nat, i < n → w.cell? ⟨c, i, none⟩ = some (.int .i64 (zs i))) (hok : why ≠ 0 ∨ ∀ i : Nat, i < n → 0 ≤ zs i) :
    Calls Try.prog 55 #[.pointer (some ⟨b, 0, none⟩), .slice (some ⟨c, 0, none⟩) n n] w fun e w' => e = .returned (.bool (!(why != 0))) ∧ w' = w := by
  have HZ : Hid (∀ i : Nat, i < n → w.cell? ⟨c, i, none⟩ = some (.int .i64 (zs i))) := hz
  have HOK : Hid (why ≠ 0 ∨ ∀ i : Nat, i < n → 0 ≤ zs i) := hok
  clear hz hok
  go_enter Try.func55, Try.ntmps55
  go_wp2
  go_loop [9] (fun i => ∃ k : Nat, k ≤ n ∧ i = .int .i64 k) (fun i => n - (intOf i).toNat)
  case atStart => exact ⟨0, Nat.zero_le _, rfl⟩
  case round =>
    obtain ⟨k, hk, rfl⟩ := hrel
    by_cases hlt : k < n
    · have hzk := HZ.out k hlt
      have HN : Hid (zs k < 0 → why ≠ 0 ∨ (1 : Int) = 0) := fun hneg => HOK.out.elim Or.inl (fun h => absurd (h k hlt) (by omega))
      generalize zs k = z at *
      by_cases hneg : z < 0
      all_goals
        go_wp2_with (go_at_call 57; refine (fail_idle _ _ _ _ (by assumption) (HN.out hneg)).mono ?_; rintro e w' ⟨rfl, rfl⟩)
        go_round
        case rel => exact ⟨k + 1, by omega, by go_num⟩
        case measure => simp [intOf]; omega
    · go_wp2_with (go_at_call 71; refine (over_any _ _ _ (by assumption)).mono ?_; rintro e w' ⟨rfl, rfl⟩)
      go_ret
      exact ⟨rfl, rfl⟩

set_option maxHeartbeats 400000 in
/-- a bound is below 0, and there is no fault yet: ErrArg, at the place -/
theorem may_bad (b c n : Nat) (a : Int) (zs : Nat → Int) (x : Value) (w : World) (hn : n ≤ 2) (hbc : c ≠ b) (h1 : w.cell? ⟨b, 1, none⟩ = some (.int .i64 a)) (h2 : w.cell? ⟨b, 2, none⟩ = some (.int .i64 0)) (h3 : w.cell? ⟨b, 3, none⟩ = some x)
    (f2 : w.frozen? ⟨b, 2, none⟩ = false) (f3 : w.frozen? ⟨b, 3, none⟩ = false)
    (hz : ∀ i : Nat, i < n → w.cell? ⟨c, i, none⟩ = some (.int .i64 (zs i))) (hbad : ∃ i : Nat, i < n ∧ zs i < 0) :
    Calls Try.prog 55 #[.pointer (some ⟨b, 0, none⟩), .slice (some ⟨c, 0, none⟩) n n] w fun e w' => e = .returned (.bool false) ∧ w' = (w.setCell ⟨b, 2, none⟩ (.int .i64 1)).setCell ⟨b, 3, none⟩ (.int .i64 a) := by
  have HW : ∃ w1, Hid (w1 = (w.setCell ⟨b, 2, none⟩ (.int .i64 1)).setCell ⟨b, 3, none⟩ (.int .i64 a)) := ⟨_, rfl⟩
  obtain ⟨w1, HW⟩ := HW
  have g2 : w1.cell? ⟨b, 2, none⟩ = some (.int .i64 1) := by rw [HW.out]; go_simp
  have HZ : Hid (∀ i : Nat, i < n → w.cell? ⟨c, i, none⟩ = some (.int .i64 (zs i))) := hz
  have HZ1 : Hid (∀ i : Nat, i < n → w1.cell? ⟨c, i, none⟩ = some (.int .i64 (zs i))) := fun i hi => by
    have e : w1.cell? ⟨c, i, none⟩ = w.cell? ⟨c, i, none⟩ := by
      rw [HW.out]
      exact (World.cell?_of_block (Below.heap_setCell _ _ _ _ hbc)).trans (World.cell?_of_block (Below.heap_setCell _ _ _ _ hbc))
    rw [e]; exact hz i hi
  have HB : Hid (∃ i : Nat, i < n ∧ zs i < 0) := hbad
  clear hz hbad
  go_enter Try.func55, Try.ntmps55
  go_wp2
  go_loopw [9] (fun i wr => ∃ k : Nat, k ≤ n ∧ i = .int .i64 k ∧ ((wr = w ∧ ∀ i : Nat, i < k → 0 ≤ zs i) ∨ wr = w1)) (fun i _ => n - (intOf i).toNat)
  case atStart => exact ⟨0, Nat.zero_le _, rfl, Or.inl ⟨rfl, fun i hi => absurd hi (Nat.not_lt_zero _)⟩⟩
  case round =>
    obtain ⟨k, hk, rfl, ⟨rfl, hpos⟩ | rfl⟩ := hrel
    · have HP : Hid (∀ i : Nat, i < k → 0 ≤ zs i) := hpos
      clear hpos
      by_cases hlt : k < n
      · have hzk := HZ.out k hlt
        by_cases hneg : zs k < 0
        · go_wp2_with (go_at_call 57; refine (fail_sets _ _ _ _ h1 h2 _ h3 f2 f3 (by decide)).mono ?_; rintro e w' ⟨rfl, rfl⟩)
          go_roundw
          case rel => exact ⟨k + 1, by omega, by go_num, Or.inr HW.out.symm⟩
          case measure => simp [intOf]; omega
        · go_wp2_with fail
          go_roundw
          case rel =>
            refine ⟨k + 1, by omega, by go_num, Or.inl ⟨by trivial, fun i hi => ?_⟩⟩
            rcases Nat.lt_or_ge i k with h | h
            · exact HP.out i h
            · obtain rfl : i = k := by omega
              omega
          case measure => simp [intOf]; omega
      · exfalso
        obtain ⟨i, hi, hneg⟩ := HB.out
        have := HP.out i (by omega)
        omega
    · by_cases hlt : k < n
      · have hzk := HZ1.out k hlt
        by_cases hneg : zs k < 0
        all_goals
          go_wp2_with (go_at_call 57; refine (fail_idle _ _ _ _ g2 (Or.inl (by decide))).mono ?_; rintro e w' ⟨rfl, rfl⟩)
          go_roundw
          case rel => exact ⟨k + 1, by omega, by go_num, Or.inr (by trivial)⟩
          case measure => simp [intOf]; omega
      · go_wp2_with (go_at_call 71; refine (over_any _ _ _ g2).mono ?_; rintro e w' ⟨rfl, rfl⟩)
        go_ret
        exact ⟨rfl, HW.out⟩

end Go.Proofs.Ytjinkahlfigdcaa

/- NewReader, and the calls Left, At, Fault, Fail, End and Byte of a reader that NewReader gave. -/
namespace Go.Proofs.Ytjinkahlfigdcaa
open Go.RowKit

/-- behind the append: the new row is stored into the new reader -/
theorem rd_made {w w1 : World} {v : Value} {bs : List UInt8} {o : Array Value}
    (ho : o = #[.slice none 0 0, .int .i64 0, .int .i64 0, .int .i64 0, .bool true])
    (hown : OwnB w1 (w.heap.size + 1) v bs) (hg : (w.alloc (.cells o 100)).grownBy w1 none) :
    Rd (w1.setCell ⟨w.heap.size, 0, none⟩ v) w.heap.size w.heap.size v bs 0 0 0 ∧ Below w.heap.size w (w1.setCell ⟨w.heap.size, 0, none⟩ v) := by
  subst ho
  have hne : v.ownBlock ≠ some w.heap.size := fun e => by have := (hown.lt _ e).1; omega
  have hblk : w1.heap[w.heap.size]? = some (.cells #[.slice none 0 0, .int .i64 0, .int .i64 0, .int .i64 0, .bool true] 100 (0, 0)) :=
    (hg.block w.heap.size (by simp) (by simp)).trans (heap_alloc_new w _)
  refine ⟨⟨Nat.le_refl _, blk_set hblk _, (hown.kept (gb_set _ _ _) (Or.inr hne)).le (by omega), hne, Nat.zero_le _⟩, ?_⟩
  exact (((below_walk w _).grown hg (by simp) (by simp))).setCell (Nat.le_refl _) _

set_option maxHeartbeats 400000 in
theorem newReader_any (v0 : Value) (bs : List UInt8) (w : World) (hs : Src w v0 bs) :
    Calls Try.prog 34 #[v0] w fun e w' => ∃ b v, e = .returned (.pointer (some ⟨b, 0, none⟩)) ∧ Rd w' w.heap.size b v bs 0 0 0 ∧ Below w.heap.size w w' := by
  obtain ⟨i0, hi, hz0, hz1, hz2⟩ := info_parts Try.infoU8
  obtain ⟨hl, ⟨rfl, rfl⟩ | ⟨ad, cap, rfl, h1, h2, hlt, hc⟩⟩ := hs
  · go_enter Try.func34, Try.ntmps34
    go_wp2_with (at_builtin; refine wpList_append_own_none rfl _ _ 30 rfl (w.heap.size + 1) 5 i0 1 Try.underlying30 hi _ _ _ rfl (World.ownsRow_nil _ _ _ _) rfl ?_)
    go_ret
    exact ⟨_, _, rfl, ⟨Nat.le_refl _, heap_alloc_new w _, OwnB.nil _ _, by simp [Value.ownBlock], Nat.le_refl _⟩, below_walk _ _⟩
  · have HC : Hid (∀ j : Nat, j < bs.length → w.cell? (ad.add j) = some (.int .u8 (bs.getD j 0).toNat)) := hc
    clear hc
    have hsrc : ∀ (o : Obj) (j : Nat) (u : Value), (bytesV bs)[j]? = some u → (w.alloc o).cell? (ad.add j) = some u := by
      intro o j u hj
      rw [bytesV_get] at hj
      have hjl : j < bs.length := by
        rcases Nat.lt_or_ge j bs.length with h | h
        · exact h
        · rw [List.getElem?_eq_none h] at hj; cases hj
      rw [(below_walk w o).cell (p := ad.add j) (by rw [addr_block]; exact hlt (by omega)), HC.out j hjl, ← hj]
      simp [List.getElem?_eq_getElem hjl, List.getD_eq_getElem?_getD]
    have HS : Hid (∀ (o : Obj) (j : Nat) (u : Value), (bytesV bs)[j]? = some u → (w.alloc o).cell? (ad.add j) = some u) := hsrc
    clear hsrc
    go_enter Try.func34, Try.ntmps34
    go_wp2_with (at_builtin; refine wpList_append_own _ rfl _ _ 30 rfl (w.heap.size + 1) 5 i0 (.int .u8 0) 1 1 Try.underlying30 hi hz0 hz1 hz2 rfl (by decide) _ _ _ rfl (World.ownsRow_nil _ _ _ _) ad bs.length cap (bytesV bs) rfl (by simp [bytesV]) (HS.out _) (bytesV_one bs) ?c3 ?c4 ?c5 ?_)
    case c3 => unfold maxLen; omega
    case c4 => omega
    case c5 => simp
    intro v' w1 hown' hgrow _
    have hown : OwnB w1 (w.heap.size + 1) v' bs := hown'
    have R := rd_made rfl hown hgrow
    have HR : Hid (Rd (w1.setCell ⟨w.heap.size, 0, none⟩ v') w.heap.size w.heap.size v' bs 0 0 0 ∧ Below w.heap.size w (w1.setCell ⟨w.heap.size, 0, none⟩ v')) := R
    clear R
    have hblk : w1.heap[w.heap.size]? = some (.cells #[.slice none 0 0, .int .i64 0, .int .i64 0, .int .i64 0, .bool true] 100 (0, 0)) :=
      (hgrow.block w.heap.size (by simp) (by simp [Value.ownBlock])).trans (heap_alloc_new w _)
    have hcell : w1.cell? ⟨w.heap.size, 0, none⟩ = some (.slice none 0 0) := by simp [World.cell?, hblk]
    have hfroz : w1.frozen? ⟨w.heap.size, 0, none⟩ = false := by simp [World.frozen?, hblk]
    obtain ⟨a', c', hv'⟩ := hown.shape
    clear hown hown' hgrow hblk HS HC
    subst hv'
    go_wp2
    go_ret
    exact ⟨_, _, rfl, HR.out.1, HR.out.2⟩

section

variable (base b : Nat) (v : Value) (bs : List UInt8) (a : Nat) (why wat : Int) (w : World)


set_option maxHeartbeats 400000 in
theorem rat_any (h : Rd w base b v bs a why wat) :
    Calls Try.prog 37 #[.pointer (some ⟨b, 0, none⟩)] w fun e w' => e = .returned (.int .i64 a) ∧ w' = w := by
  have h4 := h.c4
  have h1 := h.c1
  clear h
  go_enter Try.func37, Try.ntmps37
  go_wp2_with (first
    | (go_at_call 54; refine (own_made _ _ h4).mono ?_; rintro e w' ⟨rfl, rfl⟩)
    | (go_at_call 58; refine (pat_any _ _ _ h1).mono ?_; rintro e w' ⟨rfl, rfl⟩))
  go_ret
  exact ⟨rfl, rfl⟩

set_option maxHeartbeats 400000 in
theorem rfault_any (h : Rd w base b v bs a why wat) :
    Calls Try.prog 36 #[.pointer (some ⟨b, 0, none⟩)] w fun e w' => e = .returned (.agg #[.int .i64 why, .int .i64 wat]) ∧ Below w.heap.size w w' := by
  have hb := h.below (below_walk w (.cells #[.int .i64 0, .int .i64 0] 47))
  have h4 := hb.c4
  have h2 := hb.c2
  have h3 := hb.c3
  clear hb
  have hlt := h.lt
  clear h
  go_enter Try.func36, Try.ntmps36
  go_wp2_with (first
    | (go_at_call 54; refine (own_made _ _ h4).mono ?_; rintro e w' ⟨rfl, rfl⟩))
  exact bodyPost_ret (v := .agg #[.int .i64 why, .int .i64 wat]) (by simp [results, Try.results36, go_sem]) rfl ⟨rfl, below_walk _ _⟩

end

end Go.Proofs.Ytjinkahlfigdcaa

/- The calls Fail, End and Byte of a reader that NewReader gave. -/
namespace Go.Proofs.Ytjinkahlfigdcaa
open Go.RowKit

section

variable (base b : Nat) (v : Value) (bs : List UInt8) (a : Nat) (why wat : Int) (w : World)


/-- fail over a reader: the first error stays -/
theorem wfail_any (n : Int) (h : Rd w base b v bs a why wat) :
    Calls Try.prog 57 #[.pointer (some ⟨b, 0, none⟩), .int .i64 n] w fun e w' => e = .returned (.tuple #[]) ∧
      Rd w' base b v bs a (if why = 0 then n else why) (if why = 0 ∧ n ≠ 0 then a else wat) ∧ w.grownBy w' (some b) := by
  by_cases h1 : why ≠ 0 ∨ n = 0
  · refine (fail_idle b why n w h.c2 h1).mono ?_
    rintro e w' ⟨rfl, rfl⟩
    refine ⟨rfl, ?_, gb_refl _ _⟩
    rcases h1 with h1 | rfl
    · simpa [h1] using h
    · by_cases h0 : why = 0
      · subst h0; simpa using h
      · simpa [h0] using h
  · obtain ⟨h0, hn⟩ : why = 0 ∧ n ≠ 0 := by
      constructor
      · exact Classical.byContradiction fun e => h1 (Or.inl e)
      · exact fun e => h1 (Or.inr e)
    subst h0
    refine (fail_sets b a n w h.c1 h.c2 _ h.c3 (h.fz _) (h.fz _) hn).mono ?_
    rintro e w' ⟨rfl, rfl⟩
    refine ⟨rfl, ?_, gb_trans (gb_set _ _ _) (gb_set _ _ _)⟩
    simpa [hn] using h.setFault n a

set_option maxHeartbeats 400000 in
theorem rfail_any (n : Int) (h : Rd w base b v bs a why wat) :
    Calls Try.prog 69 #[.pointer (some ⟨b, 0, none⟩), .int .i64 n] w fun e w' => e = .returned (.tuple #[]) ∧
      Rd w' base b v bs a (if why = 0 then n else why) (if why = 0 ∧ n ≠ 0 then a else wat) ∧ w.grownBy w' (some b) := by
  have h4 := h.c4
  have HC : Hid _ := (wfail_any _ _ _ _ _ _ _ _ n h)
  clear h
  generalize (if why = 0 then n else why) = why' at *
  generalize (if why = 0 ∧ n ≠ 0 then (a : Int) else wat) = wat' at *
  go_enter Try.func69, Try.ntmps69
  go_wp2_with fail
  refine (own_made _ _ h4).mono ?_
  rintro e w' ⟨rfl, rfl⟩
  go_wp2_with fail
  refine Calls.mono HC.out ?_
  rintro e w' ⟨rfl, hR, hg⟩
  go_wp2
  go_end0
  exact ⟨rfl, hR, hg⟩

set_option maxHeartbeats 400000 in
/-- End where bytes are left and there is no fault -/
theorem rend_more (h : Rd w base b v bs a 0 wat) (hlt : a < bs.length) :
    Calls Try.prog 70 #[.pointer (some ⟨b, 0, none⟩)] w fun e w' => e = .returned (.agg #[.int .i64 6, .int .i64 a]) ∧ Rd w' base b v bs a 6 a ∧ w.grownBy w' (some b) := by
  have hlt' := h.lt
  have HV : Hid (v.ownBlock ≠ some w.heap.size) := fun e => Nat.lt_irrefl _ (h.own.lt _ e).2
  have h := h.below (below_walk w (.cells #[.int .i64 0, .int .i64 0] 47))
  have HH : Hid _ := h
  have h4 := h.c4
  have h0 := h.c0
  have h1 := h.c1
  have hl := h.own.len
  obtain ⟨ad, cap, rfl⟩ := h.own.shape
  clear h
  have hgt : (0 : Int) < (bs.length : Int) - (a : Int) := by omega
  go_enter Try.func70, Try.ntmps70
  go_wp2_with fail
  refine (own_made _ _ h4).mono ?_
  rintro e w' ⟨rfl, rfl⟩
  go_wp2_with fail
  refine (pleft_any _ _ _ _ _ _ hl (by omega) (by omega) h0 h1).mono ?_
  rintro e w' ⟨rfl, k, rfl⟩
  go_wp2_with fail
  refine (wfail_any _ _ _ _ _ _ _ _ _ (HH.out.drewN k)).mono ?_
  rintro e w' ⟨rfl, hR, hg⟩
  have hR : Rd w' base b (.slice ad bs.length cap) bs a 6 a := by simpa using hR
  have c2 := hR.c2
  have c3 := hR.c3
  have hz := hg.size
  have d0 : w'.cell? ⟨w.heap.size, 0, none⟩ = some (.int .i64 0) := by rw [World.cell?_of_block (hg.block w.heap.size (by simp) (by simp; omega))]; simp
  have d1 : w'.cell? ⟨w.heap.size, 1, none⟩ = some (.int .i64 0) := by rw [World.cell?_of_block (hg.block w.heap.size (by simp) (by simp; omega))]; simp
  have e0 : w'.frozen? ⟨w.heap.size, 0, none⟩ = false := by rw [World.frozen?_of_block (hg.block w.heap.size (by simp) (by simp; omega))]; simp
  have e1 : w'.frozen? ⟨w.heap.size, 1, none⟩ = false := by rw [World.frozen?_of_block (hg.block w.heap.size (by simp) (by simp; omega))]; simp
  have HR : Hid _ := hR
  have HG : Hid _ := hg
  clear hR hg
  go_wp2
  have K : w.grownBy ((w'.setCell ⟨w.heap.size, 0, none⟩ (.int .i64 6)).setCell ⟨w.heap.size, 1, none⟩ (.int .i64 a)) (some b) :=
    gb_then (gb_then (gb_trans (gb_trans (gb_alloc _ _ _) (gb_drewN _ _ _)) HG.out) (gb_set _ _ _) (by intro j hj; cases hj; exact Or.inl (Nat.le_refl _))) (gb_set _ _ _) (by intro j hj; cases hj; exact Or.inl (Nat.le_refl _))
  exact bodyPost_ret (v := .agg #[.int .i64 6, .int .i64 a]) (by simp [results, Try.results70, go_sem, d0, d1]) rfl ⟨rfl, (HR.out.grown (gb_set _ _ _) (by simp; omega) (Or.inr HV.out)).grown (gb_set _ _ _) (by simp; omega) (Or.inr HV.out), K⟩

set_option maxHeartbeats 400000 in
/-- End where no bytes are left, or there is a fault -/
theorem rend_idle (h : Rd w base b v bs a why wat) (hidle : why ≠ 0 ∨ a = bs.length) :
    Calls Try.prog 70 #[.pointer (some ⟨b, 0, none⟩)] w fun e w' => e = .returned (.agg #[.int .i64 why, .int .i64 wat]) ∧ Rd w' base b v bs a why wat ∧ w.grownBy w' (some b) := by
  have hlt' := h.lt
  have HV : Hid (v.ownBlock ≠ some w.heap.size) := fun e => Nat.lt_irrefl _ (h.own.lt _ e).2
  have h := h.below (below_walk w (.cells #[.int .i64 0, .int .i64 0] 47))
  have HH : Hid _ := h
  have h4 := h.c4
  have h0 := h.c0
  have h1 := h.c1
  have h2 := h.c2
  have h3 := h.c3
  have hl := h.own.len
  have hle := h.le
  obtain ⟨ad, cap, rfl⟩ := h.own.shape
  clear h
  have HI : Hid (why ≠ 0 ∨ a = bs.length) := hidle
  clear hidle
  by_cases hgt : (0 : Int) < (bs.length : Int) - (a : Int)
  · have HN : Hid (why ≠ 0) := HI.out.elim id (fun e => by omega)
    go_enter Try.func70, Try.ntmps70
    go_wp2_with fail
    refine (own_made _ _ h4).mono ?_
    rintro e w' ⟨rfl, rfl⟩
    go_wp2_with fail
    refine (pleft_any _ _ _ _ _ _ hl (by omega) (by omega) h0 h1).mono ?_
    rintro e w' ⟨rfl, k, rfl⟩
    go_wp2_with fail
    refine (fail_idle _ _ _ _ (by exact h2) (Or.inl HN.out)).mono ?_
    rintro e w' ⟨rfl, rfl⟩
    go_wp2
    have K : w.grownBy ((((w.alloc (.cells #[.int .i64 0, .int .i64 0] 47)).drewN k).setCell ⟨w.heap.size, 0, none⟩ (.int .i64 why)).setCell ⟨w.heap.size, 1, none⟩ (.int .i64 wat)) (some b) :=
      gb_then (gb_then (gb_trans (gb_alloc _ _ _) (gb_drewN _ _ _)) (gb_set _ _ _) (by intro j hj; cases hj; exact Or.inl (Nat.le_refl _))) (gb_set _ _ _) (by intro j hj; cases hj; exact Or.inl (Nat.le_refl _))
    exact bodyPost_ret (v := .agg #[.int .i64 why, .int .i64 wat]) (by simp [results, Try.results70, go_sem]) rfl ⟨rfl, ((HH.out.drewN k).grown (gb_set _ _ _) (by simp; omega) (Or.inr HV.out)).grown (gb_set _ _ _) (by simp; omega) (Or.inr HV.out), K⟩
  · go_enter Try.func70, Try.ntmps70
    go_wp2_with fail
    refine (own_made _ _ h4).mono ?_
    rintro e w' ⟨rfl, rfl⟩
    go_wp2_with fail
    refine (pleft_any _ _ _ _ _ _ hl (by omega) (by omega) h0 h1).mono ?_
    rintro e w' ⟨rfl, k, rfl⟩
    go_wp2
    have K : w.grownBy ((((w.alloc (.cells #[.int .i64 0, .int .i64 0] 47)).drewN k).setCell ⟨w.heap.size, 0, none⟩ (.int .i64 why)).setCell ⟨w.heap.size, 1, none⟩ (.int .i64 wat)) (some b) :=
      gb_then (gb_then (gb_trans (gb_alloc _ _ _) (gb_drewN _ _ _)) (gb_set _ _ _) (by intro j hj; cases hj; exact Or.inl (Nat.le_refl _))) (gb_set _ _ _) (by intro j hj; cases hj; exact Or.inl (Nat.le_refl _))
    exact bodyPost_ret (v := .agg #[.int .i64 why, .int .i64 wat]) (by simp [results, Try.results70, go_sem]) rfl ⟨rfl, ((HH.out.drewN k).grown (gb_set _ _ _) (by simp; omega) (Or.inr HV.out)).grown (gb_set _ _ _) (by simp; omega) (Or.inr HV.out), K⟩

end

end Go.Proofs.Ytjinkahlfigdcaa

/- That a reader of one byte is one: alive answers true, and only makes memory. -/
namespace Go.Proofs.Ytjinkahlfigdcaa
open Go.RowKit

theorem src_one (w : World) (x : UInt8) (n : Int) (hx : n = x.toNat) : Src (w.alloc (.cells #[.int .u8 n] 5)) (.slice (some ⟨w.heap.size, 0, none⟩) 1 1) [x] := by
  subst hx
  refine ⟨by simp, Or.inr ⟨⟨w.heap.size, 0, none⟩, 1, rfl, by simp, by unfold maxLen; omega, fun _ => by simp, fun j hj => ?_⟩⟩
  obtain rfl : j = 0 := by simpa using hj
  simp [Addr.add]

end Go.Proofs.Ytjinkahlfigdcaa

/- Short numbers, texts and lists as bytes: the plain mathematics. Nothing here speaks of the program. -/
namespace Go.Proofs.Ytjinkahlfigdcaa

/-- a short number's bytes, at most f of them -/
def snF : Nat → Nat → List UInt8
  | 0, _ => []
  | f + 1, n => if n < 128 then [n.toUInt8] else (n % 128 + 128).toUInt8 :: snF f (n / 128)
/-- a short number's bytes -/
def sn (n : Nat) : List UInt8 := snF 10 n

theorem snF_succ (f n : Nat) : snF (f + 1) n = if n < 128 then [n.toUInt8] else (n % 128 + 128).toUInt8 :: snF f (n / 128) := rfl

theorem snF_more : ∀ (f n : Nat), n < 128 ^ f → 0 < f → snF (f + 1) n = snF f n
  | 0, _, _, h => absurd h (Nat.lt_irrefl _)
  | f + 1, n, h, _ => by
    rw [snF_succ (f + 1) n, snF_succ f n]
    by_cases hn : n < 128
    · rw [if_pos hn, if_pos hn]
    · rw [if_neg hn, if_neg hn]
      have hd : n / 128 < 128 ^ f := by
        rw [Nat.pow_succ] at h
        exact Nat.div_lt_of_lt_mul (by rw [Nat.mul_comm]; exact h)
      have hf : 0 < f := by
        rcases Nat.eq_zero_or_pos f with rfl | h'
        · simp at hd; omega
        · exact h'
      rw [snF_more f (n / 128) hd hf]

theorem sn_lt {n : Nat} (h : n < 128) : sn n = [n.toUInt8] := by simp [sn, snF, h]
theorem sn_ge {n : Nat} (h : 128 ≤ n) (h2 : n < 18446744073709551616) : sn n = (n % 128 + 128).toUInt8 :: sn (n / 128) := by
  have e : snF 10 (n / 128) = snF 9 (n / 128) := snF_more 9 (n / 128) (by omega) (by omega)
  rw [sn, sn, e, snF_succ 9, if_neg (by omega)]

theorem snF_length : ∀ (f n : Nat), (snF f n).length ≤ f
  | 0, _ => by simp [snF]
  | f + 1, n => by
    rw [snF]
    split
    · simp
    · have := snF_length f (n / 128); simp; omega
theorem sn_length_le (n : Nat) : (sn n).length ≤ 10 := snF_length 10 n
theorem sn_length_pos (n : Nat) : 1 ≤ (sn n).length := by
  rw [sn, snF]
  split <;> simp

/-- how many bits a number has, and how many groups of seven -/
theorem bitLen_pos {x : Nat} (h : x ≠ 0) (hx : x < 2 ^ 64) : 1 ≤ Lib.bitLen x := by rw [Lib.bitLen_half x h hx]; omega
theorem bitLen_seven (n : Nat) (h : 128 ≤ n) (hx : n < 2 ^ 64) : Lib.bitLen n = 7 + Lib.bitLen (n / 128) := Lib.bitLen_shift 7 n h hx

theorem size_sn : ∀ (f n : Nat), f ≤ 10 → n < 128 ^ f → n < 2 ^ 64 → 0 < f → (Lib.bitLen (max n 1) + 6) / 7 = (snF f n).length
  | 0, _, _, _, _, h => absurd h (Nat.lt_irrefl _)
  | f + 1, n, hf10, h, hx, _ => by
    rw [snF]
    by_cases hn : n < 128
    · rw [if_pos hn]
      have h1 : Lib.bitLen (max n 1) ≤ 7 := Lib.bitLen_le _ 7 (by omega) (by omega)
      have h2 : 1 ≤ Lib.bitLen (max n 1) := bitLen_pos (by omega) (by omega)
      simp
      omega
    · rw [if_neg hn]
      have hd : n / 128 < 128 ^ f := by
        rw [Nat.pow_succ] at h
        exact Nat.div_lt_of_lt_mul (by rw [Nat.mul_comm]; exact h)
      have hf : 0 < f := by
        rcases Nat.eq_zero_or_pos f with rfl | h'
        · simp at hd; omega
        · exact h'
      have ih := size_sn f (n / 128) (by omega) hd (by omega) hf
      have e1 : max n 1 = n := by omega
      have e2 : max (n / 128) 1 = n / 128 := by omega
      rw [e1, bitLen_seven n (by omega) hx, List.length_cons, ← ih, e2]
      omega

/-- an odd or even number's bits: the lowest one set changes how many only of nought -/
theorem bitLen_or_one (n : Nat) (hx : n < 2 ^ 64) : Lib.bitLen (n ||| 1) = Lib.bitLen (max n 1) := by
  by_cases h : n = 0
  · subst h; rfl
  · have e : max n 1 = n := by omega
    have h1 : (n ||| 1) ≠ 0 := by
      intro e1
      have := Nat.or_eq_zero_iff.1 e1
      omega
    have h2 : (n ||| 1) < 2 ^ 64 := Nat.or_lt_two_pow hx (by decide)
    have h3 : (n ||| 1) / 2 = n / 2 := by
      have := Nat.or_div_two (a := n) (b := 1)
      simpa using this
    rw [e, Lib.bitLen_half _ h1 h2, Lib.bitLen_half _ h hx, h3]

theorem size_eq (n : Nat) (hx : n < 18446744073709551616) : (Lib.bitLen (n ||| 1) + 6) / 7 = (sn n).length := by
  rw [bitLen_or_one n hx]
  exact size_sn 10 n (by omega) (by omega) hx (by omega)

/-- a text's bytes; texts, one behind the other; a list's -/
def tx (s : ByteArray) : List UInt8 := sn s.size ++ s.data.toList
def txs (l : List ByteArray) : List UInt8 := l.flatMap tx
def ls (l : List ByteArray) : List UInt8 := sn l.length ++ txs l
theorem txs_nil : txs [] = [] := rfl
theorem txs_append (a b : List ByteArray) : txs (a ++ b) = txs a ++ txs b := by simp [txs]
theorem txs_one (s : ByteArray) : txs [s] = tx s := by simp [txs]
theorem tx_length (s : ByteArray) : (tx s).length = (sn s.size).length + s.size := by simp [tx]

/-- the number that stands for a number with a sign -/
def zz (n : Int) : Nat := if n < 0 then (-2 * n - 1).toNat else (2 * n).toNat

end Go.Proofs.Ytjinkahlfigdcaa

/- append of bytes or of a text's bytes behind bytes of the call's own, as one law each; string(bytes). -/
namespace Go.Proofs.Ytjinkahlfigdcaa
open Go.RowKit






set_option maxHeartbeats 400000 in
/-- bytes.Equal of the same bytes -/
theorem equal_true (va vb : Value) (bs : List UInt8) (w : World) (ha : Src w va bs) (hb : Src w vb bs) :
    Calls Try.prog 12 #[va, vb] w fun e w' => e = .returned (.bool true) ∧ w' = w := by
  have h1 := run_str ha
  have h2 := run_str hb
  clear ha hb
  generalize (⟨bs.toArray⟩ : ByteArray) = s at *
  go_enter Try.func12, Try.ntmps12
  go_wp2
  go_ret
  exact ⟨by simp, rfl⟩

end Go.Proofs.Ytjinkahlfigdcaa

/- math/bits.Len64 answers how many bits its number has. -/
namespace Go.Proofs.Ytjinkahlfigdcaa
open Go.RowKit

theorem ret_i64 {a b : Int} (h : a = b) : Ending.returned (.int .i64 a) = .returned (.int .i64 b) := by rw [h]

theorem wrap64_id {a : Int} (h0 : -9223372036854775808 ≤ a) (h1 : a ≤ 9223372036854775807) : wrap64 a = a := by
  unfold wrap64
  omega

/-- one way through: x has k bits more than the byte that is looked up -/
theorem len_way (k : Nat) (x i : Int) (hk : k ≤ 56) (h0 : 0 ≤ x) (h1 : x ≤ 18446744073709551615) (hi0 : 0 ≤ i) (hi1 : i ≤ 255) (he : i.toNat = x.toNat / 2 ^ k) (hx : k = 0 ∨ 2 ^ k ≤ x.toNat) (hb : i.toNat < Lib.len8tab.size) :
    wrap64 ((k : Int) + wrap64 ((Lib.len8tab[i.toNat]'hb).toNat : Int)) = (Lib.bitLen x.toNat : Int) := by
  have e1 : ((Lib.len8tab[i.toNat]'hb).toNat : Int) = Lib.bitLen i.toNat := by
    rw [← Lib.len8_of i hi0 hi1]
    simp [Lib.len8, ByteArray.getElem?_lt' _ _ hb]
  have e2 := Lib.bitLen_le8' i hi0 hi1
  have e3 : Lib.bitLen x.toNat = k + Lib.bitLen i.toNat := by
    rw [he]
    rcases hx with rfl | hx
    · simp
    · exact Lib.bitLen_shift k x.toNat hx (by omega)
  rw [e1, wrap64_id (a := (Lib.bitLen i.toNat : Int)) (by omega) (by omega), wrap64_id (by omega) (by omega), e3]
  omega

theorem len_way0 (x : Int) (h0 : 0 ≤ x) (hi1 : x ≤ 255) (hb : x.toNat < Lib.len8tab.size) :
    wrap64 (wrap64 ((Lib.len8tab[x.toNat]'hb).toNat : Int)) = (Lib.bitLen x.toNat : Int) := by
  have := len_way 0 x x (by omega) h0 (by omega) h0 hi1 (by simp) (Or.inl rfl) hb
  simpa using this

set_option maxHeartbeats 4000000 in
set_option maxRecDepth 100000 in
theorem len64_any (x : Int) (w : World) (h0 : 0 ≤ x) (h1 : x ≤ 18446744073709551615) :
    Calls Try.prog 50 #[.int .u64 x] w fun e w' => e = .returned (.int .i64 (Lib.bitLen x.toNat)) ∧ w' = w := by
  go_enter Try.func50, Try.ntmps50
  go_wp2
  all_goals first
    | (exfalso; rename_i h; exact h ⟨by omega, by rw [Lib.len8tab_size]; omega⟩)
    | (go_ret; refine ⟨ret_i64 ?_, rfl⟩)
  · exact len_way 56 x _ (by omega) h0 h1 (by omega) (by omega) (by omega) (Or.inr (by omega)) _
  · exact len_way 48 x _ (by omega) h0 h1 (by omega) (by omega) (by omega) (Or.inr (by omega)) _
  · exact len_way 40 x _ (by omega) h0 h1 (by omega) (by omega) (by omega) (Or.inr (by omega)) _
  · exact len_way 32 x _ (by omega) h0 h1 (by omega) (by omega) (by omega) (Or.inr (by omega)) _
  · exact len_way 24 x _ (by omega) h0 h1 (by omega) (by omega) (by omega) (Or.inr (by omega)) _
  · exact len_way 16 x _ (by omega) h0 h1 (by omega) (by omega) (by omega) (Or.inr (by omega)) _
  · exact len_way 8 x _ (by omega) h0 h1 (by omega) (by omega) (by omega) (Or.inr (by omega)) _
  · exact len_way0 x h0 (by omega) _

end Go.Proofs.Ytjinkahlfigdcaa

/- withRoom, addUint, Size, folded, and the document's Uint: what each answers. -/
namespace Go.Proofs.Ytjinkahlfigdcaa
open Go.RowKit

set_option maxHeartbeats 400000 in
theorem withRoom_any (v0 : Value) (bs : List UInt8) (m : Nat) (w : World) (hs : Src w v0 bs) (hm : bs.length + m ≤ 70368744177664) :
    Calls Try.prog 62 #[v0, .int .i64 m] w fun e w' => ∃ v, e = .returned v ∧ OwnB w' w.heap.size v bs ∧ Below w.heap.size w w' := by
  have HS : Hid (Src w v0 bs) := hs
  obtain ⟨ao, cap, rfl⟩ : ∃ ao cap, v0 = .slice ao bs.length cap := by
    obtain ⟨_, ⟨rfl, rfl⟩ | ⟨ad, cap, rfl, _⟩⟩ := hs
    · exact ⟨none, 0, rfl⟩
    · exact ⟨_, _, rfl⟩
  clear hs
  go_enter Try.func62, Try.ntmps62
  go_wp2_with (at_make; refine make_own rfl _ _ rfl _ (bs.length + m) rfl rfl ?c1 ?c2 ?_)
  case c1 => omega
  case c2 => omega
  intro v1 w1 hown hb
  have HO : Hid (OwnB w1 w.heap.size v1 []) := hown
  have HB : Hid (Below w.heap.size w w1) := hb
  clear hown hb
  go_wp2_with (at_builtin; refine app_src rfl _ _ rfl w.heap.size _ _ rfl HO.out _ _ rfl (HS.out.below HB.out) ?c1 HB.out.size ?_)
  case c1 => simp; omega
  intro v2 w2 hown2 hg
  have HO2 : Hid (OwnB w2 w.heap.size v2 bs) := (by simpa using hown2 : OwnB w2 w.heap.size v2 bs)
  have HB2 : Hid (Below w.heap.size w w2) := HB.out.grown hg HB.out.size (fun k hk => (HO.out.lt k hk).1)
  clear hown2 hg
  go_wp2
  go_ret
  exact ⟨_, rfl, HO2.out, HB2.out⟩

theorem own_alloc {w : World} {base : Nat} {v : Value} {bs : List UInt8} (h : OwnB w base v bs) (o : Obj) : OwnB (w.alloc o) base v bs := h.below (below_walk _ _)

theorem byte_of (n : Nat) : (n.toUInt8).toNat = n % 256 := by simp
theorem bits_or_128_all : ∀ a : Fin 256, bits BinOp.or IntKind.u8 (a.val : Int) 128 = ((a.val % 128 + 128 : Nat) : Int) := by decide +kernel
theorem bits_or_128 (m : Nat) : bits BinOp.or IntKind.u8 ((m : Int) % 256) 128 = ((m % 128 + 128 : Nat) : Int) := by
  have h := bits_or_128_all ⟨m % 256, Nat.mod_lt _ (by decide)⟩
  have e1 : (((⟨m % 256, Nat.mod_lt _ (by decide)⟩ : Fin 256).val : Nat) : Int) = (m : Int) % 256 := by simp
  rw [e1] at h
  rw [h]
  simp

/-- what a round of a loop that lays a number down keeps -/
structure Lays (w : World) (base : Nat) (bs : List UInt8) (wr : World) (v : Value) (m : Nat) (cs ds : List UInt8) : Prop where
  own : OwnB wr base v cs
  eq : cs ++ sn m = bs ++ ds
  lt : m < 18446744073709551616
  kept : Below base w wr
  size : base ≤ wr.heap.size

theorem Lays.cs_len {w wr : World} {base m : Nat} {bs cs ds : List UInt8} {v : Value} (h : Lays w base bs wr v m cs ds) (hd : ds.length ≤ 10) : cs.length ≤ bs.length + 9 := by
  have e := congrArg List.length h.eq
  simp at e
  have := sn_length_pos m
  omega

theorem Lays.step {w wr w1 : World} {base m : Nat} {bs cs ds : List UInt8} {v v1 : Value} (h : Lays w base bs wr v m cs ds) (hm : 128 ≤ m) (o : Obj)
    (hown : OwnB w1 base v1 (cs ++ [(m % 128 + 128).toUInt8])) (hg : (wr.alloc o).grownBy w1 v.ownBlock) : Lays w base bs w1 v1 (m / 128) (cs ++ [(m % 128 + 128).toUInt8]) ds := by
  have hk : Below base w (wr.alloc o) := h.kept.trans ((Below.refl _ _).alloc (by exact h.size) _)
  refine ⟨hown, ?_, by have := h.lt; omega, hk.grown hg (by have := h.size; simp; omega) (fun k e => (h.own.lt k e).1), ?_⟩
  · rw [← h.eq, sn_ge hm h.lt]; simp
  · have := hg.size; have := h.size; simp at *; omega

theorem Lays.last {w wr w1 : World} {base m : Nat} {bs cs ds : List UInt8} {v v1 : Value} (h : Lays w base bs wr v m cs ds) (hm : m < 128) (o : Obj)
    (hown : OwnB w1 base v1 (cs ++ [m.toUInt8])) (hg : (wr.alloc o).grownBy w1 v.ownBlock) : OwnB w1 base v1 (bs ++ ds) ∧ Below base w w1 := by
  have hk : Below base w (wr.alloc o) := h.kept.trans ((Below.refl _ _).alloc (by exact h.size) _)
  refine ⟨?_, hk.grown hg (by have := h.size; simp; omega) (fun k e => (h.own.lt k e).1)⟩
  rw [← h.eq, sn_lt hm]
  exact hown

set_option maxRecDepth 100000 in
set_option maxHeartbeats 400000 in
/-- the program's number, laid behind bytes of the call's own -/
theorem addUint_any (base : Nat) (v0 : Value) (bs : List UInt8) (n : Nat) (w : World) (hown : OwnB w base v0 bs) (hb : base ≤ w.heap.size) (hn : n < 18446744073709551616) (hl : bs.length ≤ 70368744177664) :
    Calls Try.prog 61 #[v0, .int .u64 n] w fun e w' => ∃ v, e = .returned v ∧ OwnB w' base v (bs ++ sn n) ∧ Below base w w' := by
  have HL : Hid (Lays w base bs w v0 n bs (sn n)) := ⟨hown, rfl, hn, Below.refl _ _, hb⟩
  have HD : Hid ((sn n).length ≤ 10) := sn_length_le n
  clear hown hb
  generalize sn n = ds at *
  go_enter Try.func61, Try.ntmps61
  go_wp2
  go_loopw [0, 1] (fun v x wr => ∃ (m : Nat) (cs : List UInt8), x = .int .u64 m ∧ Lays w base bs wr v m cs ds) (fun _ x _ => (intOf x).toNat)
  case atStart => exact ⟨n, bs, rfl, HL.out⟩
  case round =>
    obtain ⟨m, cs, rfl, hLr⟩ := hrel
    have HR : Hid _ := hLr
    have hm := hLr.lt
    have hcl := hLr.cs_len HD.out
    clear hLr HL
    by_cases hlt : m < 128
    · go_wp2_with (at_builtin; refine app_src rfl _ _ rfl base _ _ rfl (own_alloc HR.out.own _) _ [m.toUInt8] rfl (src_one _ _ _ ?c0) ?c1 ?c2 ?_)
      case c0 => rw [byte_of]; omega
      case c1 => simp; omega
      case c2 => have := HR.out.size; simp; omega
      intro v' w1 hown hg
      have HF := HR.out.last hlt _ hown hg
      have HF : Hid _ := HF
      clear hown hg HR
      go_wp2
      go_ret
      exact ⟨_, rfl, HF.out.1, HF.out.2⟩
    · obtain ⟨c, HC⟩ : ∃ c : UInt8, Hid (c = (m % 128 + 128).toUInt8) := ⟨_, rfl⟩
      go_wp2_with (at_builtin; refine app_src rfl _ _ rfl base _ _ rfl (own_alloc HR.out.own _) _ [c] rfl (src_one _ _ _ ?d0) ?d1 ?d2 ?_)
      case d0 => rw [HC.out, byte_of]; exact (bits_or_128 m).trans (by omega)
      case d1 => simp; omega
      case d2 => have := HR.out.size; simp; omega
      intro v' w1 hown hg
      have HF := HR.out.step (by omega) _ (HC.out ▸ hown) hg
      have HF : Hid _ := HF
      clear hown hg HR
      go_wp2
      go_roundw
      case rel => exact ⟨m / 128, _, by go_num, HF.out⟩
      case measure => simp [intOf]; omega

end Go.Proofs.Ytjinkahlfigdcaa

/- The document's Uint, the program's Size, PutUint, folded, PutInt, PutBool; the document's Int and Bool. -/
namespace Go.Proofs.Ytjinkahlfigdcaa
open Go.RowKit

set_option maxRecDepth 100000 in
set_option maxHeartbeats 400000 in
/-- the document's number -/
theorem refUint_any (n : Nat) (w : World) (hn : n < 18446744073709551616) :
    Calls Try.prog 27 #[.int .u64 n] w fun e w' => ∃ v, e = .returned v ∧ OwnB w' w.heap.size v (sn n) ∧ Below w.heap.size w w' := by
  have HL : Hid (Lays w w.heap.size [] w (.slice none 0 0) n [] (sn n)) := ⟨OwnB.nil _ _, rfl, hn, Below.refl _ _, Nat.le_refl _⟩
  have HD : Hid ((sn n).length ≤ 10) := sn_length_le n
  generalize sn n = ds at *
  go_enter Try.func27, Try.ntmps27
  go_wp2
  go_loopw [0, 3] (fun x v wr => ∃ (m : Nat) (cs : List UInt8), x = .int .u64 m ∧ Lays w w.heap.size [] wr v m cs ds) (fun x _ _ => (intOf x).toNat)
  case atStart => exact ⟨n, [], rfl, HL.out⟩
  case round =>
    obtain ⟨m, cs, rfl, hLr⟩ := hrel
    have HR : Hid _ := hLr
    have hm := hLr.lt
    have hcl := hLr.cs_len HD.out
    simp at hcl
    clear hLr HL
    by_cases hlt : m < 128
    · go_wp2_with (at_builtin; refine app_src rfl _ _ rfl w.heap.size _ _ rfl (own_alloc HR.out.own _) _ [m.toUInt8] rfl (src_one _ _ _ ?c0) ?c1 ?c2 ?_)
      case c0 => rw [byte_of]; omega
      case c1 => simp; omega
      case c2 => have := HR.out.size; simp; omega
      intro v' w1 hown hg
      have HF := HR.out.last hlt _ hown hg
      have HF : Hid _ := HF
      clear hown hg HR
      go_wp2
      go_ret
      exact ⟨_, rfl, by simpa using HF.out.1, HF.out.2⟩
    · obtain ⟨c, HC⟩ : ∃ c : UInt8, Hid (c = (m % 128 + 128).toUInt8) := ⟨_, rfl⟩
      go_wp2_with (at_builtin; refine app_src rfl _ _ rfl w.heap.size _ _ rfl (own_alloc HR.out.own _) _ [c] rfl (src_one _ _ _ ?d0) ?d1 ?d2 ?_)
      case d0 => rw [HC.out, byte_of]; omega
      case d1 => simp; omega
      case d2 => have := HR.out.size; simp; omega
      intro v' w1 hown hg
      have HF := HR.out.step (by omega) _ (HC.out ▸ hown) hg
      have HF : Hid _ := HF
      clear hown hg HR
      go_wp2
      go_roundw
      case rel => exact ⟨m / 128, _, by go_num, HF.out⟩
      case measure => simp [intOf]; omega

theorem bv_u64 (a : Nat) (ha : a < 18446744073709551616) : (BitVec.ofInt 64 (a : Int)).toNat = a := by
  rw [BitVec.ofInt_natCast, BitVec.toNat_ofNat]
  exact Nat.mod_eq_of_lt ha
theorem bits_or_u64 (a b : Nat) (ha : a < 18446744073709551616) (hb : b < 18446744073709551616) : bits BinOp.or IntKind.u64 (a : Int) (b : Int) = ((a ||| b : Nat) : Int) := by
  have hx : (a ||| b) < 18446744073709551616 := Nat.or_lt_two_pow (n := 64) ha hb
  show IntKind.u64.wrap ((BitVec.ofInt 64 (a : Int) ||| BitVec.ofInt 64 (b : Int)).toNat : Int) = _
  rw [BitVec.toNat_or, bv_u64 a ha, bv_u64 b hb, IntKind.wrap_u64]
  omega
theorem bits_or_one (n : Nat) (hn : n < 18446744073709551616) : bits BinOp.or IntKind.u64 (n : Int) 1 = ((n ||| 1 : Nat) : Int) := bits_or_u64 n 1 hn (by decide)

set_option maxHeartbeats 400000 in
theorem size_any (n : Nat) (w : World) (hn : n < 18446744073709551616) :
    Calls Try.prog 29 #[.int .u64 n] w fun e w' => e = .returned (.int .i64 (sn n).length) ∧ w' = w := by
  have hor : (n ||| 1) < 18446744073709551616 := Nat.or_lt_two_pow (n := 64) hn (by decide)
  have HB : Hid _ := bits_or_one n hn
  have HS : Hid _ := size_eq n hn
  have hl := Lib.bitLen_le (n ||| 1) 64 (by omega) hor
  go_enter Try.func29, Try.ntmps29
  go_wp2_with fail
  rw [HB.out]
  refine (len64_any _ _ (by omega) (by omega)).mono ?_
  rintro e w' ⟨rfl, rfl⟩
  rw [Int.toNat_natCast]
  go_wp2
  go_ret
  refine ⟨ret_i64 ?_, rfl⟩
  have := HS.out
  omega

set_option maxHeartbeats 400000 in
theorem putUint_any (v0 : Value) (bs : List UInt8) (n : Nat) (w : World) (hs : Src w v0 bs) (hn : n < 18446744073709551616) (hl : bs.length ≤ 1099511627776) :
    Calls Try.prog 42 #[v0, .int .u64 n] w fun e w' => ∃ v, e = .returned v ∧ OwnB w' w.heap.size v (bs ++ sn n) ∧ Below w.heap.size w w' := by
  have HS : Hid (Src w v0 bs) := hs
  have h10 := sn_length_le n
  clear hs
  go_enter Try.func42, Try.ntmps42
  go_wp2_with fail
  refine (size_any _ _ hn).mono ?_
  rintro e w' ⟨rfl, rfl⟩
  go_wp2_with fail
  refine (withRoom_any _ _ _ _ HS.out (by omega)).mono ?_
  rintro e w1 ⟨v1, rfl, ho, hb⟩
  have HO : Hid _ := ho
  have HB : Hid _ := hb
  clear ho hb
  go_wp2_with fail
  refine (addUint_any _ _ _ _ _ HO.out HB.out.size hn (by omega)).mono ?_
  rintro e w2 ⟨v2, rfl, ho, hb⟩
  go_wp2
  go_ret
  exact ⟨_, rfl, ho, HB.out.trans hb⟩

theorem even_or_one (k : Nat) : (2 * k ||| 1) = 2 * k + 1 := by
  have h1 : (2 * k ||| 1) / 2 = k := by
    have := Nat.or_div_two (a := 2 * k) (b := 1)
    simpa using this
  have h2 : (2 * k ||| 1) % 2 = 1 := Nat.or_mod_two_eq_one.2 (Or.inr rfl)
  omega
theorem bits_xor_max (a : Nat) (ha : a < 18446744073709551616) : bits BinOp.xor IntKind.u64 IntKind.u64.max (a : Int) = ((18446744073709551615 - a : Nat) : Int) := by
  have hx : BitVec.ofInt 64 IntKind.u64.max = BitVec.allOnes 64 := by decide +kernel
  show IntKind.u64.wrap ((BitVec.ofInt 64 IntKind.u64.max ^^^ BitVec.ofInt 64 (a : Int)).toNat : Int) = _
  rw [hx, BitVec.allOnes_xor, BitVec.toNat_not, bv_u64 a ha, IntKind.wrap_u64]
  omega
theorem folded_neg (n : Int) (h0 : -9223372036854775808 ≤ n) (hneg : n < 0) :
    bits BinOp.or IntKind.u64 (IntKind.u64.wrap (bits BinOp.xor IntKind.u64 IntKind.u64.max (IntKind.u64.wrap n) * 2)) 1 = (zz n : Int) := by
  obtain ⟨k, hk⟩ : ∃ k : Nat, n = -(k : Int) - 1 := ⟨(-n - 1).toNat, by omega⟩
  have e1 : IntKind.u64.wrap n = ((18446744073709551615 - k : Nat) : Int) := by rw [IntKind.wrap_u64]; omega
  have e2 : IntKind.u64.wrap (((18446744073709551615 - (18446744073709551615 - k) : Nat) : Int) * 2) = ((2 * k : Nat) : Int) := by rw [IntKind.wrap_u64]; omega
  rw [e1, bits_xor_max _ (by omega), e2, bits_or_one _ (by omega), even_or_one]
  unfold zz
  rw [if_pos hneg]
  omega
theorem zz_pos {n : Int} (h : ¬ n < 0) : (zz n : Int) = 2 * n := by unfold zz; rw [if_neg h]; omega
theorem zz_neg {n : Int} (h : n < 0) : (zz n : Int) = 2 * -(n + 1) + 1 := by unfold zz; rw [if_pos h]; omega
theorem zz_lt {n : Int} (h0 : -9223372036854775808 ≤ n) (h1 : n ≤ 9223372036854775807) : zz n < 18446744073709551616 := by unfold zz; split <;> omega

theorem ret_u64 {a b : Int} (h : a = b) : Ending.returned (.int .u64 a) = .returned (.int .u64 b) := by rw [h]

end Go.Proofs.Ytjinkahlfigdcaa

/- A region that draws its order, whose operations read, and whose callees may make memory: walked once. -/
namespace Go.Proofs.Ytjinkahlfigdcaa
open Go.RowKit

/-- a world in which all that was there is as it was -/
structure Bel (w : World) where
  out : World
  bel : Below w.heap.size w out
theorem bel_some (w : World) : Nonempty (Bel w) := ⟨⟨w, Below.refl _ _⟩⟩
theorem wp_region_quiet_bel {P : Program} {id : Nat} {Q : Exit → Act → World → Prop} {a : Act} {w : World} {l : List Oper} (hm : P.follows .mixedOrders = true) (hB : Region.lexB .any l.toArray = true)
    (h : wpQuiet P l.toArray (fun w' => ∃ p : Bel w, w' = p.out) (fun a' => ∀ w', (∃ p : Bel w, w' = p.out) → Q .normal a' w') l a) : (Code.region id l.toArray true).wp P Q a w :=
  wp_region_quiet (C := fun w' => ∃ p : Bel w, w' = p.out) hm hB ⟨⟨{ w with drawn := w.drawn + 1 }, ⟨rfl, rfl, rfl, Nat.le_refl _, fun _ _ => rfl⟩⟩, rfl⟩ (by simpa using h)
theorem Bel.cell {w : World} (p : Bel w) {b o : Nat} {v : Value} (h : w.cell? ⟨b, o, none⟩ = some v) (hb : b < w.heap.size) : p.out.cell? ⟨b, o, none⟩ = some v := (p.bel.cell (p := ⟨b, o, none⟩) hb).trans h
/-- a callee's contract, met in a world of the class -/
theorem bel_of {P : Program} {f : FuncId} {args : Array Value} {w : World} {p : Bel w} {v : Value}
    (h : Calls P f args p.out fun e w' => e = .returned v ∧ Below p.out.heap.size p.out w') : Calls P f args p.out fun e w'' => e = .returned v ∧ ∃ p' : Bel w, w'' = p'.out :=
  h.mono fun _ w' ⟨he, hb⟩ => ⟨he, ⟨w', p.bel.trans (hb.mono p.bel.size)⟩, rfl⟩
theorem bel_drew {P : Program} {f : FuncId} {args : Array Value} {w : World} {p : Bel w} {v : Value}
    (h : Calls P f args p.out fun e w' => e = .returned v ∧ ∃ n, w' = p.out.drewN n) : Calls P f args p.out fun e w'' => e = .returned v ∧ ∃ p' : Bel w, w'' = p'.out :=
  h.mono fun _ w' ⟨he, n, hw⟩ => ⟨he, ⟨w', by rw [hw]; exact ⟨p.bel.os, p.bel.tape, p.bel.output, p.bel.size, p.bel.block⟩⟩, rfl⟩
theorem bel_same {P : Program} {f : FuncId} {args : Array Value} {w : World} {p : Bel w} {v : Value}
    (h : Calls P f args p.out fun e w' => e = .returned v ∧ w' = p.out) : Calls P f args p.out fun e w'' => e = .returned v ∧ ∃ p' : Bel w, w'' = p'.out :=
  h.mono fun _ _ ⟨he, hw⟩ => ⟨he, p, hw⟩

end Go.Proofs.Ytjinkahlfigdcaa

/- Toward Same: loads, and equality of what a frame holds. -/
namespace Go.Proofs.Ytjinkahlfigdcaa
open Go.RowKit

theorem limG : Try.prog.eqGuardType Try.prog.depth 26 = false := by kernel_rfl
theorem digG : Try.prog.eqGuardType Try.prog.depth 24 = false := by kernel_rfl
theorem ld_gd {P : Program} {w : World} {ops : Array Oper} {rest : List Oper} {o : Oper} {a : Act} {Q : Exit → Act → World → Prop} (hw : Region.wanted o (yielded ops a.tmps) = true) (ty : TypeId) (x : Operand) (ho : o.op = .load ty x)
    (b off : Nat) (hx : a.eval x = .pointer (some ⟨b, off, none⟩)) (cs : List Value) (d : TypeDesc) (hc : w.rangeAt b off cs)
    (hu : P.underlying ty = some d) (hd : d.isRow = true) (hi : (P.info? ty).map (·.size) = some cs.length)
    (h : wpList P ops Q rest (a.put o.dst (.agg cs.toArray)) w) : wpList P ops Q (o :: rest) a w := by
  unfold wpList
  rw [if_pos hw]
  exact Or.inl (wp_load_mid ty x ho b off hx cs d hc hu hd hi h)
theorem hp_two (w : World) (o p : Obj) : ((w.alloc o).alloc p).heap[w.heap.size]? = some o ∧ ((w.alloc o).alloc p).heap[w.heap.size + 1]? = some p := by
  constructor
  · rw [Below.heap_alloc (w.alloc o) p w.heap.size (by simp)]; exact hp_new w o
  · have := hp_new (w.alloc o) p
    simpa using this

end Go.Proofs.Ytjinkahlfigdcaa

/- A row among the operations of a region that draws its order, whose callees may make memory. -/
namespace Go.Proofs.Ytjinkahlfigdcaa
open Go.RowKit

theorem quiet_ld {P : Program} {a : Act} {o : Oper} {C : World → Prop} {K : Act → Prop} (ty : TypeId) (x : Operand) (ho : o.op = .load ty x) (b off : Nat) (hx : a.eval x = .pointer (some ⟨b, off, none⟩)) (cs : List Value) (d : TypeDesc) (hc : ∀ w, C w → w.rangeAt b off cs)
    (hu : P.underlying ty = some d) (hd : d.isRow = true) (hi : (P.info? ty).map (·.size) = some cs.length) (hk : K (a.put o.dst (.agg cs.toArray))) : o.quiet P a C K :=
  ⟨_, fun w hw => by
    unfold Oper.quietAt execOp
    simp only [ho, hx, Instr.loadAt, Instr.sureAddr, Sem.run_bind, Sem.run_pure, Result.andThen_ok, run_loadVar_mid w b off ty cs d (hc w hw) hu hd hi]
    exact ⟨rfl, rfl⟩, hk⟩
theorem Bel.range {w : World} {b off : Nat} {cs : List Value} (h : w.rangeAt b off cs) (hb : b < w.heap.size) : ∀ w', (∃ p : Bel w, w' = p.out) → w'.rangeAt b off cs := by
  rintro w' ⟨p, rfl⟩ j v hv
  exact p.cell (h j v hv) hb
theorem range_row {w : World} {b : Nat} {cs : List Value} {t : TypeId} (h : w.heap[b]? = some (.cells cs.toArray t (0, 0))) : w.rangeAt b 0 cs := fun j v hv => by
  rw [Nat.zero_add, cell_of_row w b j cs.toArray t (0, 0) h]
  simpa using hv
theorem frame_size (f : Fr) (va : Value) (h : f.tool.length = 32) : (Try.prog.info? 29).map (·.size) = some (fcells f va).length := by rw [fcells_length f va h]; kernel_rfl
end Go.Proofs.Ytjinkahlfigdcaa

/- An answer that is a whole row in a variable. -/
namespace Go.Proofs.Ytjinkahlfigdcaa
open Go.RowKit
variable {P : Program}

theorem results_cell {fn : Func} {p : Tmp} {ty : TypeId} (h : fn.results = #[.cell p ty]) (tmps : Array Value) (P : Program) (w : World) :
    (results fn tmps).run P w = ((asAddr (tmps.getD p undef)).run P w).andThen fun a w₁ => (loadVar ty a).run P w₁ := by
  simp only [results, h]
  simp [Sem.run_bind, Result.andThen]

/-- the answer is a whole row that lies in a variable -/
theorem ret_row {fn : Func} {R : Ending → World → Prop} {a : Act} {w : World} (p : Tmp) (ty : TypeId) (h : fn.results = #[.cell p ty]) (g : Nat) (hp : a.tmps.getD p undef = .pointer (some ⟨g, 0, none⟩))
    (cs : List Value) (t : TypeId) (hb : w.heap[g]? = some (.cells cs.toArray t (0, 0))) (d : TypeDesc) (hu : P.underlying ty = some d) (hd : d.isRow = true) (hi : (P.info? ty).map (·.size) = some cs.length)
    (hdf : a.defers = []) (hR : R (.returned (.agg cs.toArray)) w) : bodyPost P fn R .ret a w := by
  refine bodyPost_ret (v := .agg cs.toArray) ?_ hdf hR
  rw [results_cell h, hp]
  have := run_loadVar_mid (P := P) w g 0 ty cs d (fun j v hv => by rw [Nat.zero_add, cell_of_row w g j cs.toArray t (0, 0) hb]; simpa using hv) hu hd hi
  simp [asAddr, this]

end Go.Proofs.Ytjinkahlfigdcaa

/- Whole arrays and structs out of a block and into it; an answer that lies in a variable. -/
namespace Go.Proofs.Ytjinkahlfigdcaa
open Go.RowKit

section
variable {P : Program}

/-- a whole row is read -/
theorem ld_row {w : World} {ops : Array Oper} {rest : List Oper} {op : Oper} {a : Act} {Q : Exit → Act → World → Prop} (hgd : op.guard = none) (ty : TypeId) (x : Operand) (ho : op.op = .load ty x)
    (g : Nat) (hx : a.eval x = .pointer (some ⟨g, 0, none⟩)) (cs : List Value) (t : TypeId) (hb : w.heap[g]? = some (.cells cs.toArray t (0, 0))) (d : TypeDesc)
    (hu : P.underlying ty = some d) (hd : d.isRow = true) (hi : (P.info? ty).map (·.size) = some cs.length)
    (h : wpList P ops Q rest (a.put op.dst (.agg cs.toArray)) w) : wpList P ops Q (op :: rest) a w :=
  wpList_load_mid hgd ty x ho g 0 hx cs d (fun j v hv => by rw [Nat.zero_add, cell_of_row w g j cs.toArray t (0, 0) hb]; simpa using hv) hu hd hi h

/-- the world behind a whole row's store -/
structure RowSet (w w' : World) (g : Nat) (cs : List Value) (t : TypeId) : Prop where
  blk : w'.heap[g]? = some (.cells cs.toArray t (0, 0))
  grown : w.grownBy w' (some g)
  size : w'.heap.size = w.heap.size

theorem rowSet (w : World) (g : Nat) (cs : List Value) (t : TypeId) (old : Array Value) (hg : w.heap[g]? = some (.cells old t (0, 0))) : RowSet w (w.setRow g cs.toArray) g cs t := by
  refine ⟨?_, ⟨rfl, rfl, rfl, ?_, ?_⟩, ?_⟩
  · simp [World.setRow, Array.getElem?_modify, hg]
  · simp [World.setRow]
  · intro i hi hne
    have : g ≠ i := fun e => hne (by rw [e])
    simp [World.setRow, Array.getElem?_modify, this]
  · simp [World.setRow]

/-- a whole row is written -/
theorem st_row {w : World} {ops : Array Oper} {rest : List Oper} {o : Oper} {a : Act} {Q : Exit → Act → World → Prop} (hgd : o.guard = none) (ty : TypeId) (x y : Operand) (ho : o.op = .store ty x y)
    (g : Nat) (cs : List Value) (hx : a.eval x = .pointer (some ⟨g, 0, none⟩)) (hy : a.eval y = .agg cs.toArray)
    (t : TypeId) (old : Array Value) (hg : w.heap[g]? = some (.cells old t (0, 0))) (hi : (P.info? ty).map (·.size) = some cs.length)
    (hold : old.size = cs.length) (h1 : ∀ v ∈ cs, v.oneCell' = true)
    (h : ∀ w', RowSet w w' g cs t → wpList P ops Q rest (a.put o.dst undef) w') : wpList P ops Q (o :: rest) a w :=
  wpList_store_row hgd ty x y ho g cs.toArray hx hy t old hg (by simpa using hi) (by simpa using hold) (all_oneCell_toArray h1) (h _ (rowSet w g cs t old hg))

/-- a new variable -/
theorem al_row {w : World} {ops : Array Oper} {rest : List Oper} {o : Oper} {a : Act} {Q : Exit → Act → World → Prop} (hgd : o.guard = none) (ty : TypeId) (ho : o.op = .alloc ty)
    (cs : Array Value) (hz : ∀ w, (zeroValue ty).run P w = .ok (.agg cs) w)
    (h : wpList P ops Q rest (a.put o.dst (.pointer (some ⟨w.heap.size, 0, none⟩))) (w.alloc (.cells cs ty))) : wpList P ops Q (o :: rest) a w := by
  refine wpList_plain hgd fun K hK => ?_
  unfold Oper.wp execOp
  simp only [ho, Instr.alloc, Sem.run_bind, hz, newVar, newRow, run_newObj_alloc, Sem.run_pure, Result.andThen_ok, Value.cells]
  exact hK _ _ h

/-- a whole row is written into the block that was made last -/
theorem st_new {w : World} {ops : Array Oper} {rest : List Oper} {o : Oper} {a : Act} {Q : Exit → Act → World → Prop} (hgd : o.guard = none) (ty : TypeId) (x y : Operand) (ho : o.op = .store ty x y)
    (cs : List Value) (hx : a.eval x = .pointer (some ⟨w.heap.size, 0, none⟩)) (hy : a.eval y = .agg cs.toArray)
    (t : TypeId) (old : Array Value) (hi : (P.info? ty).map (·.size) = some cs.length) (hold : old.size = cs.length) (h1 : ∀ v ∈ cs, v.oneCell' = true)
    (h : wpList P ops Q rest (a.put o.dst undef) (w.alloc (.cells cs.toArray t))) : wpList P ops Q (o :: rest) a (w.alloc (.cells old t)) :=
  wpList_store_row hgd ty x y ho w.heap.size cs.toArray hx hy t old (hp_new w _) (by simpa using hi) (by simpa using hold) (all_oneCell_toArray h1) (by rw [World.setRow_alloc_new]; exact h)

/-- a composite literal -/
theorem bd_row {w : World} {ops : Array Oper} {rest : List Oper} {o : Oper} {a : Act} {Q : Exit → Act → World → Prop} (hgd : o.guard = none) (t : TypeId) (parts : Array (Nat × Operand)) (ho : o.op = .build t parts)
    (vs : List (Nat × Value)) (hvs : (parts.map fun (i, x) => (i, a.eval x)).toList = vs) (cs : Array Value) (hb : P.built t vs = some cs)
    (h : wpList P ops Q rest (a.put o.dst (.agg cs)) w) : wpList P ops Q (o :: rest) a w :=
  wpList_build hgd t parts ho (by rw [hvs, hb]; rfl) (by rw [hvs, hb]; exact h)

/-- a new variable that holds a row -/
theorem bx_row {w : World} {ops : Array Oper} {rest : List Oper} {o : Oper} {a : Act} {Q : Exit → Act → World → Prop} (hgd : o.guard = none) (t : TypeId) (x : Operand) (ho : o.op = .box t x)
    (cs : Array Value) (hx : a.eval x = .agg cs)
    (h : wpList P ops Q rest (a.put o.dst (.pointer (some ⟨w.heap.size, 0, none⟩))) (w.alloc (.cells cs t))) : wpList P ops Q (o :: rest) a w := by
  refine wpList_plain hgd fun K hK => ?_
  unfold Oper.wp execOp
  simp only [ho, hx, Sem.run_bind, Instr.box, newVar, newRow, run_newObj_alloc, Sem.run_pure, Result.andThen_ok, Value.cells]
  exact hK _ _ h
end
section
variable {P : Program} {a : Act} {o : Oper} {C : World → Prop} {K : Act → Prop}
theorem quiet_bd (t : TypeId) (parts : Array (Nat × Operand)) (ho : o.op = .build t parts) (vs : List (Nat × Value)) (hvs : (parts.map fun (i, x) => (i, a.eval x)).toList = vs) (cs : Array Value) (hb : P.built t vs = some cs)
    (hk : K (a.put o.dst (.agg cs))) : o.quiet P a C K :=
  ⟨_, fun w _ => by
    unfold Oper.quietAt execOp
    simp only [ho, Sem.run_bind, run_build w t (parts.map fun (i, x) => (i, a.eval x)) cs (by rw [hvs]; exact hb), Sem.run_pure, Result.andThen_ok]
    exact ⟨rfl, rfl⟩, hk⟩
end
end Go.Proofs.Ytjinkahlfigdcaa

/- A region that draws its order: a head whose operations read and whose callees may make memory, in whatever order; then a tail in its one order. -/
namespace Go.Proofs.Ytjinkahlfigdcaa
open Go.RowKit
variable {P : Program} {ops : Array Oper} {md : Region.Mode} {C : World → Prop}

/-- so many operations of the head, whichever come up, each quiet in the class; behind them L -/
def HeadQ (P : Program) (md : Region.Mode) (ops : Array Oper) (C : World → Prop) (n : Nat) (L : Array Bool → Act → Prop) : Nat → Array Bool → Act → Prop
  | 0, s, a => L s a
  | f + 1, s, a => Region.ready md ops s ≠ [] ∧ ∀ i ∈ Region.ready md ops s, i < n ∧ qOp P ops C i (HeadQ P md ops C n L f (s.setIfInBounds i true)) a

theorem headQ_any {n g : Nat} {L : Array Bool → Act → Prop} {Q : Exit → Act → World → Prop} (hL : ∀ s a w, C w → L s a → wpAny P md ops Q g s a w) (f : Nat) :
    ∀ (s : Array Bool) (a : Act) (w : World), C w → HeadQ P md ops C n L f s a → wpAny P md ops Q (f + g) s a w := by
  induction f with
  | zero => intro s a w hw h; rw [Nat.zero_add]; exact hL s a w hw h
  | succ f ih =>
    intro s a w hw h
    rw [Nat.add_right_comm]
    refine ⟨fun e => absurd e h.1, fun i hi => ?_⟩
    exact wpOp_of_qOp hw (fun a' w' hw' h' => ih _ a' w' hw' h') (h.2 i hi).2

/-- what may come up may be taken first -/
theorem headQ_first {n i : Nat} {oi : Oper} {v : Value} {L : Array Bool → Act → Prop} (hi : ops[i]? = some oi) (hns : Region.noSelect ops = true)
    (hs : Region.sinkB md ops n = true) (hc : Region.chainB md ops n = true) (hn : n < ops.size) (hin : i < n) (hL : ∀ s a, L s a → ∀ j ∈ Region.ready md ops s, n ≤ j) (f : Nat) :
    ∀ (s : Array Bool) (a : Act), HeadInv md ops n s → (∀ j oj, ops[j]? = some oj → j ≠ i → s.getD j true = false → (∀ e ∈ oj.after, Region.binds md e = true → e.on ≠ i) → oi.apart ops oj = true) →
      i ∈ Region.ready md ops s → YieldsIn P ops C oi v a → HeadQ P md ops C n L f (s.setIfInBounds i true) (a.put oi.dst v) → HeadQ P md ops C n L (f + 1) s a := by
  have sel := Region.noSelect_spec hns
  induction f with
  | zero =>
    intro s a inv _ hr hy H
    refine ⟨fun e => (by rw [e] at hr; cases hr), fun j hj => ?_⟩
    have hjn : j < n := Nat.lt_of_not_le (fun h => tail_waits hs hc hn inv _ i rfl hin (mem_ready.1 hr).1 j h hj)
    refine ⟨hjn, ?_⟩
    by_cases e : j = i
    · subst e; exact hy.qOp hi H
    · exact absurd (hL _ _ H j (ready_mono hj e)) (by omega)
  | succ f ih =>
    intro s a inv hf hr hy H
    have hun := (mem_ready.1 hr).1
    refine ⟨fun e => (by rw [e] at hr; cases hr), fun j hj => ?_⟩
    have hjn : j < n := Nat.lt_of_not_le (fun h => tail_waits hs hc hn inv _ i rfl hin hun j h hj)
    refine ⟨hjn, ?_⟩
    by_cases e : j = i
    · subst e; exact hy.qOp hi H
    · obtain ⟨hju, oj, hoj, hall⟩ := mem_ready.1 hj
      have hno : ∀ x ∈ oj.after, Region.binds md x = true → x.on ≠ i := by
        intro x hx hb he
        have := hall x hx hb
        rw [he, getD_both hun] at this
        cases this
      refine qOp_mono (fun a' h => ih _ a' (inv.set hj hjn) ?_ (ready_mono hr (Ne.symm e)) h.1 ?_) (qOp_put hoj (hf j oj hoj e hju hno) (fun cs b => sel i oi cs b hi) (fun cs b => sel j oj cs b hoj) hy (H.2 j (ready_mono hj e)).2)
      · intro k ok hk hki hu hn'
        refine hf k ok hk hki ?_ hn'
        by_cases hjk : j = k
        · subst hjk; exact hju
        · rwa [getD_set_ne true hjk] at hu
      · rw [Array.setIfInBounds_comm _ _ e]; exact h.2

theorem headQ_lex {n g : Nat} {K : Act → Prop} (hns : Region.noSelect ops = true) (hs : Region.sinkB md ops n = true) (hc : Region.chainB md ops n = true) (hn : n < ops.size) (l : List Oper) :
    ∀ (k : Nat) (s : Array Bool) (a : Act), (∀ j, j < l.length → l[j]? = ops[k + j]?) → k + l.length = n → HeadInv md ops n s → Region.lexHead md ops g l.length k s = true → wpQuiet P ops C K l a →
      HeadQ P md ops C n (fun s' a' => Region.seqB md ops g n s' = true ∧ K a') l.length s a := by
  induction l with
  | nil =>
    intro k s a _ hk _ hB h
    obtain rfl : k = n := by simpa using hk
    exact ⟨hB, h⟩
  | cons o l ih =>
    intro k s a hl hk inv hB h
    have h0 : ops[k]? = some o := by simpa using (hl 0 (by simp)).symm
    simp only [List.length_cons] at hk
    simp only [List.length_cons, Region.lexHead, Bool.and_eq_true] at hB
    have hr : k ∈ Region.ready md ops s := by simpa using hB.1.1
    obtain ⟨v, hy, hK⟩ := yieldsIn_of_qOp (K := wpQuiet P ops C K l) h0 (by unfold qOp; simp only [h0]; exact h)
    refine headQ_first h0 hns hs hc hn (by omega) (fun s' a' hL => seqB_ready hL.1) l.length s a inv (Region.free_spec h0 hB.1.2) hr hy ?_
    refine ih (k + 1) _ _ (fun j hj => ?_) (by omega) (inv.set hr (by omega)) hB.2 hK
    have := hl (j + 1) (by simpa using hj)
    simpa [Nat.add_assoc, Nat.add_comm 1 j] using this

/-- the head quiet in the class 'all that was there is as it was', the tail one by one -/
theorem wp_region_bel_tail {id : Nat} {Q : Exit → Act → World → Prop} {a : Act} {w : World} {l : List Oper} (n : Nat) (hm : P.follows .mixedOrders = true) (hB : Region.lexTailB .any l.toArray n = true)
    (h : wpQuiet P l.toArray (fun w' => ∃ p : Bel w, w' = p.out) (fun a' => ∀ w', (∃ p : Bel w, w' = p.out) → wpList P l.toArray Q (l.drop n) a' w') (l.take n) a) : (Code.region id l.toArray true).wp P Q a w := by
  simp only [Region.lexTailB, Bool.and_eq_true, decide_eq_true_eq] at hB
  obtain ⟨⟨⟨⟨hns, hn⟩, hs⟩, hc⟩, hlex⟩ := hB
  have hn' : n < l.length := by simpa using hn
  have e1 : (l.take n).length = n := by rw [List.length_take]; omega
  have e2 : (l.drop n).length = l.toArray.size - n := by simp
  have inv : HeadInv .any l.toArray n (Array.replicate l.toArray.size false) :=
    ⟨by simp, fun j oj _ hl => (by rw [getD_replicate_false] at hl; cases hl), fun t _ ht => getD_in (by simpa using ht) (getD_replicate_false _ _)⟩
  have H := headQ_lex (md := .any) (g := l.toArray.size - n) hns hs hc hn (l.take n) 0 _ a (fun j hj => by
    rw [e1] at hj
    simp [hj]) (by simpa using e1) inv (by rw [e1]; exact hlex) h
  refine wp_region_any hm ?_
  have := headQ_any (Q := Q) (g := l.toArray.size - n) (fun s a' w' hw' hL => by
    have := wpAny_of_seq (md := .any) (Q' := Q) (l.drop n) n s a' w' (fun j => by simp [List.getElem?_drop]) (by rw [e2]; exact hL.1) (hL.2 w' hw')
    rwa [e2] at this) _ _ _ _ (show ∃ p : Bel w, { w with drawn := w.drawn + 1 } = p.out from ⟨⟨{ w with drawn := w.drawn + 1 }, ⟨rfl, rfl, rfl, Nat.le_refl _, fun _ _ => rfl⟩⟩, rfl⟩) H
  rw [e1, show n + (l.toArray.size - n) = l.toArray.size by omega] at this
  exact this

end Go.Proofs.Ytjinkahlfigdcaa

/- The six makers of frames. -/
namespace Go.Proofs.Ytjinkahlfigdcaa
open Go.RowKit Go.BigFrame

/-- the zero frame -/
def zF : Fr := ⟨0, 0, 0, 0, List.replicate 32 0, 0, (0, 0, 0), [], []⟩
def helloF (s : Int) (T : List UInt8) : Fr := ⟨1, 0, 1, s, T, 0, (0, 0, 0), [], []⟩
def reqF (i : Int) (l : Int × Int × Int) (A : List (List UInt8)) (b : List UInt8) : Fr := ⟨2, i, 0, 0, List.replicate 32 0, 0, l, A, b⟩
def resF (i s : Int) (b : List UInt8) : Fr := ⟨3, i, 0, 0, List.replicate 32 0, s, (0, 0, 0), [], b⟩
def canF (i : Int) : Fr := ⟨4, i, 0, 0, List.replicate 32 0, 0, (0, 0, 0), [], []⟩
def byeF : Fr := ⟨5, 0, 0, 0, List.replicate 32 0, 0, (0, 0, 0), [], []⟩
def noteF (b : List UInt8) : Fr := ⟨6, 0, 0, 0, List.replicate 32 0, 0, (0, 0, 0), [], b⟩
abbrev nS : Value := .slice none 0 0

theorem below_then {a b c : World} (h : Below a.heap.size a b) (k : Below b.heap.size b c) : Below a.heap.size a c := h.trans (k.mono h.size)
theorem zeroFrame : ∀ w, (zeroValue 29).run Try.prog w = .ok (.agg (fcells zF nS).toArray) w := fun w => by
  have h : (Try.prog.info? 29).bind (·.zero) = some (.agg (fcells zF nS).toArray) := by kernel_rfl
  cases hi : Try.prog.info? 29 with
  | none => rw [hi] at h; cases h
  | some i =>
    rw [hi] at h
    simp only [Option.bind_some] at h
    simp [zeroValue, typeInfo, hi, h]
theorem list32 {T : List UInt8} (h : T.length = 32) : ∃ t0 t1 t2 t3 t4 t5 t6 t7 t8 t9 t10 t11 t12 t13 t14 t15 t16 t17 t18 t19 t20 t21 t22 t23 t24 t25 t26 t27 t28 t29 t30 t31, T = [t0, t1, t2, t3, t4, t5, t6, t7, t8, t9, t10, t11, t12, t13, t14, t15, t16, t17, t18, t19, t20, t21, t22, t23, t24, t25, t26, t27, t28, t29, t30, t31] := by
  match T, h with
  | [t0, t1, t2, t3, t4, t5, t6, t7, t8, t9, t10, t11, t12, t13, t14, t15, t16, t17, t18, t19, t20, t21, t22, t23, t24, t25, t26, t27, t28, t29, t30, t31], _ => exact ⟨t0, t1, t2, t3, t4, t5, t6, t7, t8, t9, t10, t11, t12, t13, t14, t15, t16, t17, t18, t19, t20, t21, t22, t23, t24, t25, t26, t27, t28, t29, t30, t31, rfl⟩
theorem built_hello32 (s : Int) (t0 t1 t2 t3 t4 t5 t6 t7 t8 t9 t10 t11 t12 t13 t14 t15 t16 t17 t18 t19 t20 t21 t22 t23 t24 t25 t26 t27 t28 t29 t30 t31 : UInt8) : Try.prog.built 29 [(0, .int .i64 1), (2, .int .i64 1), (3, .int .i64 s), (4, .agg (bytesV [t0, t1, t2, t3, t4, t5, t6, t7, t8, t9, t10, t11, t12, t13, t14, t15, t16, t17, t18, t19, t20, t21, t22, t23, t24, t25, t26, t27, t28, t29, t30, t31]).toArray)] = some (fcells (helloF s [t0, t1, t2, t3, t4, t5, t6, t7, t8, t9, t10, t11, t12, t13, t14, t15, t16, t17, t18, t19, t20, t21, t22, t23, t24, t25, t26, t27, t28, t29, t30, t31]) nS).toArray := by kernel_rfl
theorem built_hello (s : Int) (T : List UInt8) (h : T.length = 32) : Try.prog.built 29 [(0, .int .i64 1), (2, .int .i64 1), (3, .int .i64 s), (4, .agg (bytesV T).toArray)] = some (fcells (helloF s T) nS).toArray := by
  obtain ⟨t0, t1, t2, t3, t4, t5, t6, t7, t8, t9, t10, t11, t12, t13, t14, t15, t16, t17, t18, t19, t20, t21, t22, t23, t24, t25, t26, t27, t28, t29, t30, t31, rfl⟩ := list32 h
  exact built_hello32 s t0 t1 t2 t3 t4 t5 t6 t7 t8 t9 t10 t11 t12 t13 t14 t15 t16 t17 t18 t19 t20 t21 t22 t23 t24 t25 t26 t27 t28 t29 t30 t31
theorem built_req (i a b c : Int) (ao : Option Addr) (n k : Nat) (B : List UInt8) (A : List (List UInt8)) : Try.prog.built 29 [(0, .int .i64 2), (1, .int .u64 i), (6, .agg #[.int .i64 a, .int .i64 b, .int .i64 c]), (7, .slice ao n k), (8, .string (mk B))] = some (fcells (reqF i (a, b, c) A B) (.slice ao n k)).toArray := by kernel_rfl
theorem built_res (i s : Int) (B : List UInt8) : Try.prog.built 29 [(0, .int .i64 3), (1, .int .u64 i), (5, .int .i64 s), (8, .string (mk B))] = some (fcells (resF i s B) nS).toArray := by kernel_rfl
theorem built_can (i : Int) : Try.prog.built 29 [(0, .int .i64 4), (1, .int .u64 i)] = some (fcells (canF i) nS).toArray := by kernel_rfl
theorem built_bye : Try.prog.built 29 [(0, .int .i64 5)] = some (fcells byeF nS).toArray := by kernel_rfl
theorem built_note (B : List UInt8) : Try.prog.built 29 [(0, .int .i64 6), (8, .string (mk B))] = some (fcells (noteF B) nS).toArray := by kernel_rfl
theorem fcells_one (f : Fr) (va : Value) (h : va.oneCell' = true) : ∀ v ∈ fcells f va, v.oneCell' = true := by
  intro v hv
  simp only [fcells, List.mem_append, List.mem_cons, List.not_mem_nil, or_false] at hv
  rcases hv with (rfl | rfl | rfl | rfl) | hv | rfl | rfl | rfl | rfl | rfl | rfl
  all_goals first | rfl | exact h | skip
  simp only [bytesV, List.mem_map] at hv
  obtain ⟨c, _, rfl⟩ := hv
  rfl
theorem zlen : (fcells zF nS).toArray.size = 42 := rfl

set_option maxRecDepth 100000 in
set_option maxHeartbeats 1000000 in
theorem bye_any  (w : World) :
    Calls Try.prog 30 #[] w fun e w' => e = .returned (.agg (fcells (byeF) nS).toArray) ∧ Below w.heap.size w w' := by
  have HSZ := hid (frame_size (byeF) nS rfl)
  have HON := hid (fcells_one (byeF) nS rfl)
  go_enter Try.func30, Try.ntmps30
  go_wp2_with (first
    | (refine al_row (by rfl) 29 (by rfl) _ zeroFrame ?_)
    | (refine bd_row (by rfl) 29 _ (by rfl) _ (by rfl) _ (built_bye) ?_)
    | (refine st_new (by rfl) 29 _ _ (by rfl) (fcells (byeF) nS) (by rfl) (by rfl) 29 _ HSZ.out rfl HON.out ?_))
  refine ret_row 0 29 rfl w.heap.size rfl (fcells (byeF) nS) 29 (hp_new w _) _ Try.underlying29 rfl HSZ.out rfl ⟨rfl, below_walk w _⟩

theorem Below.of_gb {w W W' : World} {b : Nat} (h : Below w.heap.size w W) (hg : W.grownBy W' (some b)) (hb : w.heap.size ≤ b) : Below w.heap.size w W' :=
  ⟨hg.os.trans h.os, hg.tape.trans h.tape, hg.output.trans h.output, Nat.le_trans h.size hg.size, fun k hk => (hg.block k (Nat.lt_of_lt_of_le hk h.size) (by simp; omega)).trans (h.block k hk)⟩

end Go.Proofs.Ytjinkahlfigdcaa

/- A whole array or struct out of a block and into it, as one law each; an answer that lies in a variable. -/
namespace Go.Proofs.Ytjinkahlfigdcaa
open Go.RowKit
variable {P : Program}

theorem hp_old (w : World) (o : Obj) (k : Nat) (h : k < w.heap.size) : (w.alloc o).heap[k]? = w.heap[k]? := Below.heap_alloc w o k h
theorem hp_set (w : World) (b c i : Nat) (v : Value) (h : b ≠ c) : (w.setCell ⟨c, i, none⟩ v).heap[b]? = w.heap[b]? := Below.heap_setCell w _ v b (by simpa using h)
theorem hp_size (w : World) (o : Obj) : (w.alloc o).heap.size = w.heap.size + 1 := by simp











end Go.Proofs.Ytjinkahlfigdcaa

/- The check sum's mathematics: shifts, products of polynomials, sums of bytes. -/
namespace Go.Proofs.Ytjinkahlfigdcaa

/-- one shift -/
def sh (c : Nat) : Nat := if c % 2 = 1 then (c / 2) ^^^ 2197175160 else c / 2
def shN : Nat → Nat → Nat
  | 0, c => c
  | k + 1, c => sh (shN k c)

theorem xlt {a b : Nat} (ha : a < 4294967296) (hb : b < 4294967296) : a ^^^ b < 4294967296 := Nat.xor_lt_two_pow (n := 32) ha hb
theorem sh_lt {c : Nat} (h : c < 4294967296) : sh c < 4294967296 := by
  unfold sh
  split
  · exact xlt (by omega) (by omega)
  · omega
theorem shN_lt {c : Nat} (h : c < 4294967296) : ∀ k, shN k c < 4294967296
  | 0 => h
  | k + 1 => sh_lt (shN_lt h k)
theorem xor_half (a b : Nat) : (a ^^^ b) / 2 = a / 2 ^^^ b / 2 := by
  have := Nat.shiftRight_xor_distrib (a := a) (b := b) (i := 1)
  simpa [Nat.shiftRight_eq_div_pow] using this
theorem xor_odd (a b : Nat) : (a ^^^ b) % 2 = (a % 2 + b % 2) % 2 := by
  have h : (a ^^^ b).testBit 0 = (a.testBit 0 ^^ b.testBit 0) := Nat.testBit_xor ..
  simp only [Nat.testBit_zero] at h
  rcases Nat.mod_two_eq_zero_or_one a with ha | ha <;> rcases Nat.mod_two_eq_zero_or_one b with hb | hb <;> rcases Nat.mod_two_eq_zero_or_one (a ^^^ b) with hx | hx <;> simp [ha, hb, hx] at h ⊢
theorem x4 (a b p : Nat) : a ^^^ p ^^^ (b ^^^ p) = a ^^^ b := by
  rw [Nat.xor_assoc, ← Nat.xor_assoc p b p, Nat.xor_comm p b, Nat.xor_assoc b p p, Nat.xor_self, Nat.xor_zero]
theorem x3 (a b p : Nat) : a ^^^ p ^^^ b = a ^^^ b ^^^ p := by rw [Nat.xor_assoc, Nat.xor_comm p b, ← Nat.xor_assoc]
theorem x4' (a b c d : Nat) : a ^^^ b ^^^ (c ^^^ d) = a ^^^ c ^^^ (b ^^^ d) := by
  rw [Nat.xor_assoc, ← Nat.xor_assoc b c d, Nat.xor_comm b c, Nat.xor_assoc c b d, ← Nat.xor_assoc]
theorem xx (a b : Nat) : a ^^^ (a ^^^ b) = b := by rw [← Nat.xor_assoc, Nat.xor_self, Nat.zero_xor]
theorem xx' (a b : Nat) : a ^^^ b ^^^ b = a := by rw [Nat.xor_assoc, Nat.xor_self, Nat.xor_zero]
theorem xor_eq_zero {a b : Nat} (h : a ^^^ b = 0) : a = b := by
  have := congrArg (fun x => x ^^^ b) h
  simpa [xx'] using this
theorem sh_xor (a b : Nat) : sh (a ^^^ b) = sh a ^^^ sh b := by
  unfold sh
  rw [xor_half, xor_odd]
  rcases Nat.mod_two_eq_zero_or_one a with h | h <;> rcases Nat.mod_two_eq_zero_or_one b with k | k <;> simp [h, k]
  · rw [Nat.xor_assoc]
  · rw [x3]
  · rw [x4]
theorem sh_zero : sh 0 = 0 := rfl
theorem shN_zero : ∀ k, shN k 0 = 0
  | 0 => rfl
  | k + 1 => by rw [shN, shN_zero k]; rfl
theorem shN_xor (a b : Nat) : ∀ k, shN k (a ^^^ b) = shN k a ^^^ shN k b
  | 0 => rfl
  | k + 1 => by rw [shN, shN_xor a b k, sh_xor]; rfl
theorem shN_add (c j : Nat) : ∀ k, shN (j + k) c = shN k (shN j c)
  | 0 => rfl
  | k + 1 => by rw [← Nat.add_assoc, shN, shN_add c j k]; rfl
theorem shN_succ (c k : Nat) : shN (k + 1) c = shN k (sh c) := by rw [Nat.add_comm, shN_add]; rfl
theorem sh_nil {c : Nat} (h : c < 4294967296) (e : sh c = 0) : c = 0 := by
  unfold sh at e
  split at e
  · have := xor_eq_zero e; omega
  · omega
theorem shN_nil {c : Nat} (h : c < 4294967296) : ∀ k, shN k c = 0 → c = 0
  | 0, e => e
  | k + 1, e => shN_nil h k (sh_nil (shN_lt h k) e)
theorem sh_double (m : Nat) : sh (2 * m) = m := by
  unfold sh
  rw [if_neg (by omega)]
  omega
theorem shN_pow (m : Nat) : ∀ k, shN k (2 ^ k * m) = m
  | 0 => by simp [shN]
  | k + 1 => by rw [shN_succ, show 2 ^ (k + 1) * m = 2 * (2 ^ k * m) by rw [Nat.pow_succ]; simp [Nat.mul_comm, Nat.mul_left_comm], sh_double]; exact shN_pow m k

/-- the product's first k steps -/
def tmK (a b : Nat) : Nat → Nat
  | 0 => 0
  | k + 1 => tmK a b k ^^^ (if a.testBit (31 - k) then shN k b else 0)
def tm (a b : Nat) : Nat := tmK a b 32
theorem tmK_lt {a b : Nat} (hb : b < 4294967296) : ∀ k, tmK a b k < 4294967296
  | 0 => by simp [tmK]
  | k + 1 => by
    rw [tmK]
    refine xlt (tmK_lt hb k) ?_
    split
    · exact shN_lt hb k
    · omega
theorem tm_lt {a b : Nat} (hb : b < 4294967296) : tm a b < 4294967296 := tmK_lt hb 32
theorem tmK_right (a b c : Nat) : ∀ k, tmK a (b ^^^ c) k = tmK a b k ^^^ tmK a c k
  | 0 => by simp [tmK]
  | k + 1 => by
    rw [tmK, tmK, tmK, tmK_right a b c k]
    cases a.testBit (31 - k) <;> simp [shN_xor, x4']
theorem tmK_left (a b c : Nat) : ∀ k, tmK (a ^^^ b) c k = tmK a c k ^^^ tmK b c k
  | 0 => by simp [tmK]
  | k + 1 => by
    rw [tmK, tmK, tmK, tmK_left a b c k, Nat.testBit_xor, x4']
    cases a.testBit (31 - k) <;> cases b.testBit (31 - k) <;> simp
theorem lin_nil {f : Nat → Nat} (hf : ∀ a b, f (a ^^^ b) = f a ^^^ f b) : f 0 = 0 := by
  have := hf 0 0
  rw [Nat.xor_self, Nat.xor_self] at this
  exact this
theorem lin_ext {f g : Nat → Nat} (hf : ∀ a b, f (a ^^^ b) = f a ^^^ f b) (hg : ∀ a b, g (a ^^^ b) = g a ^^^ g b) (n : Nat) (h : ∀ i, i < n → f (2 ^ i) = g (2 ^ i)) :
    ∀ a, a < 2 ^ n → f a = g a := by
  induction n with
  | zero =>
    intro a ha
    obtain rfl : a = 0 := by simpa using ha
    rw [lin_nil hf, lin_nil hg]
  | succ n ih =>
    intro a ha
    have ih' := ih (fun i hi => h i (by omega))
    by_cases hlt : a < 2 ^ n
    · exact ih' a hlt
    · have h1 : a ^^^ 2 ^ n < 2 ^ n := by
        refine Nat.lt_pow_two_of_testBit _ fun i hi => ?_
        rw [Nat.testBit_xor, Nat.testBit_two_pow]
        by_cases hin : n = i
        · subst hin
          have : a.testBit n = true := by
            rw [Nat.testBit_eq_decide_div_mod_eq]
            have : a / 2 ^ n = 1 := by
              rw [Nat.div_eq_iff (Nat.two_pow_pos n)]
              rw [Nat.pow_succ] at ha
              omega
            rw [this]; rfl
          simp [this]
        · have : a.testBit i = false := Nat.testBit_lt_two_pow (Nat.lt_of_lt_of_le ha (Nat.pow_le_pow_right (by omega) (by omega)))
          simp [this, hin]
      have h2 : a = (a ^^^ 2 ^ n) ^^^ 2 ^ n := (xx' _ _).symm
      rw [h2, hf, hg, ih' _ h1, h n (by omega)]
theorem tmK_unit (i : Nat) (hi : i < 32) (b : Nat) : ∀ k, k ≤ 32 → tmK (2 ^ i) b k = if 31 - i < k then shN (31 - i) b else 0
  | 0, _ => by simp [tmK]
  | k + 1, hk => by
    rw [tmK, tmK_unit i hi b k (by omega), Nat.testBit_two_pow]
    by_cases h1 : 31 - i < k
    · have h3 : ¬ i = 31 - k := by omega
      have h4 : 31 - i < k + 1 := by omega
      simp [h1, h3, h4]
    · by_cases h2 : 31 - i = k
      · have h3 : i = 31 - k := by omega
        have h4 : 31 - i < k + 1 := by omega
        simp only [h1, h4, if_true, if_false, Nat.zero_xor]
        rw [if_pos (by simp [← h3]), h2]
      · have h3 : ¬ i = 31 - k := by omega
        have h4 : ¬ 31 - i < k + 1 := by omega
        simp [h1, h3, h4]
theorem tm_unit (i : Nat) (hi : i < 32) (b : Nat) : tm (2 ^ i) b = shN (31 - i) b := by
  unfold tm
  rw [tmK_unit i hi b 32 (by omega), if_pos (by omega)]
theorem unit_sh (j : Nat) (hj : j < 32) : 2 ^ j = shN (31 - j) 2147483648 := by
  have h := shN_pow (2 ^ j) (31 - j)
  rw [← Nat.pow_add, show 31 - j + j = 31 by omega] at h
  exact h.symm
theorem tm_comm (a b : Nat) (ha : a < 4294967296) (hb : b < 4294967296) : tm a b = tm b a := by
  refine lin_ext (f := fun x => tm x b) (g := fun x => tm b x) (fun x y => tmK_left x y b 32) (fun x y => tmK_right b x y 32) 32 (fun i hi => ?_) a ha
  refine lin_ext (f := fun y => tm (2 ^ i) y) (g := fun y => tm y (2 ^ i)) (fun x y => tmK_right (2 ^ i) x y 32) (fun x y => tmK_left x y (2 ^ i) 32) 32 (fun j hj => ?_) b hb
  show tm (2 ^ i) (2 ^ j) = tm (2 ^ j) (2 ^ i)
  rw [tm_unit i hi, tm_unit j hj, unit_sh j hj, unit_sh i hi, ← shN_add, ← shN_add, Nat.add_comm]
theorem tm_right_sh (a b : Nat) : tm a (sh b) = sh (tm a b) := by
  unfold tm
  have : ∀ k, tmK a (sh b) k = sh (tmK a b k) := by
    intro k
    induction k with
    | zero => simp [tmK, sh_zero]
    | succ k ih =>
      rw [tmK, tmK, ih, sh_xor]
      split
      · rw [← shN_succ]; rfl
      · rfl
  exact this 32
theorem tm_right_shN (a b : Nat) : ∀ k, tm a (shN k b) = shN k (tm a b)
  | 0 => rfl
  | k + 1 => by rw [shN, tm_right_sh, tm_right_shN a b k]; rfl
theorem tm_one (a : Nat) (ha : a < 4294967296) : tm a 2147483648 = a := by
  rw [tm_comm a _ ha (by omega)]
  have := tm_unit 31 (by omega) a
  simpa [shN] using this
/-- times the k-th power is k shifts -/
theorem tm_pow (a : Nat) (ha : a < 4294967296) (k : Nat) : tm a (shN k 2147483648) = shN k a := by rw [tm_right_shN, tm_one a ha]
theorem tm_pow_left (a : Nat) (ha : a < 4294967296) (k : Nat) : tm (shN k 2147483648) a = shN k a := by
  rw [tm_comm _ a (shN_lt (by omega) k) ha, tm_pow a ha]

/-- bytes taken in, without the turnings -/
def raw (c : Nat) (p : List UInt8) : Nat := p.foldl (fun c b => shN 8 (c ^^^ b.toNat)) c
theorem u8lt (b : UInt8) : b.toNat < 4294967296 := by have := b.toNat_lt; omega
theorem raw_nil (c : Nat) : raw c [] = c := by simp only [raw, List.foldl_nil]
theorem raw_cons (c : Nat) (b : UInt8) (p : List UInt8) : raw c (b :: p) = raw (shN 8 (c ^^^ b.toNat)) p := by simp only [raw, List.foldl_cons]
theorem raw_snoc (c : Nat) (b : UInt8) (p : List UInt8) : raw c (p ++ [b]) = shN 8 (raw c p ^^^ b.toNat) := by simp [raw]
theorem raw_append (c : Nat) (p q : List UInt8) : raw c (p ++ q) = raw (raw c p) q := by simp [raw]
theorem raw_lt {c : Nat} (h : c < 4294967296) (p : List UInt8) : raw c p < 4294967296 := by
  induction p generalizing c with
  | nil => exact h
  | cons b p ih => rw [raw_cons]; exact ih (shN_lt (xlt h (u8lt b)) 8)
theorem raw_take (c : Nat) (p : List UInt8) (k : Nat) (h : k < p.length) : raw c (p.take (k + 1)) = shN 8 (raw c (p.take k) ^^^ (p.getD k 0).toNat) := by
  rw [List.take_succ_eq_append_getElem h, raw_snoc]
  simp [List.getD_eq_getElem?_getD, List.getElem?_eq_getElem h]
/-- moved on over n bytes 0 -/
theorem raw_lin (c d : Nat) : ∀ p : List UInt8, raw (c ^^^ d) p = raw c p ^^^ shN (8 * p.length) d
  | [] => by simp [raw, shN]
  | b :: p => by
    rw [raw_cons, raw_cons, x3, shN_xor, raw_lin _ (shN 8 d) p, ← shN_add, List.length_cons, show 8 * (p.length + 1) = 8 + 8 * p.length by omega]
/-- the table's words -/
theorem table_word (c b : Nat) : shN 8 (c ^^^ b) = shN 8 ((c % 256) ^^^ b) ^^^ (c / 256) := by
  have h1 : c = (c % 256) ^^^ (2 ^ 8 * (c / 256)) := by
    have h2 := Nat.two_pow_add_eq_or_of_lt (i := 8) (b := c % 256) (by omega) (c / 256)
    have h3 : (c % 256) ^^^ (2 ^ 8 * (c / 256)) = 2 ^ 8 * (c / 256) + c % 256 := by
      rw [h2]
      refine Nat.eq_of_testBit_eq fun i => ?_
      rw [Nat.testBit_xor, Nat.testBit_or, Nat.testBit_two_pow_mul]
      by_cases hi : i < 8
      · simp [show ¬ i ≥ 8 by omega]
      · have : (c % 256).testBit i = false := Nat.testBit_lt_two_pow (Nat.lt_of_lt_of_le (show c % 256 < 2 ^ 8 by omega) (Nat.pow_le_pow_right (by omega) (by omega)))
        simp [this]
    rw [h3]; omega
  have h4 : c ^^^ b = (c % 256 ^^^ b) ^^^ (2 ^ 8 * (c / 256)) := (congrArg (fun x => x ^^^ b) h1).trans (x3 _ _ _)
  rw [h4, shN_xor, shN_pow]
theorem row_add (low bit : Nat) (j : Nat) (h : low % 2 ^ (j + 1) = 0) (hb : bit = 2 ^ j) : low + bit = low ^^^ bit := by
  subst hb
  obtain ⟨m, rfl⟩ : ∃ m, low = 2 ^ (j + 1) * m := ⟨low / 2 ^ (j + 1), by have := Nat.div_add_mod low (2 ^ (j + 1)); omega⟩
  have h2 := Nat.two_pow_add_eq_or_of_lt (i := j + 1) (b := 2 ^ j) (Nat.pow_lt_pow_right (by omega) (by omega)) m
  rw [h2]
  refine Nat.eq_of_testBit_eq fun i => ?_
  rw [Nat.testBit_xor, Nat.testBit_or, Nat.testBit_two_pow_mul, Nat.testBit_two_pow]
  by_cases hi : i ≥ j + 1
  · simp [show ¬ j = i by omega]
  · simp [hi]

/-- the sum that the document says -/
def moreP (c : Nat) (p : List UInt8) : Nat := 4294967295 ^^^ raw (4294967295 ^^^ c) p
def sumP (p : List UInt8) : Nat := moreP 0 p
theorem moreP_lt {c : Nat} (h : c < 4294967296) (p : List UInt8) : moreP c p < 4294967296 := xlt (by omega) (raw_lt (xlt (by omega) h) p)
theorem moreP_nil (c : Nat) : moreP c [] = c := xx _ _
theorem moreP_append (c : Nat) (p q : List UInt8) : moreP c (p ++ q) = moreP (moreP c p) q := by
  unfold moreP
  rw [raw_append, xx]
theorem sumP_lt (p : List UInt8) : sumP p < 4294967296 := moreP_lt (by omega) p
/-- the sum of two texts -/
theorem sumP_join (x y : List UInt8) : shN (8 * y.length) (sumP x) ^^^ sumP y = sumP (x ++ y) := by
  have key : ∀ S M R : Nat, S ^^^ (M ^^^ R) = M ^^^ (R ^^^ S) := fun S M R => by rw [Nat.xor_comm S, Nat.xor_assoc]
  have h := raw_lin 4294967295 (4294967295 ^^^ raw (4294967295 ^^^ 0) x) y
  rw [xx] at h
  unfold sumP
  rw [moreP_append]
  unfold moreP
  rw [xx, h, key]
  rfl

end Go.Proofs.Ytjinkahlfigdcaa

/- Rows of words and bytes, lists of bytes, in memory. -/
namespace Go.Proofs.Ytjinkahlfigdcaa
open Go.RowKit
variable {P : Program}

theorem mv_row {w : World} {ops : Array Oper} {rest : List Oper} {o : Oper} {a : Act} {Q : Exit → Act → World → Prop} (hgd : o.guard = none) (x : Operand) (ho : o.op = .move x) (v : Value) (hx : a.eval x = v)
    (h : wpList P ops Q rest (a.put o.dst v) w) : wpList P ops Q (o :: rest) a w := by
  subst hx
  refine wpList_plain hgd fun K hK => ?_
  unfold Oper.wp execOp
  simp only [ho, Sem.run_pure]
  exact hK _ _ h

def u32N (xs : List Nat) : List Value := xs.map fun (x : Nat) => Value.int .u32 (x : Int)
theorem u32N_length (xs : List Nat) : (u32N xs).length = xs.length := by simp [u32N]
theorem u32N_one (xs : List Nat) : ∀ v ∈ u32N xs, v.oneCell' = true := by
  intro v hv
  simp only [u32N, List.mem_map] at hv
  obtain ⟨c, _, rfl⟩ := hv
  rfl
theorem u32N_set (xs : List Nat) (i y : Nat) : (u32N xs).set i (.int .u32 (y : Int)) = u32N (xs.set i y) := by simp [u32N, List.map_set]
theorem row_cell {w : World} {b : Nat} {cs : List Value} {T : TypeId} (h : w.heap[b]? = some (.cells cs.toArray T (0, 0))) (i : Nat) (hi : i < cs.length) : w.cell? ⟨b, i, none⟩ = some (cs[i]) := by
  simp [World.cell?, h, hi]
theorem u32N_cell {w : World} {b : Nat} {xs : List Nat} {T : TypeId} (h : w.heap[b]? = some (.cells (u32N xs).toArray T (0, 0))) (i : Nat) (hi : i < xs.length) : w.cell? ⟨b, i, none⟩ = some (.int .u32 ((xs.getD i 0 : Nat) : Int)) := by
  rw [row_cell h i (by simpa [u32N] using hi)]
  simp [u32N, List.getD_eq_getElem?_getD, hi]
theorem row_fz {w : World} {b : Nat} {cs : Array Value} {T : TypeId} (h : w.heap[b]? = some (.cells cs T (0, 0))) (i : Nat) : w.frozen? ⟨b, i, none⟩ = false := by simp [World.frozen?, h]

theorem src_shape {w : World} {v : Value} {bs : List UInt8} (h : Src w v bs) : ∃ ao c, v = .slice ao bs.length c := by
  rcases h.2 with ⟨rfl, rfl⟩ | ⟨ad, cap, rfl, _⟩
  · exact ⟨none, 0, rfl⟩
  · exact ⟨_, _, rfl⟩

/-- v is a slice that holds these lists of bytes -/
def Lists (w : World) (v : Value) (pss : List (List UInt8)) : Prop :=
  (∃ ao c, v = .slice ao 0 c ∧ pss = []) ∨ ∃ g o c, v = .slice (some ⟨g, o, none⟩) pss.length c ∧ g < w.heap.size ∧
    ∀ j, j < pss.length → ∃ u, w.cell? ⟨g, o + j, none⟩ = some u ∧ Src w u (pss.getD j [])
theorem Lists.below {w w' : World} {v : Value} {pss : List (List UInt8)} (h : Lists w v pss) (hb : Below w.heap.size w w') : Lists w' v pss := by
  rcases h with h | ⟨g, o, c, hv, hlt, hc⟩
  · exact Or.inl h
  · refine Or.inr ⟨g, o, c, hv, Nat.lt_of_lt_of_le hlt hb.size, fun j hj => ?_⟩
    obtain ⟨u, h1, h2⟩ := hc j hj
    exact ⟨u, by rw [hb.cell (p := ⟨g, o + j, none⟩) hlt]; exact h1, h2.below hb⟩
theorem Lists.shape {w : World} {v : Value} {pss : List (List UInt8)} (h : Lists w v pss) : ∃ ao c, v = .slice ao pss.length c := by
  rcases h with ⟨ao, c, rfl, rfl⟩ | ⟨g, o, c, rfl, _⟩
  · exact ⟨_, _, rfl⟩
  · exact ⟨_, _, rfl⟩
theorem Lists.at {w : World} {ao : Option Addr} {n c : Nat} {pss : List (List UInt8)} (h : Lists w (.slice ao n c) pss) (k : Nat) (hk : k < pss.length) :
    ∃ g o, ao = some ⟨g, o, none⟩ ∧ ∃ u, w.cell? ⟨g, o + k, none⟩ = some u ∧ Src w u (pss.getD k []) := by
  rcases h with ⟨_, _, _, h0⟩ | ⟨g, o, c, hv, _, hc⟩
  · rw [h0] at hk; simp at hk
  · injection hv with h1 _ _
    obtain ⟨u, h2, h3⟩ := hc k hk
    exact ⟨g, o, h1, u, h2, h3⟩
/-- a list of one -/
theorem lists_one {w : World} {v : Value} {bs : List UInt8} (h : Src w v bs) :
    Lists (w.alloc (.cells #[v] 30)) (.slice (some ⟨w.heap.size, 0, none⟩) 1 1) [bs] := by
  have hb := hp_new w (.cells #[v] 30)
  refine Or.inr ⟨w.heap.size, 0, 1, rfl, hp_lt hb, fun j hj => ?_⟩
  match j, hj with
  | 0, _ => exact ⟨v, by rw [cell_of_row _ _ _ _ _ _ hb]; rfl, h.below (below_walk _ _)⟩
/-- a list of two -/
theorem lists_two {w : World} {v u : Value} {bs cs : List UInt8} (h : Src w v bs) (g : Src w u cs) :
    Lists (w.alloc (.cells #[v, u] 30)) (.slice (some ⟨w.heap.size, 0, none⟩) 2 2) [bs, cs] := by
  have hb := hp_new w (.cells #[v, u] 30)
  refine Or.inr ⟨w.heap.size, 0, 2, rfl, hp_lt hb, fun j hj => ?_⟩
  match j, hj with
  | 0, _ => exact ⟨v, by rw [cell_of_row _ _ _ _ _ _ hb]; rfl, h.below (below_walk _ _)⟩
  | 1, _ => exact ⟨u, by rw [cell_of_row _ _ _ _ _ _ hb]; rfl, g.below (below_walk _ _)⟩
/-- all of them, one behind the other -/
def fl (pss : List (List UInt8)) : List UInt8 := pss.flatten
theorem fl_snoc (pss : List (List UInt8)) (k : Nat) (hk : k < pss.length) : fl (pss.take (k + 1)) = fl (pss.take k) ++ pss.getD k [] := by
  unfold fl
  rw [List.take_succ_eq_append_getElem hk, List.flatten_append]
  simp only [List.flatten_cons, List.flatten_nil, List.append_nil]
  simp [List.getD_eq_getElem?_getD, hk]
theorem fl_nil : fl [] = [] := rfl
theorem fl_all (pss : List (List UInt8)) : fl (pss.take pss.length) = fl pss := by rw [List.take_length]
/-- bytes that a literal lays -/
theorem src_lit {w : World} {g : Nat} {bs : List UInt8} {C : Array Value} {fr : Nat × Nat} (hb : w.heap[g]? = some (.cells C 5 fr)) (hC : C = (bytesV bs).toArray) (hl : bs.length ≤ 1000) (n : Nat) (hn : n = bs.length) :
    Src w (.slice (some ⟨g, 0, none⟩) n n) bs := by
  subst hn hC
  refine ⟨by omega, Or.inr ⟨⟨g, 0, none⟩, bs.length, rfl, Nat.le_refl _, by unfold maxLen; omega, fun _ => hp_lt hb, fun j hj => ?_⟩⟩
  rw [addr_add, cell_of_row w g j _ _ _ hb]
  simp [bytesV, List.getD_eq_getElem?_getD, hj]
theorem src_at {w : World} {ao : Option Addr} {n c : Nat} {bs : List UInt8} (h : Src w (.slice ao n c) bs) (k : Nat) (hk : k < bs.length) :
    ∃ ad, ao = some ad ∧ w.cell? (ad.add k) = some (.int .u8 (bs.getD k 0).toNat) := by
  rcases h.2 with ⟨_, h0⟩ | ⟨ad, cap, hv, _, _, _, hc⟩
  · rw [h0] at hk; simp at hk
  · injection hv with h1
    exact ⟨ad, h1, hc k hk⟩

end Go.Proofs.Ytjinkahlfigdcaa

/- Numbers laid down one behind the other. -/
namespace Go.Proofs.Ytjinkahlfigdcaa
open Go.RowKit Go.BigFrame

/-- numbers that lie somewhere -/
def Nums (w : World) (v : Value) (ks : List Nat) : Prop := ∃ g o c, v = .slice (some ⟨g, o, none⟩) ks.length c ∧ g < w.heap.size ∧ ∀ j, j < ks.length → w.cell? ⟨g, o + j, none⟩ = some (.int .i64 (ks.getD j 0 : Nat))
theorem Nums.below {w w' : World} {v : Value} {ks : List Nat} (h : Nums w v ks) (hb : Below w.heap.size w w') : Nums w' v ks := by
  obtain ⟨g, o, c, hv, hlt, hc⟩ := h
  exact ⟨g, o, c, hv, Nat.lt_of_lt_of_le hlt hb.size, fun j hj => (hb.cell (p := ⟨g, o + j, none⟩) hlt).trans (hc j hj)⟩
theorem nums_one (w : World) (a : Nat) : Nums (w.alloc (.cells #[.int .i64 (a : Nat)] 3)) (.slice (some ⟨w.heap.size, 0, none⟩) 1 1) [a] := by
  refine ⟨w.heap.size, 0, 1, rfl, by simp, fun j hj => ?_⟩
  match j, hj with
  | 0, _ => simp
theorem nums_two (w : World) (a b : Nat) : Nums (w.alloc (.cells #[.int .i64 (a : Nat), .int .i64 (b : Nat)] 3)) (.slice (some ⟨w.heap.size, 0, none⟩) 2 2) [a, b] := by
  refine ⟨w.heap.size, 0, 2, rfl, by simp, fun j hj => ?_⟩
  match j, hj with
  | 0, _ => simp
  | 1, _ => simp
/-- numbers as bytes -/
def sns (ks : List Nat) : List UInt8 := ks.flatMap sn
theorem sns_snoc (ks : List Nat) (k : Nat) (hk : k < ks.length) : sns (ks.take (k + 1)) = sns (ks.take k) ++ sn (ks.getD k 0) := by
  unfold sns
  rw [List.take_succ_eq_append_getElem hk, List.flatMap_append, List.getD_eq_getElem?_getD, List.getElem?_eq_getElem hk]
  simp
theorem sns_length : ∀ ks : List Nat, (sns ks).length ≤ 10 * ks.length
  | [] => by simp [sns]
  | k :: r => by
    have h := sns_length r
    have h2 := sn_length_le k
    simp only [sns, List.flatMap_cons, List.length_append, List.length_cons] at h ⊢
    omega

set_option maxRecDepth 100000 in
set_option maxHeartbeats 1000000 in
theorem putCounts_any (vb vl : Value) (bs : List UInt8) (ks : List Nat) (w : World) (hb : Src w vb bs) (hl : Nums w vl ks) (hk : ∀ k ∈ ks, k ≤ 9223372036854775807) (hn : ks.length ≤ 100) (hbl : bs.length ≤ 1099511620000) :
    Calls Try.prog 23 #[vb, vl] w fun e w' => ∃ v, e = .returned v ∧ Src w' v (bs ++ sns ks) ∧ Below w.heap.size w w' := by
  obtain ⟨g, o, c, rfl, hlt, hc⟩ := hl
  obtain ⟨ab, cb, rfl⟩ := src_shape hb
  have HS := hid hb
  have HC := hid hc
  have HLT := hid hlt
  have HK := hid hk
  have HBL := hid hbl
  clear hb hc hlt hk hbl
  go_enter Try.func23, Try.ntmps23
  go_wp2
  go_loopw [0, 9] (fun v i wr => ∃ k : Nat, k ≤ ks.length ∧ i = .int .i64 k ∧ Hid (Src wr v (bs ++ sns (ks.take k))) ∧ Hid (Below w.heap.size w wr)) (fun _ i _ => ks.length - (intOf i).toNat)
  case atStart => exact ⟨0, by omega, rfl, hid (by simpa [sns] using HS.out), hid (Below.refl _ _)⟩
  case round =>
    obtain ⟨k, hkl, rfl, HV, HB⟩ := hrel
    by_cases hlt : k < ks.length
    · have c1 : _ = _ := (HB.out.cell (p := ⟨g, o + k, none⟩) HLT.out).trans (HC.out k hlt)
      have HSN := hid (sns_snoc ks k hlt)
      have hm : ks.getD k 0 ≤ 9223372036854775807 := by
        refine HK.out _ ?_
        rw [List.getD_eq_getElem?_getD, List.getElem?_eq_getElem hlt]
        exact List.getElem_mem hlt
      have HLN := hid (show (bs ++ sns (ks.take k)).length ≤ 1099511627776 by
        have := HBL.out
        have h2 := sns_length (ks.take k)
        rw [List.length_take] at h2
        rw [List.length_append]
        omega)
      generalize ks.getD k 0 = m at c1 HSN hm
      obtain ⟨X, HXX⟩ : ∃ X, Hid (bs ++ sns (ks.take k) = X) := ⟨_, rfl⟩
      rw [HXX.out] at HV HLN
      obtain ⟨av, cv, ev⟩ := src_shape HV.out
      subst ev
      have hki : (k : Int) < (ks.length : Int) := by omega
      have hd : decide ((k : Int) < (ks.length : Int)) = true := by simpa using hki
      have hwr : IntKind.u64.wrap (m : Int) = (m : Int) := by rw [IntKind.wrap_u64]; omega
      have HPU := hid (putUint_any _ X m wr HV.out (by omega) HLN.out)
      have hkw : IntKind.i64.wrap ((k : Int) + 1) = (k : Int) + 1 := by rw [IntKind.wrap_i64]; omega
      go_wp2_with fail
      refine HPU.out.mono ?_
      rintro e w2 ⟨v2, rfl, ho2, hb2⟩
      have hsr := ho2.src (by rw [List.length_append]; have := sn_length_le m; have := HLN.out; omega)
      have HS2 := hid (show Src w2 v2 (bs ++ sns (ks.take (k + 1))) by rw [HSN.out, ← List.append_assoc, HXX.out]; exact hsr)
      have HB2 := hid (below_then HB.out hb2)
      have hle : (X ++ sn m).length = X.length + (sn m).length := List.length_append
      obtain ⟨a2, c2, e2⟩ := src_shape hsr
      rw [hle] at e2
      subst e2
      clear ho2 hb2 hsr hle
      go_wp2
      exact ⟨⟨k + 1, by omega, by simp, HS2, HB2⟩, by simp [intOf]; omega⟩
    · obtain rfl : k = ks.length := by omega
      rw [List.take_length] at HV
      obtain ⟨av, cv, ev⟩ := src_shape HV.out
      subst ev
      go_wp2
      go_ret
      exact ⟨_, rfl, HV.out, HB.out⟩

end Go.Proofs.Ytjinkahlfigdcaa

/- Whether what a frame's fields hold may be. -/
namespace Go.Proofs.Ytjinkahlfigdcaa
open Go.RowKit Go.BigFrame

def mayHelloP (f : Fr) : Bool := decide (f.ver = 1 ∧ 1 ≤ f.slots ∧ f.slots ≤ 64)
def mayResP (f : Fr) : Bool := decide (f.status = 1 ∨ ((f.status = 2 ∨ f.status = 3) ∧ f.body = []))
def longA (A : List (List UInt8)) : Bool := A.any fun a => decide (4096 < a.length)
def mayReqP (f : Fr) : Bool := decide (0 ≤ f.lim.1 ∧ 0 ≤ f.lim.2.1 ∧ 0 ≤ f.lim.2.2 ∧ f.args.length ≤ 8 ∧ longA f.args = false)

set_option maxRecDepth 100000 in
set_option maxHeartbeats 1000000 in
theorem mayHello_any (f : Fr) (va : Value) (w : World) (hf : f.tool.length = 32) :
    Calls Try.prog 74 #[.agg (fcells f va).toArray] w fun e w' => e = .returned (.bool (mayHelloP f)) ∧ Below w.heap.size w w' := by
  have HNB := hid (hp_new w (.cells (fcells f va).toArray 29))
  have HBL := hid (below_walk w (.cells (fcells f va).toArray 29))
  have HF := hid hf
  unfold mayHelloP
  clear hf
  go_enter Try.func74, Try.ntmps74
  go_upto_region 1 with fail
  generalize w.alloc (.cells (fcells f va).toArray 29) = w1 at HNB HBL ⊢
  have x2 := (Fb.of HNB.out HF.out).v
  have x3 := (Fb.of HNB.out HF.out).s
  clear HF HNB
  by_cases h1 : f.ver = 1
  · have q1 : (f.ver == 1) = true := by simpa using h1
    by_cases h2 : 1 ≤ f.slots
    · have q2 : decide (1 ≤ f.slots) = true := by simpa using h2
      by_cases h3 : f.slots ≤ 64
      · have q3 : decide (f.slots ≤ 64) = true := by simpa using h3
        have HR := hid (show true = decide (f.ver = 1 ∧ 1 ≤ f.slots ∧ f.slots ≤ 64) from (decide_eq_true ⟨h1, h2, h3⟩).symm)
        go_wp2
        go_ret
        first | exact ⟨ret_eq HR.out, HBL.out⟩ | exact ⟨rfl, HBL.out⟩
      · have q3 : decide (f.slots ≤ 64) = false := by simpa using h3
        have HR := hid (show false = decide (f.ver = 1 ∧ 1 ≤ f.slots ∧ f.slots ≤ 64) from (decide_eq_false (fun h => h3 h.2.2)).symm)
        go_wp2
        go_ret
        first | exact ⟨ret_eq HR.out, HBL.out⟩ | exact ⟨rfl, HBL.out⟩
    · have q2 : decide (1 ≤ f.slots) = false := by simpa using h2
      have HR := hid (show false = decide (f.ver = 1 ∧ 1 ≤ f.slots ∧ f.slots ≤ 64) from (decide_eq_false (fun h => h2 h.2.1)).symm)
      go_wp2
      go_ret
      first | exact ⟨ret_eq HR.out, HBL.out⟩ | exact ⟨rfl, HBL.out⟩
  · have q1 : (f.ver == 1) = false := by simpa using h1
    have HR := hid (show false = decide (f.ver = 1 ∧ 1 ≤ f.slots ∧ f.slots ≤ 64) from (decide_eq_false (fun h => h1 h.1)).symm)
    go_wp2
    go_ret
    first | exact ⟨ret_eq HR.out, HBL.out⟩ | exact ⟨rfl, HBL.out⟩

set_option maxRecDepth 100000 in
set_option maxHeartbeats 1000000 in
theorem mayResponse_any (f : Fr) (va : Value) (w : World) (hf : f.tool.length = 32) :
    Calls Try.prog 82 #[.agg (fcells f va).toArray] w fun e w' => e = .returned (.bool (mayResP f)) ∧ Below w.heap.size w w' := by
  have HNB := hid (hp_new w (.cells (fcells f va).toArray 29))
  have HBL := hid (below_walk w (.cells (fcells f va).toArray 29))
  have HF := hid hf
  unfold mayResP
  clear hf
  go_enter Try.func82, Try.ntmps82
  go_upto_region 1 with fail
  generalize w.alloc (.cells (fcells f va).toArray 29) = w1 at HNB HBL ⊢
  have x5 := (Fb.of HNB.out HF.out).st
  have x8 := (Fb.of HNB.out HF.out).bd
  clear HF HNB
  have hbe : (mk f.body).toList = f.body := bl_mk f.body
  by_cases h1 : f.status = 1
  · have q1 : (f.status == 1) = true := by simpa using h1
    have HR := hid (show true = decide (f.status = 1 ∨ ((f.status = 2 ∨ f.status = 3) ∧ f.body = [])) from (decide_eq_true (Or.inl h1)).symm)
    go_wp2
    go_ret
    first | exact ⟨ret_eq HR.out, HBL.out⟩ | exact ⟨rfl, HBL.out⟩
  · have q1 : (f.status == 1) = false := by simpa using h1
    by_cases h2 : f.status = 2
    · have q2 : (f.status == 2) = true := by simpa using h2
      have HR := hid (show f.body.isEmpty = decide (f.status = 1 ∨ ((f.status = 2 ∨ f.status = 3) ∧ f.body = [])) by cases f.body <;> simp [h2])
      go_wp2
      go_ret
      exact ⟨ret_eq HR.out, HBL.out⟩
    · have q2 : (f.status == 2) = false := by simpa using h2
      by_cases h3 : f.status = 3
      · have q5 : (f.status == 3) = true := by simpa using h3
        have HR := hid (show f.body.isEmpty = decide (f.status = 1 ∨ ((f.status = 2 ∨ f.status = 3) ∧ f.body = [])) by cases f.body <;> simp [h3])
        go_wp2
        go_ret
        exact ⟨ret_eq HR.out, HBL.out⟩
      · have q5 : (f.status == 3) = false := by simpa using h3
        have HR := hid (show false = decide (f.status = 1 ∨ ((f.status = 2 ∨ f.status = 3) ∧ f.body = [])) from (decide_eq_false (fun h => h.elim h1 (fun h => h.1.elim h2 h3))).symm)
        go_wp2
        go_ret
        first | exact ⟨ret_eq HR.out, HBL.out⟩ | exact ⟨rfl, HBL.out⟩

end Go.Proofs.Ytjinkahlfigdcaa
