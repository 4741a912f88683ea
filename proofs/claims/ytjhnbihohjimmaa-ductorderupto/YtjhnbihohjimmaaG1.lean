/- Contracts and pure facts that the proof needs, joined. -/
import Derived.Test.YtjhnbihohjimmaaProg
import Derived.WalkKit
import Derived.WalkSpells
import Derived.WalkLawsBesides
import Derived.BigQuiet
import Derived.Deep.QuietTactic
import Derived.Laws.AppendOwnNone
import Derived.Laws.OwnMore
import Derived.Lib.AppendStr
import Derived.Laws.BytesString
import Derived.Laws.IdiomStrings
import Derived.Deep.WholeRow
import Derived.Deep.MidRow
import Derived.Deep.RegionHeld3
import Init
import Derived.Deep.Cut
import Derived.KernelRfl
import Derived.Laws.BitsAllLaws
import Derived.Lib.SlBytesConst
import Derived.ProofKit
import Derived.OpenShut
import Derived.Deep.Strs
import Derived.SizedLaws
import Derived.Test.YtjhnbihohjimmaaRows
import Derived.Deep.Slices
import Derived.ArgAppend
import Derived.Laws.CopyOwn
import Derived.Laws.MakeOwn
import Derived.Deep.RegionLaw
import Derived.Deep.RegionHeldLaw
import Derived.Lib.SliceRun
import Derived.Deep.RegionWith
import Derived.ChangeSame
import Derived.Lib.SmallJoins

/- Small laws on worlds that only grew; bytes of one's own, bytes that lie somewhere; append and make. -/
namespace Go.Proofs.Ytjhnbihohjimmaa
open Go.RowKit

theorem Try.infoU8 : (Try.prog.info? 5).map (fun i => (i.zero, i.size, i.bytes)) = some (some (.int .u8 0), 1, 1) := by kernel_rfl

theorem gb_refl (w : World) (row : Option Nat) : w.grownBy w row := ⟨rfl, rfl, rfl, Nat.le_refl _, fun _ _ _ => rfl⟩
theorem gb_trans {a b c : World} {row : Option Nat} (h : a.grownBy b row) (k : b.grownBy c row) : a.grownBy c row :=
  ⟨k.os.trans h.os, k.tape.trans h.tape, k.output.trans h.output, Nat.le_trans h.size k.size,
    fun i hi hne => (k.block i (Nat.lt_of_lt_of_le hi h.size) hne).trans (h.block i hi hne)⟩
/-- a second growth may write what is new since the first world -/
theorem gb_then {a b c : World} {row row' : Option Nat} (h : a.grownBy b row) (k : b.grownBy c row') (hr : ∀ j, row' = some j → a.heap.size ≤ j ∨ row = some j) : a.grownBy c row :=
  ⟨k.os.trans h.os, k.tape.trans h.tape, k.output.trans h.output, Nat.le_trans h.size k.size,
    fun i hi hne => (k.block i (Nat.lt_of_lt_of_le hi h.size) (fun e => by
      rcases hr i e.symm with h1 | h1
      · omega
      · exact hne h1.symm)).trans (h.block i hi hne)⟩
theorem gb_drewN (w : World) (n : Nat) (row : Option Nat) : w.grownBy (w.drewN n) row := ⟨rfl, rfl, rfl, Nat.le_refl _, fun _ _ _ => rfl⟩
theorem gb_drew (w : World) (row : Option Nat) : w.grownBy w.drew row := ⟨rfl, rfl, rfl, Nat.le_refl _, fun _ _ _ => rfl⟩
theorem gb_alloc (w : World) (o : Obj) (row : Option Nat) : w.grownBy (w.alloc o) row :=
  ⟨rfl, rfl, rfl, by simp, fun k hk _ => Below.heap_alloc w o k hk⟩
theorem gb_set (w : World) (a : Addr) (u : Value) : w.grownBy (w.setCell a u) (some a.block) :=
  ⟨rfl, rfl, rfl, by simp, fun k _ hk => Below.heap_setCell w a u k (fun e => hk (by rw [e]))⟩
theorem gb_below {w w' : World} (h : w.grownBy w' none) : Below w.heap.size w w' := ⟨h.os, h.tape, h.output, h.size, fun k hk => h.block k hk (by simp)⟩
theorem below_gb {w w' : World} (h : Below w.heap.size w w') (row : Option Nat) : w.grownBy w' row := ⟨h.os, h.tape, h.output, h.size, fun k hk _ => h.block k hk⟩
theorem gb_any {w w' : World} (h : w.grownBy w' none) (row : Option Nat) : w.grownBy w' row := ⟨h.os, h.tape, h.output, h.size, fun k hk _ => h.block k hk (by simp)⟩
theorem below_walk (w : World) (o : Obj) : Below w.heap.size w (w.alloc o) := (Below.refl _ _).alloc (Nat.le_refl _) _
theorem below_walk2 (w : World) (o p : Obj) : Below w.heap.size w ((w.alloc o).alloc p) := (below_walk w o).alloc (by simp) _

/-- bytes, as cells -/
def bytesV (bs : List UInt8) : List Value := bs.map fun c => Value.int .u8 c.toNat
theorem bytesV_length (bs : List UInt8) : (bytesV bs).length = bs.length := by simp [bytesV]
theorem bytesV_append (a b : List UInt8) : bytesV (a ++ b) = bytesV a ++ bytesV b := by simp [bytesV]
theorem bytesV_get (bs : List UInt8) (j : Nat) : (bytesV bs)[j]? = (bs[j]?).map (fun c => Value.int .u8 c.toNat) := by simp [bytesV]
theorem bytesV_one (bs : List UInt8) : ∀ u ∈ bytesV bs, u.oneCell' = true := by
  intro u hu
  simp only [bytesV, List.mem_map] at hu
  obtain ⟨c, _, rfl⟩ := hu
  rfl
theorem bytesV_inj {a b : List UInt8} (h : bytesV a = bytesV b) : a = b := by
  unfold bytesV at h
  refine (List.map_inj_right ?_).1 h
  intro x y hxy
  simp only [Value.int.injEq, true_and] at hxy
  exact UInt8.toNat_inj.1 (by omega)

theorem addr_add (g j : Nat) : (⟨g, 0, none⟩ : Addr).add j = ⟨g, j, none⟩ := by
  by_cases h : j = 0
  · subst h; simp [Addr.add]
  · simp [Addr.add, h]

/-- v owns the bytes bs, in memory from block 'base' on -/
def OwnB (w : World) (base : Nat) (v : Value) (bs : List UInt8) : Prop := w.ownsRow base 5 1 v bs.length (bytesV bs)
theorem OwnB.kept {w w' : World} {base : Nat} {v : Value} {bs : List UInt8} {row : Option Nat} (h : OwnB w base v bs) (hg : w.grownBy w' row) (hne : v.ownBlock = none ∨ v.ownBlock ≠ row) : OwnB w' base v bs := World.ownsRow.kept h hg hne
theorem OwnB.below {w w' : World} {base : Nat} {v : Value} {bs : List UInt8} (h : OwnB w base v bs) (hb : Below w.heap.size w w') : OwnB w' base v bs :=
  World.ownsRow.kept h (below_gb hb none) (by cases e : v.ownBlock <;> simp)
theorem OwnB.le {w : World} {base base' : Nat} {v : Value} {bs : List UInt8} (h : OwnB w base v bs) (hb : base' ≤ base) : OwnB w base' v bs :=
  ⟨h.1, h.2.elim Or.inl (fun ⟨g, cap, cur, hv, hg, r⟩ => Or.inr ⟨g, cap, cur, hv, Nat.le_trans hb hg, r⟩)⟩
theorem OwnB.forms {w : World} {base : Nat} {v : Value} {bs : List UInt8} (h : OwnB w base v bs) :
    (v = .slice none 0 0 ∧ bs = []) ∨ ∃ g cap, v = .slice (some ⟨g, 0, none⟩) bs.length cap ∧ base ≤ g ∧ g < w.heap.size ∧ bs.length ≤ cap ∧ cap ≤ maxLen ∧ (∀ j, w.frozen? ⟨g, j, none⟩ = false) ∧ ∀ j, j < bs.length → w.cell? ⟨g, j, none⟩ = some (.int .u8 (bs.getD j 0).toNat) := by
  have h' := h
  rcases h.2 with ⟨h0, h1⟩ | ⟨g, cap, cur, hv, hb, hh, h1, h2, _, _⟩
  · exact Or.inl ⟨h0, List.length_eq_zero_iff.1 h1⟩
  · refine Or.inr ⟨g, cap, hv, hb, ?_, h1, h2, ?_, ?_⟩
    · exact (World.ownsRow.lt h' g (by rw [hv]; rfl)).2
    · intro j; simp [World.frozen?, hh]
    · intro j hj
      have := World.ownsRow.cells h' (g := g) (by rw [hv]; rfl) j (.int .u8 (bs.getD j 0).toNat) (by rw [bytesV_get]; simp [List.getElem?_eq_getElem hj, List.getD_eq_getElem?_getD])
      rw [addr_add] at this
      exact this
theorem OwnB.len {w : World} {base : Nat} {v : Value} {bs : List UInt8} (h : OwnB w base v bs) : bs.length ≤ maxLen := by
  rcases h.forms with ⟨_, rfl⟩ | ⟨g, cap, _, _, _, h1, h2, _⟩
  · simp
  · omega
theorem OwnB.shape {w : World} {base : Nat} {v : Value} {bs : List UInt8} (h : OwnB w base v bs) : ∃ a cap, v = .slice a bs.length cap := by
  rcases h.forms with ⟨h1, rfl⟩ | ⟨g, cap, h1, _⟩
  · exact ⟨none, 0, h1⟩
  · exact ⟨_, _, h1⟩
theorem OwnB.lt {w : World} {base : Nat} {v : Value} {bs : List UInt8} (h : OwnB w base v bs) : ∀ k, v.ownBlock = some k → base ≤ k ∧ k < w.heap.size := World.ownsRow.lt h
theorem OwnB.nil (w : World) (base : Nat) : OwnB w base (.slice none 0 0) [] := World.ownsRow_nil _ _ _ _

/-- v is a slice that holds the bytes bs, wherever they lie -/
def Src (w : World) (v : Value) (bs : List UInt8) : Prop :=
  bs.length ≤ 140737488355327 ∧ ((v = .slice none 0 0 ∧ bs = []) ∨ ∃ ad cap, v = .slice (some ad) bs.length cap ∧ bs.length ≤ cap ∧ cap ≤ maxLen ∧ (0 < bs.length → ad.block < w.heap.size) ∧ ∀ j, j < bs.length → w.cell? (ad.add j) = some (.int .u8 (bs.getD j 0).toNat))
theorem addr_block (ad : Addr) (j : Nat) : (ad.add j).block = ad.block := by unfold Addr.add; split <;> rfl
theorem Src.below {w w' : World} {v : Value} {bs : List UInt8} (h : Src w v bs) (hb : Below w.heap.size w w') : Src w' v bs := by
  obtain ⟨h0, h | ⟨ad, cap, rfl, h1, h2, hlt, h3⟩⟩ := h
  · exact ⟨h0, Or.inl h⟩
  · exact ⟨h0, Or.inr ⟨ad, cap, rfl, h1, h2, fun h => Nat.lt_of_lt_of_le (hlt h) hb.size, fun j hj => by rw [hb.cell (p := ad.add j) (by rw [addr_block]; exact hlt (by omega))]; exact h3 j hj⟩⟩
theorem Src.grown {w w' : World} {v : Value} {bs : List UInt8} {row : Option Nat} (h : Src w v bs) (hg : w.grownBy w' row) (hne : v.ownBlock = none ∨ v.ownBlock ≠ row) : Src w' v bs := by
  obtain ⟨h0, h | ⟨ad, cap, rfl, h1, h2, hlt, h3⟩⟩ := h
  · exact ⟨h0, Or.inl h⟩
  · refine ⟨h0, Or.inr ⟨ad, cap, rfl, h1, h2, fun h => Nat.lt_of_lt_of_le (hlt h) hg.size, fun j hj => ?_⟩⟩
    rw [World.cell?_of_block (hg.block (ad.add j).block (by rw [addr_block]; exact hlt (by omega)) (by rw [addr_block]; simpa [Value.ownBlock] using hne))]
    exact h3 j hj
theorem OwnB.src {w : World} {base : Nat} {v : Value} {bs : List UInt8} (h : OwnB w base v bs) (hl : bs.length ≤ 140737488355327) : Src w v bs := by
  refine ⟨hl, ?_⟩
  rcases h.forms with h0 | ⟨g, cap, hv, _, hlt, h1, h2, _, hc⟩
  · exact Or.inl h0
  · exact Or.inr ⟨⟨g, 0, none⟩, cap, hv, h1, h2, fun _ => hlt, fun j hj => by rw [addr_add]; exact hc j hj⟩

section
variable {w : World} {b : Nat}
theorem blk_set {cs : Array Value} {T : TypeId} {i : Nat} (hb : w.heap[b]? = some (.cells cs T (0, 0))) (u : Value) :
    (w.setCell ⟨b, i, none⟩ u).heap[b]? = some (.cells (cs.setIfInBounds i u) T (0, 0)) := by
  simp [World.setCell, Array.getElem?_modify, hb]
end

theorem hid {p : Prop} (h : p) : Hid p := h

theorem src_cells {w : World} {ad : Addr} {bs : List UInt8} (hc : ∀ j, j < bs.length → w.cell? (ad.add j) = some (.int .u8 (bs.getD j 0).toNat)) :
    ∀ j u, (bytesV bs)[j]? = some u → w.cell? (ad.add j) = some u := by
  intro j u hj
  rw [bytesV_get] at hj
  have hjl : j < bs.length := by
    rcases Nat.lt_or_ge j bs.length with h | h
    · exact h
    · rw [List.getElem?_eq_none h] at hj; cases hj
  rw [hc j hjl, ← hj]
  simp [List.getElem?_eq_getElem hjl, List.getD_eq_getElem?_getD]

/-- append(own, bytes...) -/
theorem app_src {w : World} {ops : Array Oper} {rest : List Oper} {o : Oper} {a : Act} {Q : Exit → Act → World → Prop} (hgd : o.guard = none) (s x : Operand)
    (ho : o.op = .call { callee := .builtin .append, args := #[s, x], argTypes := #[27, 27] })
    (base : Nat) (v : Value) (bs : List UInt8) (hs : a.eval s = v) (hown : OwnB w base v bs) (vx : Value) (cs : List UInt8) (hx : a.eval x = vx) (hsrc : Src w vx cs)
    (hlen : bs.length + cs.length ≤ 140737488355327) (hbase : base ≤ w.heap.size)
    (h : ∀ v' w', OwnB w' base v' (bs ++ cs) → w.grownBy w' v.ownBlock → wpList Try.prog ops Q rest (a.put o.dst v') w') : wpList Try.prog ops Q (o :: rest) a w := by
  obtain ⟨i0, hi, hz0, hz1, hz2⟩ := info_parts Try.infoU8
  obtain ⟨_, ⟨rfl, rfl⟩ | ⟨ad, cap, rfl, h1, h2, hlt, hc⟩⟩ := hsrc
  · refine wpList_append_own_none hgd s x 27 ho base 5 i0 1 Try.underlying27 hi v bs.length (bytesV bs) hs hown hx ?_
    exact h v w (by simpa using hown) (gb_refl _ _)
  · refine wpList_append_own w hgd s x 27 ho base 5 i0 (.int .u8 0) 1 1 Try.underlying27 hi hz0 hz1 hz2 rfl (by decide) v bs.length (bytesV bs) hs hown ad cs.length cap (bytesV cs) hx (by simp [bytesV]) (src_cells hc) (bytesV_one cs) (by unfold maxLen; omega) (by omega) hbase ?_
    intro v' w' h3 h4 _
    exact h v' w' (by unfold OwnB; rw [bytesV_append, List.length_append]; exact h3) h4

/-- append(own, text...) -/
theorem app_str {w : World} {ops : Array Oper} {rest : List Oper} {o : Oper} {a : Act} {Q : Exit → Act → World → Prop} (hgd : o.guard = none) (s x : Operand)
    (ho : o.op = .call { callee := .builtin .append, args := #[s, x], argTypes := #[27, 9] })
    (base : Nat) (v : Value) (bs : List UInt8) (hs : a.eval s = v) (hown : OwnB w base v bs) (t : ByteArray) (hx : a.eval x = .string t)
    (hlen : bs.length + t.size ≤ 140737488355327) (hbase : base ≤ w.heap.size)
    (h : ∀ v' w', OwnB w' base v' (bs ++ t.data.toList) → w.grownBy w' v.ownBlock → wpList Try.prog ops Q rest (a.put o.dst v') w') : wpList Try.prog ops Q (o :: rest) a w := by
  obtain ⟨i0, hi, hz0, hz1, hz2⟩ := info_parts Try.infoU8
  refine Lib.wpList_append_own_string w hgd s x 27 9 ho base 5 i0 Try.underlying27 Try.underlying9 hi hz0 hz1 hz2 v bs.length (bytesV bs) hs hown t hx (by unfold maxLen; omega) (by omega) hbase ?_
  intro v' w' h3 h4 _
  refine h v' w' ?_ h4
  unfold OwnB
  rw [bytesV_append, List.length_append]
  exact h3

/-- make([]byte, 0, n) -/
theorem make_own {w : World} {ops : Array Oper} {rest : List Oper} {o : Oper} {a : Act} {Q : Exit → Act → World → Prop} (hgd : o.guard = none) (l c : Operand) (ho : o.op = Op.makeSlice 27 l c)
    (C : Int) (n : Nat) (hl : a.eval l = .int .i64 0) (hc : a.eval c = .int .i64 C) (hC : C = (n : Int)) (hn : n ≤ 140737488355327)
    (h : ∀ v' w', OwnB w' w.heap.size v' [] → Below w.heap.size w w' → wpList Try.prog ops Q rest (a.put o.dst v') w') : wpList Try.prog ops Q (o :: rest) a w := by
  obtain ⟨i0, hi, hz0, hz1, hz2⟩ := info_parts Try.infoU8
  refine wpList_make_own w hgd l c 27 ho w.heap.size 5 i0 (.int .u8 0) 1 Try.underlying27 hi hz0 hz1 .i64 .i64 C n hl hc hC (by rw [hz2]; omega) (by unfold maxLen; omega) (Nat.le_refl _) ?_
  intro w' h1 h2
  exact h _ w' h1 (gb_below h2)

/-- string(bytes) -/
theorem run_str {w : World} {v : Value} {bs : List UInt8} (h : Src w v bs) : (convert 27 9 v).run Try.prog w = .ok (.string ⟨bs.toArray⟩) w := by
  obtain ⟨_, ⟨rfl, rfl⟩ | ⟨ad, cap, rfl, h1, h2, hlt, hc⟩⟩ := h
  · rw [run_convert_bytes_string w 27 9 5 none 0 0 Try.underlying27 Try.underlying5 Try.underlying9]
    rfl
  · refine run_convert_bytes_back w 27 9 5 ad cap bs Try.underlying27 Try.underlying5 Try.underlying9 ?_
    intro j hj
    rw [hc j hj]
    simp [List.getElem?_eq_getElem hj, List.getD_eq_getElem?_getD]


end Go.Proofs.Ytjhnbihohjimmaa

/- A whole array or struct out of a block and into it, as one law each; an answer that lies in a variable. -/
namespace Go.Proofs.Ytjhnbihohjimmaa
open Go.RowKit
variable {P : Program}

theorem hp_new (w : World) (o : Obj) : (w.alloc o).heap[w.heap.size]? = some o := heap_alloc_last w o
theorem hp_old (w : World) (o : Obj) (k : Nat) (h : k < w.heap.size) : (w.alloc o).heap[k]? = w.heap[k]? := Below.heap_alloc w o k h
theorem hp_set (w : World) (b c i : Nat) (v : Value) (h : b ≠ c) : (w.setCell ⟨c, i, none⟩ v).heap[b]? = w.heap[b]? := Below.heap_setCell w _ v b (by simpa using h)
theorem hp_size (w : World) (o : Obj) : (w.alloc o).heap.size = w.heap.size + 1 := by simp
theorem hp_lt {w : World} {b : Nat} {o : Obj} (h : w.heap[b]? = some o) : b < w.heap.size := (Array.getElem?_eq_some_iff.1 h).1

/-- a whole row is read -/
theorem ld_row {w : World} {ops : Array Oper} {rest : List Oper} {op : Oper} {a : Act} {Q : Exit → Act → World → Prop} (hgd : op.guard = none) (ty : TypeId) (x : Operand) (ho : op.op = .load ty x)
    (g : Nat) (hx : a.eval x = .pointer (some ⟨g, 0, none⟩)) (cs : List Value) (t : TypeId) (hb : w.heap[g]? = some (.cells cs.toArray t (0, 0))) (d : TypeDesc)
    (hu : P.underlying ty = some d) (hd : d.isRow = true) (hi : (P.info? ty).map (·.size) = some cs.length)
    (h : wpList P ops Q rest (a.put op.dst (.agg cs.toArray)) w) : wpList P ops Q (op :: rest) a w :=
  wpList_load_mid hgd ty x ho g 0 hx cs d (fun j v hv => by rw [Nat.zero_add, cell_of_row w g j cs.toArray t (0, 0) hb]; simpa using hv) hu hd hi h

/-- the world behind a whole row's store -/
structure RowSet (w w' : World) (g : Nat) (cs : List Value) (t : TypeId) : Prop where
  blk : w'.heap[g]? = some (.cells cs.toArray t (0, 0))
  grown : w.grownBy w' (some g)
  size : w'.heap.size = w.heap.size

theorem rowSet (w : World) (g : Nat) (cs : List Value) (t : TypeId) (old : Array Value) (hg : w.heap[g]? = some (.cells old t (0, 0))) : RowSet w (w.setRow g cs.toArray) g cs t := by
  refine ⟨?_, ⟨rfl, rfl, rfl, ?_, ?_⟩, ?_⟩
  · simp [World.setRow, Array.getElem?_modify, hg]
  · simp [World.setRow]
  · intro i hi hne
    have : g ≠ i := fun e => hne (by rw [e])
    simp [World.setRow, Array.getElem?_modify, this]
  · simp [World.setRow]

/-- a whole row is written -/
theorem st_row {w : World} {ops : Array Oper} {rest : List Oper} {o : Oper} {a : Act} {Q : Exit → Act → World → Prop} (hgd : o.guard = none) (ty : TypeId) (x y : Operand) (ho : o.op = .store ty x y)
    (g : Nat) (cs : List Value) (hx : a.eval x = .pointer (some ⟨g, 0, none⟩)) (hy : a.eval y = .agg cs.toArray)
    (t : TypeId) (old : Array Value) (hg : w.heap[g]? = some (.cells old t (0, 0))) (hi : (P.info? ty).map (·.size) = some cs.length)
    (hold : old.size = cs.length) (h1 : ∀ v ∈ cs, v.oneCell' = true)
    (h : ∀ w', RowSet w w' g cs t → wpList P ops Q rest (a.put o.dst undef) w') : wpList P ops Q (o :: rest) a w :=
  wpList_store_row hgd ty x y ho g cs.toArray hx hy t old hg (by simpa using hi) (by simpa using hold) (all_oneCell_toArray h1) (h _ (rowSet w g cs t old hg))

/-- a new variable -/
theorem al_row {w : World} {ops : Array Oper} {rest : List Oper} {o : Oper} {a : Act} {Q : Exit → Act → World → Prop} (hgd : o.guard = none) (ty : TypeId) (ho : o.op = .alloc ty)
    (cs : Array Value) (hz : ∀ w, (zeroValue ty).run P w = .ok (.agg cs) w)
    (h : wpList P ops Q rest (a.put o.dst (.pointer (some ⟨w.heap.size, 0, none⟩))) (w.alloc (.cells cs ty))) : wpList P ops Q (o :: rest) a w := by
  refine wpList_plain hgd fun K hK => ?_
  unfold Oper.wp execOp
  simp only [ho, Instr.alloc, Sem.run_bind, hz, newVar, newRow, run_newObj_alloc, Sem.run_pure, Result.andThen_ok, Value.cells]
  exact hK _ _ h

/-- a whole row is written into the block that was made last -/
theorem st_new {w : World} {ops : Array Oper} {rest : List Oper} {o : Oper} {a : Act} {Q : Exit → Act → World → Prop} (hgd : o.guard = none) (ty : TypeId) (x y : Operand) (ho : o.op = .store ty x y)
    (cs : List Value) (hx : a.eval x = .pointer (some ⟨w.heap.size, 0, none⟩)) (hy : a.eval y = .agg cs.toArray)
    (t : TypeId) (old : Array Value) (hi : (P.info? ty).map (·.size) = some cs.length) (hold : old.size = cs.length) (h1 : ∀ v ∈ cs, v.oneCell' = true)
    (h : wpList P ops Q rest (a.put o.dst undef) (w.alloc (.cells cs.toArray t))) : wpList P ops Q (o :: rest) a (w.alloc (.cells old t)) :=
  wpList_store_row hgd ty x y ho w.heap.size cs.toArray hx hy t old (hp_new w _) (by simpa using hi) (by simpa using hold) (all_oneCell_toArray h1) (by rw [World.setRow_alloc_new]; exact h)

/-- a composite literal -/
theorem bd_row {w : World} {ops : Array Oper} {rest : List Oper} {o : Oper} {a : Act} {Q : Exit → Act → World → Prop} (hgd : o.guard = none) (t : TypeId) (parts : Array (Nat × Operand)) (ho : o.op = .build t parts)
    (vs : List (Nat × Value)) (hvs : (parts.map fun (i, x) => (i, a.eval x)).toList = vs) (cs : Array Value) (hb : P.built t vs = some cs)
    (h : wpList P ops Q rest (a.put o.dst (.agg cs)) w) : wpList P ops Q (o :: rest) a w :=
  wpList_build hgd t parts ho (by rw [hvs, hb]; rfl) (by rw [hvs, hb]; exact h)

/-- a new variable that holds a row -/
theorem bx_row {w : World} {ops : Array Oper} {rest : List Oper} {o : Oper} {a : Act} {Q : Exit → Act → World → Prop} (hgd : o.guard = none) (t : TypeId) (x : Operand) (ho : o.op = .box t x)
    (cs : Array Value) (hx : a.eval x = .agg cs)
    (h : wpList P ops Q rest (a.put o.dst (.pointer (some ⟨w.heap.size, 0, none⟩))) (w.alloc (.cells cs t))) : wpList P ops Q (o :: rest) a w := by
  refine wpList_plain hgd fun K hK => ?_
  unfold Oper.wp execOp
  simp only [ho, hx, Sem.run_bind, Instr.box, newVar, newRow, run_newObj_alloc, Sem.run_pure, Result.andThen_ok, Value.cells]
  exact hK _ _ h

theorem results_cell {fn : Func} {p : Tmp} {ty : TypeId} (h : fn.results = #[.cell p ty]) (tmps : Array Value) (P : Program) (w : World) :
    (results fn tmps).run P w = ((asAddr (tmps.getD p undef)).run P w).andThen fun a w₁ => (loadVar ty a).run P w₁ := by
  simp only [results, h]
  simp [Sem.run_bind, Result.andThen]

/-- the answer is a whole row that lies in a variable -/
theorem ret_row {fn : Func} {R : Ending → World → Prop} {a : Act} {w : World} (p : Tmp) (ty : TypeId) (h : fn.results = #[.cell p ty]) (g : Nat) (hp : a.tmps.getD p undef = .pointer (some ⟨g, 0, none⟩))
    (cs : List Value) (t : TypeId) (hb : w.heap[g]? = some (.cells cs.toArray t (0, 0))) (d : TypeDesc) (hu : P.underlying ty = some d) (hd : d.isRow = true) (hi : (P.info? ty).map (·.size) = some cs.length)
    (hdf : a.defers = []) (hR : R (.returned (.agg cs.toArray)) w) : bodyPost P fn R .ret a w := by
  refine bodyPost_ret (v := .agg cs.toArray) ?_ hdf hR
  rw [results_cell h, hp]
  have := run_loadVar_mid (P := P) w g 0 ty cs d (fun j v hv => by rw [Nat.zero_add, cell_of_row w g j cs.toArray t (0, 0) hb]; simpa using hv) hu hd hi
  simp [asAddr, this]

end Go.Proofs.Ytjhnbihohjimmaa

/- The check sum's mathematics: shifts, products of polynomials, sums of bytes. -/
namespace Go.Proofs.Ytjhnbihohjimmaa

/-- one shift -/
def sh (c : Nat) : Nat := if c % 2 = 1 then (c / 2) ^^^ 2197175160 else c / 2
def shN : Nat → Nat → Nat
  | 0, c => c
  | k + 1, c => sh (shN k c)

theorem xlt {a b : Nat} (ha : a < 4294967296) (hb : b < 4294967296) : a ^^^ b < 4294967296 := Nat.xor_lt_two_pow (n := 32) ha hb
theorem sh_lt {c : Nat} (h : c < 4294967296) : sh c < 4294967296 := by
  unfold sh
  split
  · exact xlt (by omega) (by omega)
  · omega
theorem shN_lt {c : Nat} (h : c < 4294967296) : ∀ k, shN k c < 4294967296
  | 0 => h
  | k + 1 => sh_lt (shN_lt h k)
theorem xor_half (a b : Nat) : (a ^^^ b) / 2 = a / 2 ^^^ b / 2 := by
  have := Nat.shiftRight_xor_distrib (a := a) (b := b) (i := 1)
  simpa [Nat.shiftRight_eq_div_pow] using this
theorem xor_odd (a b : Nat) : (a ^^^ b) % 2 = (a % 2 + b % 2) % 2 := by
  have h : (a ^^^ b).testBit 0 = (a.testBit 0 ^^ b.testBit 0) := Nat.testBit_xor ..
  simp only [Nat.testBit_zero] at h
  rcases Nat.mod_two_eq_zero_or_one a with ha | ha <;> rcases Nat.mod_two_eq_zero_or_one b with hb | hb <;> rcases Nat.mod_two_eq_zero_or_one (a ^^^ b) with hx | hx <;> simp [ha, hb, hx] at h ⊢
theorem x4 (a b p : Nat) : a ^^^ p ^^^ (b ^^^ p) = a ^^^ b := by
  rw [Nat.xor_assoc, ← Nat.xor_assoc p b p, Nat.xor_comm p b, Nat.xor_assoc b p p, Nat.xor_self, Nat.xor_zero]
theorem x3 (a b p : Nat) : a ^^^ p ^^^ b = a ^^^ b ^^^ p := by rw [Nat.xor_assoc, Nat.xor_comm p b, ← Nat.xor_assoc]
theorem x4' (a b c d : Nat) : a ^^^ b ^^^ (c ^^^ d) = a ^^^ c ^^^ (b ^^^ d) := by
  rw [Nat.xor_assoc, ← Nat.xor_assoc b c d, Nat.xor_comm b c, Nat.xor_assoc c b d, ← Nat.xor_assoc]
theorem xx (a b : Nat) : a ^^^ (a ^^^ b) = b := by rw [← Nat.xor_assoc, Nat.xor_self, Nat.zero_xor]
theorem xx' (a b : Nat) : a ^^^ b ^^^ b = a := by rw [Nat.xor_assoc, Nat.xor_self, Nat.xor_zero]
theorem xor_eq_zero {a b : Nat} (h : a ^^^ b = 0) : a = b := by
  have := congrArg (fun x => x ^^^ b) h
  simpa [xx'] using this
theorem sh_xor (a b : Nat) : sh (a ^^^ b) = sh a ^^^ sh b := by
  unfold sh
  rw [xor_half, xor_odd]
  rcases Nat.mod_two_eq_zero_or_one a with h | h <;> rcases Nat.mod_two_eq_zero_or_one b with k | k <;> simp [h, k]
  · rw [Nat.xor_assoc]
  · rw [x3]
  · rw [x4]
theorem sh_zero : sh 0 = 0 := rfl
theorem shN_zero : ∀ k, shN k 0 = 0
  | 0 => rfl
  | k + 1 => by rw [shN, shN_zero k]; rfl
theorem shN_xor (a b : Nat) : ∀ k, shN k (a ^^^ b) = shN k a ^^^ shN k b
  | 0 => rfl
  | k + 1 => by rw [shN, shN_xor a b k, sh_xor]; rfl
theorem shN_add (c j : Nat) : ∀ k, shN (j + k) c = shN k (shN j c)
  | 0 => rfl
  | k + 1 => by rw [← Nat.add_assoc, shN, shN_add c j k]; rfl
theorem shN_succ (c k : Nat) : shN (k + 1) c = shN k (sh c) := by rw [Nat.add_comm, shN_add]; rfl
theorem sh_nil {c : Nat} (h : c < 4294967296) (e : sh c = 0) : c = 0 := by
  unfold sh at e
  split at e
  · have := xor_eq_zero e; omega
  · omega
theorem shN_nil {c : Nat} (h : c < 4294967296) : ∀ k, shN k c = 0 → c = 0
  | 0, e => e
  | k + 1, e => shN_nil h k (sh_nil (shN_lt h k) e)
theorem sh_double (m : Nat) : sh (2 * m) = m := by
  unfold sh
  rw [if_neg (by omega)]
  omega
theorem shN_pow (m : Nat) : ∀ k, shN k (2 ^ k * m) = m
  | 0 => by simp [shN]
  | k + 1 => by rw [shN_succ, show 2 ^ (k + 1) * m = 2 * (2 ^ k * m) by rw [Nat.pow_succ]; simp [Nat.mul_comm, Nat.mul_left_comm], sh_double]; exact shN_pow m k

/-- the product's first k steps -/
def tmK (a b : Nat) : Nat → Nat
  | 0 => 0
  | k + 1 => tmK a b k ^^^ (if a.testBit (31 - k) then shN k b else 0)
def tm (a b : Nat) : Nat := tmK a b 32
theorem tmK_lt {a b : Nat} (hb : b < 4294967296) : ∀ k, tmK a b k < 4294967296
  | 0 => by simp [tmK]
  | k + 1 => by
    rw [tmK]
    refine xlt (tmK_lt hb k) ?_
    split
    · exact shN_lt hb k
    · omega
theorem tm_lt {a b : Nat} (hb : b < 4294967296) : tm a b < 4294967296 := tmK_lt hb 32
theorem tmK_right (a b c : Nat) : ∀ k, tmK a (b ^^^ c) k = tmK a b k ^^^ tmK a c k
  | 0 => by simp [tmK]
  | k + 1 => by
    rw [tmK, tmK, tmK, tmK_right a b c k]
    cases a.testBit (31 - k) <;> simp [shN_xor, x4']
theorem tmK_left (a b c : Nat) : ∀ k, tmK (a ^^^ b) c k = tmK a c k ^^^ tmK b c k
  | 0 => by simp [tmK]
  | k + 1 => by
    rw [tmK, tmK, tmK, tmK_left a b c k, Nat.testBit_xor, x4']
    cases a.testBit (31 - k) <;> cases b.testBit (31 - k) <;> simp
theorem lin_nil {f : Nat → Nat} (hf : ∀ a b, f (a ^^^ b) = f a ^^^ f b) : f 0 = 0 := by
  have := hf 0 0
  rw [Nat.xor_self, Nat.xor_self] at this
  exact this
theorem lin_ext {f g : Nat → Nat} (hf : ∀ a b, f (a ^^^ b) = f a ^^^ f b) (hg : ∀ a b, g (a ^^^ b) = g a ^^^ g b) (n : Nat) (h : ∀ i, i < n → f (2 ^ i) = g (2 ^ i)) :
    ∀ a, a < 2 ^ n → f a = g a := by
  induction n with
  | zero =>
    intro a ha
    obtain rfl : a = 0 := by simpa using ha
    rw [lin_nil hf, lin_nil hg]
  | succ n ih =>
    intro a ha
    have ih' := ih (fun i hi => h i (by omega))
    by_cases hlt : a < 2 ^ n
    · exact ih' a hlt
    · have h1 : a ^^^ 2 ^ n < 2 ^ n := by
        refine Nat.lt_pow_two_of_testBit _ fun i hi => ?_
        rw [Nat.testBit_xor, Nat.testBit_two_pow]
        by_cases hin : n = i
        · subst hin
          have : a.testBit n = true := by
            rw [Nat.testBit_eq_decide_div_mod_eq]
            have : a / 2 ^ n = 1 := by
              rw [Nat.div_eq_iff (Nat.two_pow_pos n)]
              rw [Nat.pow_succ] at ha
              omega
            rw [this]; rfl
          simp [this]
        · have : a.testBit i = false := Nat.testBit_lt_two_pow (Nat.lt_of_lt_of_le ha (Nat.pow_le_pow_right (by omega) (by omega)))
          simp [this, hin]
      have h2 : a = (a ^^^ 2 ^ n) ^^^ 2 ^ n := (xx' _ _).symm
      rw [h2, hf, hg, ih' _ h1, h n (by omega)]
theorem tmK_unit (i : Nat) (hi : i < 32) (b : Nat) : ∀ k, k ≤ 32 → tmK (2 ^ i) b k = if 31 - i < k then shN (31 - i) b else 0
  | 0, _ => by simp [tmK]
  | k + 1, hk => by
    rw [tmK, tmK_unit i hi b k (by omega), Nat.testBit_two_pow]
    by_cases h1 : 31 - i < k
    · have h3 : ¬ i = 31 - k := by omega
      have h4 : 31 - i < k + 1 := by omega
      simp [h1, h3, h4]
    · by_cases h2 : 31 - i = k
      · have h3 : i = 31 - k := by omega
        have h4 : 31 - i < k + 1 := by omega
        simp only [h1, h4, if_true, if_false, Nat.zero_xor]
        rw [if_pos (by simp [← h3]), h2]
      · have h3 : ¬ i = 31 - k := by omega
        have h4 : ¬ 31 - i < k + 1 := by omega
        simp [h1, h3, h4]
theorem tm_unit (i : Nat) (hi : i < 32) (b : Nat) : tm (2 ^ i) b = shN (31 - i) b := by
  unfold tm
  rw [tmK_unit i hi b 32 (by omega), if_pos (by omega)]
theorem unit_sh (j : Nat) (hj : j < 32) : 2 ^ j = shN (31 - j) 2147483648 := by
  have h := shN_pow (2 ^ j) (31 - j)
  rw [← Nat.pow_add, show 31 - j + j = 31 by omega] at h
  exact h.symm
theorem tm_comm (a b : Nat) (ha : a < 4294967296) (hb : b < 4294967296) : tm a b = tm b a := by
  refine lin_ext (f := fun x => tm x b) (g := fun x => tm b x) (fun x y => tmK_left x y b 32) (fun x y => tmK_right b x y 32) 32 (fun i hi => ?_) a ha
  refine lin_ext (f := fun y => tm (2 ^ i) y) (g := fun y => tm y (2 ^ i)) (fun x y => tmK_right (2 ^ i) x y 32) (fun x y => tmK_left x y (2 ^ i) 32) 32 (fun j hj => ?_) b hb
  show tm (2 ^ i) (2 ^ j) = tm (2 ^ j) (2 ^ i)
  rw [tm_unit i hi, tm_unit j hj, unit_sh j hj, unit_sh i hi, ← shN_add, ← shN_add, Nat.add_comm]
theorem tm_right_sh (a b : Nat) : tm a (sh b) = sh (tm a b) := by
  unfold tm
  have : ∀ k, tmK a (sh b) k = sh (tmK a b k) := by
    intro k
    induction k with
    | zero => simp [tmK, sh_zero]
    | succ k ih =>
      rw [tmK, tmK, ih, sh_xor]
      split
      · rw [← shN_succ]; rfl
      · rfl
  exact this 32
theorem tm_right_shN (a b : Nat) : ∀ k, tm a (shN k b) = shN k (tm a b)
  | 0 => rfl
  | k + 1 => by rw [shN, tm_right_sh, tm_right_shN a b k]; rfl
theorem tm_one (a : Nat) (ha : a < 4294967296) : tm a 2147483648 = a := by
  rw [tm_comm a _ ha (by omega)]
  have := tm_unit 31 (by omega) a
  simpa [shN] using this
/-- times the k-th power is k shifts -/
theorem tm_pow (a : Nat) (ha : a < 4294967296) (k : Nat) : tm a (shN k 2147483648) = shN k a := by rw [tm_right_shN, tm_one a ha]
theorem tm_pow_left (a : Nat) (ha : a < 4294967296) (k : Nat) : tm (shN k 2147483648) a = shN k a := by
  rw [tm_comm _ a (shN_lt (by omega) k) ha, tm_pow a ha]

/-- bytes taken in, without the turnings -/
def raw (c : Nat) (p : List UInt8) : Nat := p.foldl (fun c b => shN 8 (c ^^^ b.toNat)) c
theorem u8lt (b : UInt8) : b.toNat < 4294967296 := by have := b.toNat_lt; omega
theorem raw_nil (c : Nat) : raw c [] = c := by simp only [raw, List.foldl_nil]
theorem raw_cons (c : Nat) (b : UInt8) (p : List UInt8) : raw c (b :: p) = raw (shN 8 (c ^^^ b.toNat)) p := by simp only [raw, List.foldl_cons]
theorem raw_snoc (c : Nat) (b : UInt8) (p : List UInt8) : raw c (p ++ [b]) = shN 8 (raw c p ^^^ b.toNat) := by simp [raw]
theorem raw_append (c : Nat) (p q : List UInt8) : raw c (p ++ q) = raw (raw c p) q := by simp [raw]
theorem raw_lt {c : Nat} (h : c < 4294967296) (p : List UInt8) : raw c p < 4294967296 := by
  induction p generalizing c with
  | nil => exact h
  | cons b p ih => rw [raw_cons]; exact ih (shN_lt (xlt h (u8lt b)) 8)
theorem raw_take (c : Nat) (p : List UInt8) (k : Nat) (h : k < p.length) : raw c (p.take (k + 1)) = shN 8 (raw c (p.take k) ^^^ (p.getD k 0).toNat) := by
  rw [List.take_succ_eq_append_getElem h, raw_snoc]
  simp [List.getD_eq_getElem?_getD, List.getElem?_eq_getElem h]
/-- moved on over n bytes 0 -/
theorem raw_lin (c d : Nat) : ∀ p : List UInt8, raw (c ^^^ d) p = raw c p ^^^ shN (8 * p.length) d
  | [] => by simp [raw, shN]
  | b :: p => by
    rw [raw_cons, raw_cons, x3, shN_xor, raw_lin _ (shN 8 d) p, ← shN_add, List.length_cons, show 8 * (p.length + 1) = 8 + 8 * p.length by omega]
/-- the table's words -/
theorem table_word (c b : Nat) : shN 8 (c ^^^ b) = shN 8 ((c % 256) ^^^ b) ^^^ (c / 256) := by
  have h1 : c = (c % 256) ^^^ (2 ^ 8 * (c / 256)) := by
    have h2 := Nat.two_pow_add_eq_or_of_lt (i := 8) (b := c % 256) (by omega) (c / 256)
    have h3 : (c % 256) ^^^ (2 ^ 8 * (c / 256)) = 2 ^ 8 * (c / 256) + c % 256 := by
      rw [h2]
      refine Nat.eq_of_testBit_eq fun i => ?_
      rw [Nat.testBit_xor, Nat.testBit_or, Nat.testBit_two_pow_mul]
      by_cases hi : i < 8
      · simp [show ¬ i ≥ 8 by omega]
      · have : (c % 256).testBit i = false := Nat.testBit_lt_two_pow (Nat.lt_of_lt_of_le (show c % 256 < 2 ^ 8 by omega) (Nat.pow_le_pow_right (by omega) (by omega)))
        simp [this]
    rw [h3]; omega
  have h4 : c ^^^ b = (c % 256 ^^^ b) ^^^ (2 ^ 8 * (c / 256)) := (congrArg (fun x => x ^^^ b) h1).trans (x3 _ _ _)
  rw [h4, shN_xor, shN_pow]
theorem row_add (low bit : Nat) (j : Nat) (h : low % 2 ^ (j + 1) = 0) (hb : bit = 2 ^ j) : low + bit = low ^^^ bit := by
  subst hb
  obtain ⟨m, rfl⟩ : ∃ m, low = 2 ^ (j + 1) * m := ⟨low / 2 ^ (j + 1), by have := Nat.div_add_mod low (2 ^ (j + 1)); omega⟩
  have h2 := Nat.two_pow_add_eq_or_of_lt (i := j + 1) (b := 2 ^ j) (Nat.pow_lt_pow_right (by omega) (by omega)) m
  rw [h2]
  refine Nat.eq_of_testBit_eq fun i => ?_
  rw [Nat.testBit_xor, Nat.testBit_or, Nat.testBit_two_pow_mul, Nat.testBit_two_pow]
  by_cases hi : i ≥ j + 1
  · simp [show ¬ j = i by omega]
  · simp [hi]

/-- the sum that the document says -/
def moreP (c : Nat) (p : List UInt8) : Nat := 4294967295 ^^^ raw (4294967295 ^^^ c) p
def sumP (p : List UInt8) : Nat := moreP 0 p
theorem moreP_lt {c : Nat} (h : c < 4294967296) (p : List UInt8) : moreP c p < 4294967296 := xlt (by omega) (raw_lt (xlt (by omega) h) p)
theorem moreP_nil (c : Nat) : moreP c [] = c := xx _ _
theorem moreP_append (c : Nat) (p q : List UInt8) : moreP c (p ++ q) = moreP (moreP c p) q := by
  unfold moreP
  rw [raw_append, xx]
theorem sumP_lt (p : List UInt8) : sumP p < 4294967296 := moreP_lt (by omega) p
/-- the sum of two texts -/
theorem sumP_join (x y : List UInt8) : shN (8 * y.length) (sumP x) ^^^ sumP y = sumP (x ++ y) := by
  have key : ∀ S M R : Nat, S ^^^ (M ^^^ R) = M ^^^ (R ^^^ S) := fun S M R => by rw [Nat.xor_comm S, Nat.xor_assoc]
  have h := raw_lin 4294967295 (4294967295 ^^^ raw (4294967295 ^^^ 0) x) y
  rw [xx] at h
  unfold sumP
  rw [moreP_append]
  unfold moreP
  rw [xx, h, key]
  rfl

end Go.Proofs.Ytjhnbihohjimmaa

/- Rows of words and bytes, lists of bytes, in memory. -/
namespace Go.Proofs.Ytjhnbihohjimmaa
open Go.RowKit
variable {P : Program}

theorem mv_row {w : World} {ops : Array Oper} {rest : List Oper} {o : Oper} {a : Act} {Q : Exit → Act → World → Prop} (hgd : o.guard = none) (x : Operand) (ho : o.op = .move x) (v : Value) (hx : a.eval x = v)
    (h : wpList P ops Q rest (a.put o.dst v) w) : wpList P ops Q (o :: rest) a w := by
  subst hx
  refine wpList_plain hgd fun K hK => ?_
  unfold Oper.wp execOp
  simp only [ho, Sem.run_pure]
  exact hK _ _ h

def u32N (xs : List Nat) : List Value := xs.map fun (x : Nat) => Value.int .u32 (x : Int)
theorem u32N_length (xs : List Nat) : (u32N xs).length = xs.length := by simp [u32N]
theorem u32N_one (xs : List Nat) : ∀ v ∈ u32N xs, v.oneCell' = true := by
  intro v hv
  simp only [u32N, List.mem_map] at hv
  obtain ⟨c, _, rfl⟩ := hv
  rfl
theorem u32N_set (xs : List Nat) (i y : Nat) : (u32N xs).set i (.int .u32 (y : Int)) = u32N (xs.set i y) := by simp [u32N, List.map_set]
theorem row_cell {w : World} {b : Nat} {cs : List Value} {T : TypeId} (h : w.heap[b]? = some (.cells cs.toArray T (0, 0))) (i : Nat) (hi : i < cs.length) : w.cell? ⟨b, i, none⟩ = some (cs[i]) := by
  simp [World.cell?, h, hi]
theorem u32N_cell {w : World} {b : Nat} {xs : List Nat} {T : TypeId} (h : w.heap[b]? = some (.cells (u32N xs).toArray T (0, 0))) (i : Nat) (hi : i < xs.length) : w.cell? ⟨b, i, none⟩ = some (.int .u32 ((xs.getD i 0 : Nat) : Int)) := by
  rw [row_cell h i (by simpa [u32N] using hi)]
  simp [u32N, List.getD_eq_getElem?_getD, hi]
theorem row_fz {w : World} {b : Nat} {cs : Array Value} {T : TypeId} (h : w.heap[b]? = some (.cells cs T (0, 0))) (i : Nat) : w.frozen? ⟨b, i, none⟩ = false := by simp [World.frozen?, h]

theorem src_shape {w : World} {v : Value} {bs : List UInt8} (h : Src w v bs) : ∃ ao c, v = .slice ao bs.length c := by
  rcases h.2 with ⟨rfl, rfl⟩ | ⟨ad, cap, rfl, _⟩
  · exact ⟨none, 0, rfl⟩
  · exact ⟨_, _, rfl⟩

/-- v is a slice that holds these lists of bytes -/
def Lists (w : World) (v : Value) (pss : List (List UInt8)) : Prop :=
  (∃ ao c, v = .slice ao 0 c ∧ pss = []) ∨ ∃ g o c, v = .slice (some ⟨g, o, none⟩) pss.length c ∧ g < w.heap.size ∧
    ∀ j, j < pss.length → ∃ u, w.cell? ⟨g, o + j, none⟩ = some u ∧ Src w u (pss.getD j [])
theorem Lists.below {w w' : World} {v : Value} {pss : List (List UInt8)} (h : Lists w v pss) (hb : Below w.heap.size w w') : Lists w' v pss := by
  rcases h with h | ⟨g, o, c, hv, hlt, hc⟩
  · exact Or.inl h
  · refine Or.inr ⟨g, o, c, hv, Nat.lt_of_lt_of_le hlt hb.size, fun j hj => ?_⟩
    obtain ⟨u, h1, h2⟩ := hc j hj
    exact ⟨u, by rw [hb.cell (p := ⟨g, o + j, none⟩) hlt]; exact h1, h2.below hb⟩
theorem Lists.shape {w : World} {v : Value} {pss : List (List UInt8)} (h : Lists w v pss) : ∃ ao c, v = .slice ao pss.length c := by
  rcases h with ⟨ao, c, rfl, rfl⟩ | ⟨g, o, c, rfl, _⟩
  · exact ⟨_, _, rfl⟩
  · exact ⟨_, _, rfl⟩
theorem Lists.at {w : World} {ao : Option Addr} {n c : Nat} {pss : List (List UInt8)} (h : Lists w (.slice ao n c) pss) (k : Nat) (hk : k < pss.length) :
    ∃ g o, ao = some ⟨g, o, none⟩ ∧ ∃ u, w.cell? ⟨g, o + k, none⟩ = some u ∧ Src w u (pss.getD k []) := by
  rcases h with ⟨_, _, _, h0⟩ | ⟨g, o, c, hv, _, hc⟩
  · rw [h0] at hk; simp at hk
  · injection hv with h1 _ _
    obtain ⟨u, h2, h3⟩ := hc k hk
    exact ⟨g, o, h1, u, h2, h3⟩
/-- a list of one -/
theorem lists_one {w : World} {v : Value} {bs : List UInt8} (h : Src w v bs) :
    Lists (w.alloc (.cells #[v] 27)) (.slice (some ⟨w.heap.size, 0, none⟩) 1 1) [bs] := by
  have hb := hp_new w (.cells #[v] 27)
  refine Or.inr ⟨w.heap.size, 0, 1, rfl, hp_lt hb, fun j hj => ?_⟩
  match j, hj with
  | 0, _ => exact ⟨v, by rw [cell_of_row _ _ _ _ _ _ hb]; rfl, h.below (below_walk _ _)⟩
/-- a list of two -/
theorem lists_two {w : World} {v u : Value} {bs cs : List UInt8} (h : Src w v bs) (g : Src w u cs) :
    Lists (w.alloc (.cells #[v, u] 27)) (.slice (some ⟨w.heap.size, 0, none⟩) 2 2) [bs, cs] := by
  have hb := hp_new w (.cells #[v, u] 27)
  refine Or.inr ⟨w.heap.size, 0, 2, rfl, hp_lt hb, fun j hj => ?_⟩
  match j, hj with
  | 0, _ => exact ⟨v, by rw [cell_of_row _ _ _ _ _ _ hb]; rfl, h.below (below_walk _ _)⟩
  | 1, _ => exact ⟨u, by rw [cell_of_row _ _ _ _ _ _ hb]; rfl, g.below (below_walk _ _)⟩
/-- all of them, one behind the other -/
def fl (pss : List (List UInt8)) : List UInt8 := pss.flatten
theorem fl_snoc (pss : List (List UInt8)) (k : Nat) (hk : k < pss.length) : fl (pss.take (k + 1)) = fl (pss.take k) ++ pss.getD k [] := by
  unfold fl
  rw [List.take_succ_eq_append_getElem hk, List.flatten_append]
  simp only [List.flatten_cons, List.flatten_nil, List.append_nil]
  simp [List.getD_eq_getElem?_getD, hk]
theorem fl_nil : fl [] = [] := rfl
theorem fl_all (pss : List (List UInt8)) : fl (pss.take pss.length) = fl pss := by rw [List.take_length]
/-- bytes that a literal lays -/
theorem src_lit {w : World} {g : Nat} {bs : List UInt8} {C : Array Value} {fr : Nat × Nat} (hb : w.heap[g]? = some (.cells C 5 fr)) (hC : C = (bytesV bs).toArray) (hl : bs.length ≤ 1000) (n : Nat) (hn : n = bs.length) :
    Src w (.slice (some ⟨g, 0, none⟩) n n) bs := by
  subst hn hC
  refine ⟨by omega, Or.inr ⟨⟨g, 0, none⟩, bs.length, rfl, Nat.le_refl _, by unfold maxLen; omega, fun _ => hp_lt hb, fun j hj => ?_⟩⟩
  rw [addr_add, cell_of_row w g j _ _ _ hb]
  simp [bytesV, List.getD_eq_getElem?_getD, hj]
theorem src_at {w : World} {ao : Option Addr} {n c : Nat} {bs : List UInt8} (h : Src w (.slice ao n c) bs) (k : Nat) (hk : k < bs.length) :
    ∃ ad, ao = some ad ∧ w.cell? (ad.add k) = some (.int .u8 (bs.getD k 0).toNat) := by
  rcases h.2 with ⟨_, h0⟩ | ⟨ad, cap, hv, _, _, _, hc⟩
  · rw [h0] at hk; simp at hk
  · injection hv with h1
    exact ⟨ad, h1, hc k hk⟩

end Go.Proofs.Ytjhnbihohjimmaa

/- Bytes out of their reading, however many a slice may have. -/
namespace Go.Proofs.Ytjhnbihohjimmaa
open Go.ChangeShapes Go.WideShapes Go.ChangeAt Go.RowKit

theorem cellsU8 : Try.prog.cellsOf 5 = 1 := by kernel_rfl
section
variable {H : Type} {enc : TypeId × Value → H} {W : World} {spare : Nat → Bool} {held : Bool}
theorem bytes_full {ao : Option Addr} {n c : Nat} {d : DataW H} {pl : List MemPlace} (h : DataW.Trod enc Try.prog W 0 spare held 27 (.slice ao n c) d pl) (hk : ∀ elems more, d = .slice elems more → elems.length ≤ 140737488355327) :
    ∃ bs : List UInt8, Src W (.slice ao n c) bs ∧ bs.length = n := by
  obtain ⟨fuel, hf⟩ := h
  rcases open_ints Try.underlying27 Try.underlying5 cellsU8 hf with ⟨hcs, _⟩ | ⟨a, len, cap, zs, hcs, _, hl, hm, hz, hx, hcell, hwz⟩
  · simp [Value.cells] at hcs
    obtain ⟨rfl, rfl, rfl⟩ := hcs
    exact ⟨[], ⟨by simp, Or.inl ⟨rfl, rfl⟩⟩, rfl⟩
  · simp [Value.cells] at hcs
    obtain ⟨rfl, rfl, rfl⟩ := hcs
    have hlz : n ≤ zs.length := by rw [hz]; split <;> omega
    simp only [Prod.mk.injEq] at hx
    have hn : n ≤ 140737488355327 := by
      have h1 := hk _ _ hx.1
      have h2 : (lits (H := H) .u8 (zs.take n)).length = n := by simp [lits]; omega
      omega
    have hu : ∀ i, i < n → (((zs.getD i 0).toNat.toUInt8).toNat : Int) = zs.getD i 0 := by
      intro i hi
      have hm' : zs.getD i 0 ∈ zs := by
        rw [List.getD_eq_getElem?_getD, List.getElem?_eq_getElem (by omega)]
        exact List.getElem_mem _
      have hw := hwz _ hm'
      have hb : 0 ≤ zs.getD i 0 ∧ zs.getD i 0 ≤ 255 := by simpa [Lit.wf, IntKind.min, IntKind.max, IntKind.signed, IntKind.bits] using hw
      simp only [Nat.toUInt8_eq, UInt8.toNat_ofNat']
      omega
    · refine ⟨(zs.take n).map (fun z => z.toNat.toUInt8), ⟨by simp; omega, Or.inr ⟨a, c, by simp; omega, by simp; omega, hm, fun h => World.block_lt_of_cell? W a (u := .int .u8 (zs.getD 0 0)) (by simp at h; simpa [Addr.add] using hcell 0 (by omega)), fun j hj => ?_⟩⟩, by simp; omega⟩
      have hj' : j < n ∧ j < zs.length := by simp at hj; omega
      have hju := hu j hj'.1
      rw [hcell j hj'.2, ← hju]
      simp [List.getD_eq_getElem?_getD, hj'.1, List.getElem?_eq_getElem hj'.2]
end

end Go.Proofs.Ytjhnbihohjimmaa

/- From what the rows say of the arguments to what the walks want: numbers, bytes, lists of bytes. -/
namespace Go.Proofs.Ytjhnbihohjimmaa
open Go.ChangeShapes Go.WideShapes Go.ChangeAt Go.RowKit

theorem own : ownKnob Try.prog.godebug = none := by kernel_rfl
theorem laidOut : laidOutB Try.prog = true := by kernel_rfl
theorem cellsBytes : Try.prog.cellsOf 27 = 1 := by kernel_rfl
theorem bytesU8 : Try.prog.bytesOf 5 = 1 := by kernel_rfl
theorem bytesSl : Try.prog.bytesOf 27 = 24 := by kernel_rfl

theorem wf_i64 {n : Int} (h : (Lit.int .i64 n).wf = true) : -9223372036854775808 ≤ n ∧ n ≤ 9223372036854775807 := by
  simpa [Lit.wf, IntKind.min, IntKind.max, IntKind.signed, IntKind.bits] using h
theorem wf_u32 {n : Int} (h : (Lit.int .u32 n).wf = true) : 0 ≤ n ∧ n ≤ 4294967295 := by
  simpa [Lit.wf, IntKind.min, IntKind.max, IntKind.signed, IntKind.bits] using h
theorem wf_u8 {n : Int} (h : (Lit.int .u8 n).wf = true) : 0 ≤ n ∧ n ≤ 255 := by
  simpa [Lit.wf, IntKind.min, IntKind.max, IntKind.signed, IntKind.bits] using h
theorem addr_plain {w : World} {a : Addr} {v : Value} (h : w.cell? a = some v) : a = ⟨a.block, a.off, none⟩ := by
  obtain ⟨b, o, sp⟩ := a
  cases sp with
  | none => rfl
  | some s =>
    unfold World.cell? at h
    split at h <;> simp at h
theorem add_plain (b o j : Nat) : (⟨b, o, none⟩ : Addr).add j = ⟨b, o + j, none⟩ := by
  by_cases h : j = 0
  · subst h; simp [Addr.add]
  · simp [Addr.add, h]
theorem list_of {α : Type} {P : Nat → α → Prop} : ∀ {n : Nat}, (∀ i, i < n → ∃ x, P i x) → ∃ l : List α, l.length = n ∧ ∀ j x, l[j]? = some x → P j x
  | 0, _ => ⟨[], rfl, by intro j x h; simp at h⟩
  | n + 1, h => by
    obtain ⟨l, hl, hp⟩ := list_of (n := n) (fun i hi => h i (by omega))
    obtain ⟨x, hx⟩ := h n (by omega)
    refine ⟨l ++ [x], by simp [hl], fun j y hj => ?_⟩
    rcases Nat.lt_or_ge j n with hjn | hjn
    · rw [List.getElem?_append_left (by omega)] at hj
      exact hp j y hj
    · rw [List.getElem?_append_right (by omega)] at hj
      have : j - l.length = 0 := by
        rcases Nat.eq_zero_or_pos (j - l.length) with h0 | h0
        · exact h0
        · rw [List.getElem?_eq_none (by simp; omega)] at hj; cases hj
      rw [this] at hj
      simp at hj
      subst hj
      obtain rfl : j = n := by omega
      exact hx
theorem weightsAll_mem {H : Type} {P : Program} {e : TypeId} : ∀ {l : List (DataW H)} {d : DataW H}, d ∈ l → ∀ n ∈ d.weights P e, n ∈ DataW.weightsAll P e l
  | d' :: r, d, hd, n, hn => by
    simp only [DataW.weightsAll, List.mem_append]
    rcases List.mem_cons.1 hd with rfl | h
    · exact Or.inl hn
    · exact Or.inr (weightsAll_mem h n hn)

section
variable {H : Type} {enc : TypeId × Value → H} {W : World} {spare : Nat → Bool} {held : Bool}
/-- bytes out of their reading -/
theorem bytes_w {ao : Option Addr} {n c : Nat} {d : DataW H} {pl : List MemPlace} (h : DataW.Trod enc Try.prog W 0 spare held 27 (.slice ao n c) d pl) (hk : ∀ x ∈ d.weights Try.prog 27, x ≤ reachBytes) :
    ∃ bs : List UInt8, Src W (.slice ao n c) bs ∧ bs.length = n ∧ bs.length ≤ reachBytes := by
  have hr : reachBytes < 2 ^ 47 := reachBytes_lt
  have hb : ∀ elems more, d = .slice elems more → elems.length ≤ reachBytes := fun elems more e => by
    subst e
    have := hk ((elems.length + more.length) * Try.prog.bytesOf 5) (by simp [DataW.weights, Try.underlying27])
    rw [bytesU8] at this
    omega
  obtain ⟨bs, h1, h2⟩ := bytes_full h (fun el mo e => by have := hb el mo e; omega)
  refine ⟨bs, h1, h2, ?_⟩
  obtain ⟨fuel, hf⟩ := h
  rcases Go.Deep.open_slice1 Try.underlying27 cellsU8 hf with ⟨hcs, _⟩ | ⟨a, len, cap, m, n', V, D, Pl, hcs, _, _, _, _, hx, _⟩
  · simp [Value.cells] at hcs
    rw [h2, hcs.2.1]
    exact Nat.zero_le _
  · simp [Value.cells] at hcs
    simp only [Prod.mk.injEq] at hx
    have := hb _ _ hx.1
    simp at this
    omega
/-- lists of bytes out of their reading -/
theorem lists_w {ao : Option Addr} {n c : Nat} {d : DataW H} {pl : List MemPlace} (h : DataW.Trod enc Try.prog W 0 spare held 35 (.slice ao n c) d pl) (hk : ∀ x ∈ d.weights Try.prog 35, x ≤ reachBytes) :
    ∃ pss : List (List UInt8), Lists W (.slice ao n c) pss ∧ pss.length = n ∧ n ≤ 140737488355327 := by
  have hr : reachBytes < 2 ^ 47 := reachBytes_lt
  obtain ⟨fuel, hf⟩ := h
  rcases Go.Deep.open_slice1 Try.underlying35 cellsBytes hf with ⟨hcs, _⟩ | ⟨a, len, cap, m, n', V, D, Pl, hcs, _, hl, _, hmm, hx, hel⟩
  · simp [Value.cells] at hcs
    obtain ⟨rfl, rfl, rfl⟩ := hcs
    exact ⟨[], Or.inl ⟨none, 0, rfl, rfl⟩, rfl, by omega⟩
  · simp [Value.cells] at hcs
    obtain ⟨rfl, rfl, rfl⟩ := hcs
    simp only [Prod.mk.injEq] at hx
    obtain ⟨rfl, _⟩ := hx
    have hlm : n ≤ m := by rw [hmm]; split <;> omega
    have hn : n ≤ 140737488355327 := by
      have := hk (((List.range n).map D).length * Try.prog.bytesOf 27 + ((List.range (m - n)).map fun j => D (n + j)).length * Try.prog.bytesOf 27) (by simp [DataW.weights, Try.underlying35, Nat.add_mul])
      rw [bytesSl] at this
      simp at this
      omega
    have hin : ∀ i, i < n → ∃ bs : List UInt8, Src W (V i) bs := by
      intro i hi
      obtain ⟨h1, h2⟩ := hel i (by omega)
      have hw : ∀ x ∈ (D i).weights Try.prog 27, x ≤ reachBytes := fun x hxm => hk x (by
        simp only [DataW.weights, Try.underlying35, List.mem_cons, List.mem_append]
        exact Or.inr (Or.inl (weightsAll_mem (List.mem_map.2 ⟨i, List.mem_range.2 hi, rfl⟩) x hxm)))
      obtain ⟨ai, ni, ci, hV⟩ : ∃ ai ni ci, V i = .slice ai ni ci := by
        rcases DataW.trod_slice Try.underlying27 h2 with ⟨hc, _⟩ | ⟨a', len', cap', _, _, _, _, hc, _⟩
        · simp at hc; exact ⟨_, _, _, hc⟩
        · simp at hc; exact ⟨_, _, _, hc⟩
      rw [hV] at h2 ⊢
      obtain ⟨bs, hb, _⟩ := bytes_w (pl := Pl i) (d := D i) ⟨n', by simpa [Value.cells] using h2⟩ hw
      exact ⟨bs, hb⟩
    obtain ⟨pss, hpl, hps⟩ := list_of hin
    rcases Nat.eq_zero_or_pos n with rfl | hpos
    · exact ⟨[], Or.inl ⟨_, _, rfl, rfl⟩, rfl, by omega⟩
    · have h0 := (hel 0 (by omega)).1
      have ha : a = ⟨a.block, a.off, none⟩ := addr_plain (v := V 0) (by simpa [Addr.add] using h0)
      have hlt : a.block < W.heap.size := World.block_lt_of_cell? W a (u := V 0) (by simpa [Addr.add] using h0)
      generalize a.block = g at ha hlt
      generalize a.off = o at ha
      subst ha
      refine ⟨pss, Or.inr ⟨g, o, c, by rw [hpl], hlt, fun j hj => ?_⟩, hpl, hn⟩
      have h1 := (hel j (by omega)).1
      rw [add_plain] at h1
      refine ⟨V j, h1, ?_⟩
      exact hps j _ (by simp [List.getD_eq_getElem?_getD, List.getElem?_eq_getElem hj])
theorem sized_at {ts : List TypeId} {ds : List (DataW H)} (h : ((DataW.weightsEach Try.prog ts ds).all fun x => decide (x ≤ reachBytes)) = true) {j : Nat} {t : TypeId} {d : DataW H} (ht : ts[j]? = some t) (hd : ds[j]? = some d) : ∀ x ∈ d.weights Try.prog t, x ≤ reachBytes :=
  fun x hx => of_decide_eq_true (List.all_eq_true.1 h _ (DataW.weights_mem_each ht hd x hx))
end

end Go.Proofs.Ytjhnbihohjimmaa

/- Bytes that a duct holds: a slice of one's own, wherever in its block it begins; append to it; a duct's block; the document's. -/
namespace Go.Proofs.Ytjhnbihohjimmaa
open Go.RowKit

/-- v holds the bytes bs, in memory of its own from block 'base' on, spare room behind them -/
def Hel (w : World) (base : Nat) (v : Value) (bs : List UInt8) : Prop :=
  (v = .slice none 0 0 ∧ bs = []) ∨ ∃ g o cap, v = .slice (some ⟨g, o, none⟩) bs.length cap ∧ base ≤ g ∧ g < w.heap.size ∧ bs.length ≤ cap ∧ cap ≤ maxLen ∧
    (∀ j, j < cap → (w.cell? ⟨g, o + j, none⟩).isSome = true ∧ w.frozen? ⟨g, o + j, none⟩ = false) ∧ ∀ j, j < bs.length → w.cell? ⟨g, o + j, none⟩ = some (.int .u8 (bs.getD j 0).toNat)

theorem at_off (g o j : Nat) : (⟨g, o, none⟩ : Addr).add j = ⟨g, o + j, none⟩ := by
  by_cases h : j = 0
  · subst h; simp [Addr.add]
  · simp [Addr.add, h]
theorem Hel.nil (w : World) (base : Nat) : Hel w base (.slice none 0 0) [] := Or.inl ⟨rfl, rfl⟩
theorem Hel.shape {w : World} {base : Nat} {v : Value} {bs : List UInt8} (h : Hel w base v bs) : ∃ ao cap, v = .slice ao bs.length cap := by
  rcases h with ⟨rfl, rfl⟩ | ⟨g, o, cap, rfl, _⟩
  · exact ⟨none, 0, rfl⟩
  · exact ⟨_, _, rfl⟩
theorem Hel.form {w : World} {base : Nat} {v : Value} {bs : List UInt8} (h : Hel w base v bs) : ∃ ao n cap, v = .slice ao n cap := by
  obtain ⟨a, c, h⟩ := h.shape
  exact ⟨_, _, _, h⟩
theorem Hel.lt {w : World} {base : Nat} {v : Value} {bs : List UInt8} (h : Hel w base v bs) : ∀ k, v.ownBlock = some k → base ≤ k ∧ k < w.heap.size := by
  intro k hk
  rcases h with ⟨rfl, rfl⟩ | ⟨g, o, cap, rfl, h1, h2, _⟩
  · cases hk
  · simp only [Value.ownBlock, Option.some.injEq] at hk
    subst hk
    exact ⟨h1, h2⟩
theorem Hel.kept {w w' : World} {base : Nat} {v : Value} {bs : List UInt8} {row : Option Nat} (h : Hel w base v bs) (hg : w.grownBy w' row) (hne : v.ownBlock = none ∨ v.ownBlock ≠ row) : Hel w' base v bs := by
  rcases h with h | ⟨g, o, cap, rfl, h1, h2, h3, h4, h5, h6⟩
  · exact Or.inl h
  · have hb : w'.heap[g]? = w.heap[g]? := hg.block g h2 (by simpa [Value.ownBlock] using hne)
    have e1 : ∀ i, w'.cell? ⟨g, i, none⟩ = w.cell? ⟨g, i, none⟩ := fun i => World.cell?_of_block hb
    have e2 : ∀ i, w'.frozen? ⟨g, i, none⟩ = w.frozen? ⟨g, i, none⟩ := fun i => World.frozen?_of_block hb
    exact Or.inr ⟨g, o, cap, rfl, h1, Nat.lt_of_lt_of_le h2 hg.size, h3, h4, fun j hj => by rw [e1, e2]; exact h5 j hj, fun j hj => by rw [e1]; exact h6 j hj⟩
theorem Hel.below {w w' : World} {base : Nat} {v : Value} {bs : List UInt8} (h : Hel w base v bs) (hb : Below w.heap.size w w') : Hel w' base v bs :=
  h.kept (below_gb hb none) (by cases e : v.ownBlock <;> simp)
theorem Hel.le {w : World} {base base' : Nat} {v : Value} {bs : List UInt8} (h : Hel w base v bs) (hb : base' ≤ base) : Hel w base' v bs := by
  rcases h with h | ⟨g, o, cap, rfl, h1, r⟩
  · exact Or.inl h
  · exact Or.inr ⟨g, o, cap, rfl, Nat.le_trans hb h1, r⟩
theorem Hel.src {w : World} {base : Nat} {v : Value} {bs : List UInt8} (h : Hel w base v bs) (hl : bs.length ≤ 140737488355327) : Src w v bs := by
  refine ⟨hl, ?_⟩
  rcases h with h | ⟨g, o, cap, rfl, h1, h2, h3, h4, h5, h6⟩
  · exact Or.inl h
  · exact Or.inr ⟨⟨g, o, none⟩, cap, rfl, h3, h4, fun _ => h2, fun j hj => by rw [at_off]; exact h6 j hj⟩
theorem own_hel {w : World} {base : Nat} {v : Value} {bs : List UInt8} (h : OwnB w base v bs) : Hel w base v bs := by
  have hf := h.forms
  rcases h.2 with ⟨h0, h1⟩ | ⟨g, cap, cur, hv, hb, hh, h1, h2, h3, h4⟩
  · exact Or.inl ⟨h0, List.length_eq_zero_iff.1 h1⟩
  · rcases hf with ⟨h5, _⟩ | ⟨g', cap', h5, _, hlt, _, _, _, hc⟩
    · rw [hv] at h5; cases h5
    · rw [hv] at h5
      injection h5 with e1 _ e2
      injection e1 with e1
      obtain rfl : g = g' := by injection e1
      refine Or.inr ⟨g, 0, cap, hv, hb, hlt, h1, h2, fun j hj => ?_, fun j hj => by rw [Nat.zero_add]; exact hc j hj⟩
      rw [Nat.zero_add]
      refine ⟨?_, by simp [World.frozen?, hh]⟩
      rw [cell_of_row w g j cur _ _ hh]
      simp
      omega

theorem gb_setCells (w : World) (g : Nat) : ∀ (vs : List Value) (o : Nat) (W : World), w.grownBy W (some g) → w.grownBy (W.setCells g o vs) (some g)
  | [], _, _, h => h
  | v :: r, o, W, h => gb_setCells w g r (o + 1) _ (gb_trans h (gb_set W ⟨g, o, none⟩ v))

theorem size_sc (g : Nat) : ∀ (vs : List Value) (o : Nat) (W : World), (W.setCells g o vs).heap.size = W.heap.size
  | [], _, _ => rfl
  | v :: r, o, W => by rw [World.setCells, size_sc g r]; simp

theorem run_none_any {P : Program} {w : World} {t ty e : TypeId} {i : TypeInfo} (ht : P.underlying t = some (.slice e)) (hi : P.info? e = some i) (ad : Addr) (n c : Nat) (hn : n ≤ c) :
    (Builtin.append_ #[t, t] ty #[.slice (some ad) n c, .slice none 0 0]).run P w = .ok (.slice (some ad) n c) w := by
  simp [Builtin.append_, run_underlying ht, sizeOf, typeInfo, hi, Builtin.lenOf, Builtin.firstCells, hn, storeCells]

/-- what append does to bytes that are held -/
theorem run_app_hel (w : World) (ty : TypeId) (base : Nat) (v : Value) (bs : List UInt8) (hv : Hel w base v bs) (vx : Value) (cs : List UInt8) (hx : Src w vx cs) (hlen : bs.length + cs.length ≤ 140737488355327) (hbase : base ≤ w.heap.size) :
    ∃ v' w', (Builtin.append_ #[27, 27] ty #[v, vx]).run Try.prog w = .ok v' w' ∧ Hel w' base v' (bs ++ cs) ∧ w.grownBy w' v.ownBlock ∧ (v'.ownBlock = v.ownBlock ∨ v'.ownBlock = some w.heap.size) := by
  obtain ⟨i0, hi, hz0, hz1, hz2⟩ := info_parts Try.infoU8
  rcases hv with ⟨rfl, rfl⟩ | ⟨g, o, cap, rfl, h1, h2, h3, h4, h5, h6⟩
  · rcases hx.2 with ⟨rfl, rfl⟩ | ⟨ad, c, rfl, k1, k2, k3, k4⟩
    · refine ⟨_, w, run_append_owned_none (P := Try.prog) (w := w) base 27 ty 5 i0 1 Try.underlying27 hi (.slice none 0 0) 0 [] (World.ownsRow_nil _ _ _ _), Hel.nil _ _, gb_refl _ _, Or.inl rfl⟩
    · by_cases h0 : cs.length = 0
      · obtain rfl := List.length_eq_zero_iff.1 h0
        obtain ⟨v', w', hr, ho, hg, he⟩ := run_append_own (P := Try.prog) w base 27 ty 5 i0 (.int .u8 0) 1 1 Try.underlying27 hi hz0 hz1 hz2 rfl (by decide) (.slice none 0 0) 0 [] (World.ownsRow_nil _ _ _ _) ad 0 c [] (by simp) (by simp) (by simp) (by unfold maxLen; omega) (by omega) hbase
        obtain rfl := he.2 ⟨rfl, rfl⟩
        exact ⟨_, w', hr, Hel.nil _ _, hg, Or.inl rfl⟩
      · have hr := run_append_nil (P := Try.prog) w 27 ty 5 i0 (.int .u8 0) Try.underlying27 hi hz0 ad cs.length c (bytesV cs) (by simp [bytesV, hz1]) (src_cells k4) (by omega) (by omega) (by rw [hz2]; omega)
        obtain ⟨v', w', hr', ho, hg, he⟩ := run_append_own (P := Try.prog) w base 27 ty 5 i0 (.int .u8 0) 1 1 Try.underlying27 hi hz0 hz1 hz2 rfl (by decide) (.slice none 0 0) 0 [] (World.ownsRow_nil _ _ _ _) ad cs.length c (bytesV cs) (by simp [bytesV]) (src_cells k4) (bytesV_one cs) (by unfold maxLen; simp at hlen; omega) (by simp at hlen; omega) hbase
        rw [hr'] at hr
        injection hr with e1 e2
        refine ⟨v', w', hr', ?_, hg, Or.inr ?_⟩
        · refine own_hel ?_
          unfold OwnB
          simpa using ho
        · rw [e1]; rfl
  · rcases hx.2 with ⟨rfl, rfl⟩ | ⟨ad, c, rfl, k1, k2, k3, k4⟩
    · refine ⟨_, w, run_none_any Try.underlying27 hi _ _ _ h3, ?_, gb_refl _ _, Or.inl rfl⟩
      rw [List.append_nil]
      exact Or.inr ⟨g, o, cap, rfl, h1, h2, h3, h4, h5, h6⟩
    · by_cases hr : bs.length + cs.length ≤ cap
      · have hrun := run_append_room_cells (P := Try.prog) w 27 ty 5 i0 Try.underlying27 hi g o bs.length cap ad cs.length c (bytesV cs) (by simp [bytesV, hz1]) (src_cells k4) (bytesV_one cs) hr
          (fun j hj => by rw [hz1, Nat.mul_one, Nat.add_assoc]; exact (h5 _ (by rw [bytesV_length] at hj; omega)).1) (fun j hj => by rw [hz1, Nat.mul_one, Nat.add_assoc]; exact (h5 _ (by rw [bytesV_length] at hj; omega)).2)
        rw [hz1, Nat.mul_one] at hrun
        have hsome : ∀ j, j < (bytesV cs).length → (w.cell? ⟨g, o + bs.length + j, none⟩).isSome = true := fun j hj => by rw [Nat.add_assoc]; exact (h5 _ (by rw [bytesV_length] at hj; omega)).1
        refine ⟨_, _, hrun, Or.inr ⟨g, o, cap, by rw [List.length_append], h1, by rw [size_sc]; exact h2, by rw [List.length_append]; exact hr, h4, fun j hj => ?_, fun j hj => ?_⟩, gb_setCells w g _ _ w (gb_refl _ _), Or.inl rfl⟩
        · refine ⟨?_, by rw [World.frozen?_setCells]; exact (h5 j hj).2⟩
          by_cases hin : bs.length ≤ j ∧ j < bs.length + cs.length
          · have := World.cell?_setCells_in g (bytesV cs) (o + bs.length) w hsome (j - bs.length) (by rw [bytesV_length]; omega)
            rw [show o + bs.length + (j - bs.length) = o + j by omega] at this
            rw [this]; rfl
          · rw [World.cell?_setCells_out g (bytesV cs) (o + bs.length) w ⟨g, o + j, none⟩ (fun _ _ => by rw [bytesV_length]; show o + j < _ ∨ _ ≤ o + j; omega)]
            exact (h5 j hj).1
        · rw [List.length_append] at hj
          by_cases hlt : j < bs.length
          · rw [World.cell?_setCells_out g (bytesV cs) (o + bs.length) w ⟨g, o + j, none⟩ (fun _ _ => by show o + j < _ ∨ _ ≤ o + j; omega), h6 j hlt]
            simp [List.getD_eq_getElem?_getD, List.getElem?_append_left hlt]
          · have := World.cell?_setCells_in g (bytesV cs) (o + bs.length) w hsome (j - bs.length) (by rw [bytesV_length]; omega)
            rw [show o + bs.length + (j - bs.length) = o + j by omega] at this
            rw [this]
            simp [bytesV, List.getD_eq_getElem?_getD, List.getElem?_append_right (show bs.length ≤ j by omega), List.getElem?_eq_getElem (show j - bs.length < cs.length by omega)]
      · have holds : ∀ j u, (bytesV bs)[j]? = some u → w.cell? ((⟨g, o, none⟩ : Addr).add j) = some u := src_cells (fun j hj => by rw [at_off]; exact h6 j hj)
        have hrun := run_append_grow (P := Try.prog) w 27 ty 5 i0 (.int .u8 0) Try.underlying27 hi hz0 ⟨g, o, none⟩ bs.length cap (bytesV bs) (by simp [bytesV, hz1]) holds ad cs.length c (bytesV cs) (by simp [bytesV, hz1]) (src_cells k4) (by omega) (by omega) (growslice_fits (by omega) (by rw [hz2]; omega))
        refine ⟨_, _, hrun, ?_, ?_, Or.inr rfl⟩
        · have hge := grownCap_ge w (bs.length + cs.length) cap 5
          have hcm : grownCap w (bs.length + cs.length) cap 5 ≤ maxLen := grownCap_le_maxLen w _ cap 5 (by unfold maxLen; omega)
          refine own_hel ⟨by simp [bytesV], Or.inr ⟨w.heap.size, _, _, by rw [List.length_append], hbase, heap_alloc_new w.drew _, by rw [List.length_append]; exact hge, hcm, ?_, ?_⟩⟩
          · simp only [Array.size_append, List.size_toArray, size_zeroCells, bytesV_length, Value.cells]
            simp
            omega
          · rw [bytesV_append, List.length_append]
            simp only [Array.toList_append]
            rw [show (bs.length + cs.length) * 1 = (bytesV bs ++ bytesV cs).length by simp [bytesV]]
            exact List.take_left
        · exact ⟨rfl, rfl, rfl, by simp, fun k hk _ => Below.heap_alloc w.drew _ k hk⟩

/-- append(held, bytes...) -/
theorem app_hel {w : World} {ops : Array Oper} {rest : List Oper} {o : Oper} {a : Act} {Q : Exit → Act → World → Prop} (hgd : o.guard = none) (s x : Operand)
    (ho : o.op = .call { callee := .builtin .append, args := #[s, x], argTypes := #[27, 27] })
    (base : Nat) (v : Value) (bs : List UInt8) (hs : a.eval s = v) (hown : Hel w base v bs) (vx : Value) (cs : List UInt8) (hx : a.eval x = vx) (hsrc : Src w vx cs)
    (hlen : bs.length + cs.length ≤ 140737488355327) (hbase : base ≤ w.heap.size)
    (h : ∀ v' w', Hel w' base v' (bs ++ cs) → w.grownBy w' v.ownBlock → (v'.ownBlock = v.ownBlock ∨ v'.ownBlock = some w.heap.size) → wpList Try.prog ops Q rest (a.put o.dst v') w') : wpList Try.prog ops Q (o :: rest) a w := by
  obtain ⟨v', w', hr, h1, h2, h3⟩ := run_app_hel w o.type base v bs hown vx cs hsrc hlen hbase
  refine wpList_plain hgd fun K hK => ?_
  unfold Oper.wp execOp
  simp only [ho, resolve, invoke, builtin, Sem.run_bind, Sem.run_pure, Result.andThen_ok, List.map_toArray, List.map_cons, List.map_nil, hs, hx, hr]
  exact hK _ _ (h v' w' h1 h2 h3)

theorem cut_end {w : World} {v : Value} {bs : List UInt8} (h : Src w v bs) (k : Nat) (hk : k ≤ bs.length) :
    ∃ vx, Src w vx (bs.drop k) ∧ (∀ j, vx.ownBlock = some j → v.ownBlock = some j) ∧ (∀ W, (Instr.sliceAt 27 v (some (.int .i64 (k : Int))) none none).run Try.prog W = .ok vx W) := by
  obtain ⟨hl, ⟨rfl, rfl⟩ | ⟨ad, cap, rfl, h1, h2, hlt, hc⟩⟩ := h
  · simp at hk
    subst hk
    exact ⟨.slice none 0 0, ⟨by simp, Or.inl ⟨rfl, rfl⟩⟩, fun j e => e, fun W => by go_simp⟩
  · have hlen : (bs.drop k).length = bs.length - k := by simp
    have hk2 : (k : Int) ≤ (bs.length : Int) := by omega
    refine ⟨.slice (if cap = k then some ad else some (ad.add k)) (bs.length - k) (cap - k), ⟨by omega, Or.inr ?_⟩, fun j e => ?_, fun W => ?_⟩
    · by_cases hck : cap = k
      · rw [if_pos hck]
        exact ⟨ad, cap - k, by rw [hlen], by omega, by omega, fun h => by omega, fun j hj => by omega⟩
      · rw [if_neg hck]
        refine ⟨ad.add k, cap - k, by rw [hlen], by omega, by omega, fun h => by rw [addr_block]; exact hlt (by omega), fun j hj => ?_⟩
        rw [hlen] at hj
        rw [Addr.add_add, hc (k + j) (by omega)]
        simp [List.getD_eq_getElem?_getD]
    · by_cases hck : cap = k
      · rw [if_pos hck] at e; exact e
      · rw [if_neg hck] at e
        simpa [Value.ownBlock, addr_block] using e
    · go_simp

/-- how a slice is cut at its beginning -/
theorem cut_begin {w : World} {v : Value} {bs : List UInt8} (h : Src w v bs) (k : Nat) (hk : k ≤ bs.length) :
    ∃ vx, Src w vx (bs.take k) ∧ (∀ W, (Instr.sliceAt 27 v none (some (.int .i64 (k : Int))) none).run Try.prog W = .ok vx W) := by
  obtain ⟨hl, ⟨rfl, rfl⟩ | ⟨ad, cap, rfl, h1, h2, hlt, hc⟩⟩ := h
  · simp at hk
    subst hk
    exact ⟨.slice none 0 0, ⟨by simp, Or.inl ⟨rfl, rfl⟩⟩, fun W => by go_simp⟩
  · have hlen : (bs.take k).length = k := by simp; omega
    refine ⟨.slice (some ad) k cap, ⟨by omega, Or.inr ⟨ad, cap, by rw [hlen], by omega, h2, fun h => hlt (by omega), fun j hj => ?_⟩⟩, fun W => ?_⟩
    · rw [hlen] at hj
      rw [hc j (by omega)]
      simp [List.getD_eq_getElem?_getD, hj]
    · have hk2 : (k : Int) ≤ (cap : Int) := by omega
      go_simp

/-- a number xs four bytes, the lowest first -/

theorem step_app_src {ops : Array Oper} {o : Oper} {act : Act} {w : World} {K : Act → World → Prop} {Q : Exit → Act → World → Prop} {E : Prop} (hgd : o.guard = none) (s x : Operand)
    (ho : o.op = .call { callee := .builtin .append, args := #[s, x], argTypes := #[27, 27] })
    (base : Nat) (v : Value) (bs : List UInt8) (hs : act.eval s = v) (hown : OwnB w base v bs) (vx : Value) (cs : List UInt8) (hx : act.eval x = vx) (hsrc : Src w vx cs)
    (hlen : bs.length + cs.length ≤ 140737488355327) (hbase : base ≤ w.heap.size)
    (h : ∀ v' w', OwnB w' base v' (bs ++ cs) → w.grownBy w' v.ownBlock → K (act.put o.dst v') w') :
    if Region.wanted o (yielded ops act.tmps) = true then Oper.wp Try.prog o act w K Q else E := by
  have hw : Region.wanted o (yielded ops act.tmps) = true := by simp [Region.wanted, hgd]
  rw [if_pos hw]
  obtain ⟨i0, hi, hz0, hz1, hz2⟩ := info_parts Try.infoU8
  obtain ⟨_, ⟨rfl, rfl⟩ | ⟨ad, cap, rfl, h1, h2, hlt, hc⟩⟩ := hsrc
  · have hrun := run_append_owned_none (P := Try.prog) (w := w) base 27 o.type 5 i0 1 Try.underlying27 hi v bs.length (bytesV bs) hown
    unfold Oper.wp
    simp [execOp, ho, resolve, invoke, builtin, hs, hx, hrun, Result.andThen]
    exact h v w (by simpa using hown) (gb_refl _ _)
  · obtain ⟨v', w', hrun, r1, r2, _⟩ := run_append_own (P := Try.prog) w base 27 o.type 5 i0 (.int .u8 0) 1 1 Try.underlying27 hi hz0 hz1 hz2 rfl (by decide) v bs.length (bytesV bs) hown ad cs.length cap (bytesV cs) (by simp [bytesV]) (src_cells hc) (bytesV_one cs) (by unfold maxLen; omega) (by omega) hbase
    unfold Oper.wp
    simp [execOp, ho, resolve, invoke, builtin, hs, hx, hrun, Result.andThen]
    exact h v' w' (by unfold OwnB; rw [bytesV_append, List.length_append]; exact r1) r2

set_option maxHeartbeats 1000000 in
theorem bequal_true (w : World) (va vb : Value) (bs : List UInt8) (ha : Src w va bs) (hb : Src w vb bs) :
    Calls Try.prog 23 #[va, vb] w fun e w' => e = .returned (.bool true) ∧ w' = w := by
  have k1 := run_str ha
  have k2 := run_str hb
  clear ha hb
  go_enter Try.func23, Try.ntmps23
  go_wp2
  go_ret
  exact ⟨rfl, rfl⟩

/-- append(held, bytes...), as a step of a region that draws -/
theorem step_app_hel {ops : Array Oper} {o : Oper} {act : Act} {w : World} {K : Act → World → Prop} {Q : Exit → Act → World → Prop} {E : Prop} (hgd : o.guard = none) (s x : Operand)
    (ho : o.op = .call { callee := .builtin .append, args := #[s, x], argTypes := #[27, 27] })
    (base : Nat) (v : Value) (bs : List UInt8) (hs : act.eval s = v) (hown : Hel w base v bs) (vx : Value) (cs : List UInt8) (hx : act.eval x = vx) (hsrc : Src w vx cs)
    (hlen : bs.length + cs.length ≤ 140737488355327) (hbase : base ≤ w.heap.size)
    (h : ∀ v' w', Hel w' base v' (bs ++ cs) → w.grownBy w' v.ownBlock → (v'.ownBlock = v.ownBlock ∨ v'.ownBlock = some w.heap.size) → K (act.put o.dst v') w') :
    if Region.wanted o (yielded ops act.tmps) = true then Oper.wp Try.prog o act w K Q else E := by
  have hw : Region.wanted o (yielded ops act.tmps) = true := by simp [Region.wanted, hgd]
  rw [if_pos hw]
  obtain ⟨v', w', hr, h1, h2, h3⟩ := run_app_hel w o.type base v bs hown vx cs hsrc hlen hbase
  unfold Oper.wp execOp
  simp only [ho, resolve, invoke, builtin, Sem.run_bind, Sem.run_pure, Result.andThen_ok, List.map_toArray, List.map_cons, List.map_nil, hs, hx, hr]
  exact h v' w' h1 h2 h3

/-- bytes that are held, from a place on -/
theorem cut_hel {w : World} {base : Nat} {v : Value} {bs : List UInt8} (h : Hel w base v bs) (k : Nat) (hk : k ≤ bs.length) :
    ∃ vx, Hel w base vx (bs.drop k) ∧ (∀ j, vx.ownBlock = some j → v.ownBlock = some j) ∧ (∀ W, (Instr.sliceAt 27 v (some (.int .i64 (k : Int))) none none).run Try.prog W = .ok vx W) := by
  rcases h with ⟨rfl, rfl⟩ | ⟨g, o, cap, rfl, h1, h2, h3, h4, h5, h6⟩
  · simp at hk
    subst hk
    exact ⟨.slice none 0 0, Or.inl ⟨rfl, rfl⟩, fun j e => e, fun W => by go_simp⟩
  · have hlen : (bs.drop k).length = bs.length - k := by simp
    have hk2 : (k : Int) ≤ (bs.length : Int) := by omega
    by_cases hck : cap = k
    · refine ⟨.slice (some ⟨g, o, none⟩) (bs.length - k) (cap - k), Or.inr ⟨g, o, cap - k, by rw [hlen], h1, h2, by omega, by omega, fun j hj => by omega, fun j hj => by omega⟩, fun j e => e, fun W => ?_⟩
      go_simp
    · refine ⟨.slice (some ⟨g, o + k, none⟩) (bs.length - k) (cap - k), Or.inr ⟨g, o + k, cap - k, by rw [hlen], h1, h2, by omega, by omega, fun j hj => ?_, fun j hj => ?_⟩, fun j e => e, fun W => ?_⟩
      · rw [Nat.add_assoc]
        exact h5 (k + j) (by omega)
      · rw [hlen] at hj
        rw [Nat.add_assoc, h6 (k + j) (by omega)]
        simp [List.getD_eq_getElem?_getD]
      · have := at_off g o k
        go_simp

end Go.Proofs.Ytjhnbihohjimmaa

/- A duct's block, and what the methods of its hold do. -/
namespace Go.Proofs.Ytjhnbihohjimmaa
open Go.RowKit

/-- block b is a duct that New gave -/
structure Db (w : World) (base b : Nat) (v : Value) (room : Nat) (bs : List UInt8) (sh : Bool) (ci co ct cl : Int) : Prop where
  lo : base ≤ b
  blk : w.heap[b]? = some (.cells #[v, .int .i64 room, .bool sh, .int .i64 ci, .int .i64 co, .int .i64 ct, .int .i64 cl] 63 (0, 0))
  own : Hel w base v bs
  ne : v.ownBlock ≠ some b
  one : 1 ≤ room
  big : room ≤ 4194304
  le : bs.length ≤ room
  rng : wrap64 co = co

/-- but for a duct's two blocks nothing changed; its bytes lie where they lay, or in new memory -/
structure Gd (w w' : World) (b : Nat) (v v' : Value) : Prop where
  os : w'.os = w.os
  tape : w'.tape = w.tape
  output : w'.output = w.output
  size : w.heap.size ≤ w'.heap.size
  block : ∀ k, k < w.heap.size → k ≠ b → v.ownBlock ≠ some k → w'.heap[k]? = w.heap[k]?
  lies : ∀ k, v'.ownBlock = some k → v.ownBlock = some k ∨ w.heap.size ≤ k

theorem Gd.refl (w : World) (b : Nat) (v : Value) : Gd w w b v v := ⟨rfl, rfl, rfl, Nat.le_refl _, fun _ _ _ _ => rfl, fun _ h => Or.inl h⟩
theorem Gd.trans {w w1 w2 : World} {b : Nat} {v v1 v2 : Value} (h : Gd w w1 b v v1) (g : Gd w1 w2 b v1 v2) : Gd w w2 b v v2 :=
  ⟨g.os.trans h.os, g.tape.trans h.tape, g.output.trans h.output, Nat.le_trans h.size g.size,
    fun k hk hb hv => (g.block k (Nat.lt_of_lt_of_le hk h.size) hb (fun e => by rcases h.lies k e with e | e
                                                                                · exact hv e
                                                                                · omega)).trans (h.block k hk hb hv),
    fun k e => by rcases g.lies k e with e | e
                  · exact h.lies k e
                  · have := h.size; right; omega⟩
theorem Gd.below {w w1 w2 : World} {b : Nat} {v v1 : Value} (h : Gd w w1 b v v1) (g : Below w1.heap.size w1 w2) : Gd w w2 b v v1 :=
  ⟨g.os.trans h.os, g.tape.trans h.tape, g.output.trans h.output, Nat.le_trans h.size g.size,
    fun k hk hb hv => (g.block k (Nat.lt_of_lt_of_le hk h.size)).trans (h.block k hk hb hv), h.lies⟩
theorem Gd.after {w w1 w2 : World} {b : Nat} {v v1 : Value} (g : Below w.heap.size w w1) (h : Gd w1 w2 b v v1) : Gd w w2 b v v1 :=
  ⟨h.os.trans g.os, h.tape.trans g.tape, h.output.trans g.output, Nat.le_trans g.size h.size,
    fun k hk hb hv => (h.block k (Nat.lt_of_lt_of_le hk g.size) hb hv).trans (g.block k hk),
    fun k e => by rcases h.lies k e with e | e
                  · exact Or.inl e
                  · have := g.size; right; omega⟩
theorem Gd.set (w : World) (b i : Nat) (u v : Value) : Gd w (w.setCell ⟨b, i, none⟩ u) b v v :=
  ⟨rfl, rfl, rfl, by simp, fun k _ hb _ => Below.heap_setCell w _ u k (by simpa using hb), fun _ h => Or.inl h⟩
/-- the store of the bytes' slice behind a growth of their row -/
theorem Gd.grow {w w1 : World} {b i : Nat} {v v1 : Value} (h : w.grownBy w1 v.ownBlock) (hl : ∀ k, v1.ownBlock = some k → v.ownBlock = some k ∨ w.heap.size ≤ k) (u : Value) : Gd w (w1.setCell ⟨b, i, none⟩ u) b v v1 :=
  ⟨h.os, h.tape, h.output, by have := h.size; simpa using this,
    fun k hk hb hv => by rw [Below.heap_setCell w1 _ u k (by simpa using hb)]; exact h.block k hk (fun e => hv e.symm), hl⟩
/-- what lies below both of a duct's blocks is as it was -/
theorem Gd.low {w w' : World} {b base : Nat} {v v' : Value} (h : Gd w w' b v v') (hb : base ≤ b) (hs : base ≤ w.heap.size) (hv : ∀ k, v.ownBlock = some k → base ≤ k) : Below base w w' :=
  ⟨h.os, h.tape, h.output, h.size, fun k hk => h.block k (by omega) (by omega) (fun e => by have := hv k e; omega)⟩

theorem OwnB.gd {w w' : World} {base b : Nat} {v v' vo : Value} {xs : List UInt8} (h : OwnB w base vo xs) (g : Gd w w' b v v') (hb : vo.ownBlock ≠ some b) (hv : ∀ k, vo.ownBlock = some k → v.ownBlock ≠ some k) : OwnB w' base vo xs := by
  have h' := h
  refine ⟨h.1, ?_⟩
  rcases h.2 with hn | ⟨g0, cap, cur, rfl, h1, h2, r⟩
  · exact .inl hn
  · refine .inr ⟨g0, cap, cur, rfl, h1, ?_, r⟩
    rw [g.block g0 (h'.lt g0 rfl).2 (fun e => hb (by rw [e]; rfl)) (hv g0 rfl)]
    exact h2
theorem Hel.gd {w w' : World} {base b : Nat} {v v' vo : Value} {xs : List UInt8} (h : Hel w base vo xs) (g : Gd w w' b v v') (hb : vo.ownBlock ≠ some b) (hv : ∀ k, vo.ownBlock = some k → v.ownBlock ≠ some k) : Hel w' base vo xs := by
  rcases h with h | ⟨g0, o, cap, rfl, h1, h2, h3, h4, h5, h6⟩
  · exact Or.inl h
  · have e0 : w'.heap[g0]? = w.heap[g0]? := g.block g0 h2 (fun e => hb (by rw [e]; rfl)) (hv g0 rfl)
    have e1 : ∀ i, w'.cell? ⟨g0, i, none⟩ = w.cell? ⟨g0, i, none⟩ := fun i => World.cell?_of_block e0
    have e2 : ∀ i, w'.frozen? ⟨g0, i, none⟩ = w.frozen? ⟨g0, i, none⟩ := fun i => World.frozen?_of_block e0
    exact Or.inr ⟨g0, o, cap, rfl, h1, Nat.lt_of_lt_of_le h2 g.size, h3, h4, fun j hj => by rw [e1, e2]; exact h5 j hj, fun j hj => by rw [e1]; exact h6 j hj⟩
theorem Src.gd {w w' : World} {b : Nat} {v v' vo : Value} {xs : List UInt8} (h : Src w vo xs) (g : Gd w w' b v v') (hb : vo.ownBlock ≠ some b) (hv : ∀ k, vo.ownBlock = some k → v.ownBlock ≠ some k) : Src w' vo xs := by
  obtain ⟨h0, h | ⟨ad, cap, rfl, h1, h2, hlt, h3⟩⟩ := h
  · exact ⟨h0, Or.inl h⟩
  · refine ⟨h0, Or.inr ⟨ad, cap, rfl, h1, h2, fun h => Nat.lt_of_lt_of_le (hlt h) g.size, fun j hj => ?_⟩⟩
    rw [World.cell?_of_block (g.block (ad.add j).block (by rw [addr_block]; exact hlt (by omega)) (by rw [addr_block]; exact fun e => hb (by rw [← e]; rfl)) (by rw [addr_block]; exact hv _ rfl))]
    exact h3 j hj

section
variable {w w' : World} {base b : Nat} {v : Value} {room : Nat} {bs : List UInt8} {sh : Bool} {ci co ct cl : Int}
theorem Db.lt (h : Db w base b v room bs sh ci co ct cl) : b < w.heap.size := hp_lt h.blk
theorem Db.c0 (h : Db w base b v room bs sh ci co ct cl) : w.cell? ⟨b, 0, none⟩ = some v := by simp [World.cell?, h.blk]
theorem Db.c1 (h : Db w base b v room bs sh ci co ct cl) : w.cell? ⟨b, 1, none⟩ = some (.int .i64 room) := by simp [World.cell?, h.blk]
theorem Db.c2 (h : Db w base b v room bs sh ci co ct cl) : w.cell? ⟨b, 2, none⟩ = some (.bool sh) := by simp [World.cell?, h.blk]
theorem Db.c3 (h : Db w base b v room bs sh ci co ct cl) : w.cell? ⟨b, 3, none⟩ = some (.int .i64 ci) := by simp [World.cell?, h.blk]
theorem Db.c4 (h : Db w base b v room bs sh ci co ct cl) : w.cell? ⟨b, 4, none⟩ = some (.int .i64 co) := by simp [World.cell?, h.blk]
theorem Db.c5 (h : Db w base b v room bs sh ci co ct cl) : w.cell? ⟨b, 5, none⟩ = some (.int .i64 ct) := by simp [World.cell?, h.blk]
theorem Db.c6 (h : Db w base b v room bs sh ci co ct cl) : w.cell? ⟨b, 6, none⟩ = some (.int .i64 cl) := by simp [World.cell?, h.blk]
theorem Db.fz (h : Db w base b v room bs sh ci co ct cl) (i : Nat) : w.frozen? ⟨b, i, none⟩ = false := by simp [World.frozen?, h.blk]
theorem Db.below (h : Db w base b v room bs sh ci co ct cl) (hb : Below w.heap.size w w') : Db w' base b v room bs sh ci co ct cl :=
  ⟨h.lo, (hb.block b h.lt).trans h.blk, h.own.below hb, h.ne, h.one, h.big, h.le, h.rng⟩
theorem Db.low (h : Db w base b v room bs sh ci co ct cl) {v' : Value} (g : Gd w w' b v v') : Below base w w' :=
  g.low h.lo (Nat.le_of_lt (Nat.lt_of_le_of_lt h.lo h.lt)) (fun k e => (h.own.lt k e).1)
theorem Db.setHeld (h : Db w base b v room bs sh ci co ct cl) {v' : Value} {bs' : List UInt8} (hg : w.grownBy w' v.ownBlock) (ho : Hel w' base v' bs') (hn : v'.ownBlock ≠ some b) (hl : bs'.length ≤ room) :
    Db (w'.setCell ⟨b, 0, none⟩ v') base b v' room bs' sh ci co ct cl :=
  ⟨h.lo, by rw [blk_set ((hg.block b h.lt (fun e => h.ne e.symm)).trans h.blk)]; rfl, ho.kept (gb_set w' _ _) (Or.inr (by simpa using hn)), hn, h.one, h.big, hl, h.rng⟩
theorem Db.setSh (h : Db w base b v room bs sh ci co ct cl) (x : Bool) : Db (w.setCell ⟨b, 2, none⟩ (.bool x)) base b v room bs x ci co ct cl :=
  ⟨h.lo, by rw [blk_set h.blk]; rfl, h.own.kept (gb_set w _ _) (Or.inr (by simpa using h.ne)), h.ne, h.one, h.big, h.le, h.rng⟩
theorem Db.setI (h : Db w base b v room bs sh ci co ct cl) (x : Int) : Db (w.setCell ⟨b, 3, none⟩ (.int .i64 x)) base b v room bs sh x co ct cl :=
  ⟨h.lo, by rw [blk_set h.blk]; rfl, h.own.kept (gb_set w _ _) (Or.inr (by simpa using h.ne)), h.ne, h.one, h.big, h.le, h.rng⟩
theorem Db.setO (h : Db w base b v room bs sh ci co ct cl) (x : Int) (hx : wrap64 x = x) : Db (w.setCell ⟨b, 4, none⟩ (.int .i64 x)) base b v room bs sh ci x ct cl :=
  ⟨h.lo, by rw [blk_set h.blk]; rfl, h.own.kept (gb_set w _ _) (Or.inr (by simpa using h.ne)), h.ne, h.one, h.big, h.le, hx⟩
theorem Db.setT (h : Db w base b v room bs sh ci co ct cl) (x : Int) : Db (w.setCell ⟨b, 5, none⟩ (.int .i64 x)) base b v room bs sh ci co x cl :=
  ⟨h.lo, by rw [blk_set h.blk]; rfl, h.own.kept (gb_set w _ _) (Or.inr (by simpa using h.ne)), h.ne, h.one, h.big, h.le, h.rng⟩
theorem Db.setL (h : Db w base b v room bs sh ci co ct cl) (x : Int) : Db (w.setCell ⟨b, 6, none⟩ (.int .i64 x)) base b v room bs sh ci co ct x :=
  ⟨h.lo, by rw [blk_set h.blk]; rfl, h.own.kept (gb_set w _ _) (Or.inr (by simpa using h.ne)), h.ne, h.one, h.big, h.le, h.rng⟩

set_option maxHeartbeats 400000 in
theorem made_any (h : Db w base b v room bs sh ci co ct cl) :
    Calls Try.prog 35 #[.pointer (some ⟨b, 0, none⟩)] w fun e w' => e = .returned (.bool true) ∧ w' = w := by
  have c1 := h.c1
  have h1 : 0 < room := h.one
  clear h
  go_enter Try.func35, Try.ntmps35
  go_wp2
  go_ret
  exact ⟨rfl, rfl⟩

set_option maxHeartbeats 400000 in
theorem size_any (h : Db w base b v room bs sh ci co ct cl) :
    Calls Try.prog 36 #[.pointer (some ⟨b, 0, none⟩)] w fun e w' => e = .returned (.int .i64 bs.length) ∧ w' = w := by
  have c0 := h.c0
  obtain ⟨av, cv, rfl⟩ := h.own.shape
  clear h
  go_enter Try.func36, Try.ntmps36
  go_wp2
  go_ret
  exact ⟨rfl, rfl⟩

set_option maxHeartbeats 400000 in
theorem free_any (h : Db w base b v room bs sh ci co ct cl) :
    Calls Try.prog 37 #[.pointer (some ⟨b, 0, none⟩)] w fun e w' => e = .returned (.int .i64 ((room - bs.length : Nat) : Int)) ∧ ∃ q, w' = w.drewN q := by
  have c0 := h.c0
  have c1 := h.c1
  obtain ⟨av, cv, rfl⟩ := h.own.shape
  have hw : IntKind.i64.wrap ((room : Int) - (bs.length : Int)) = ((room - bs.length : Nat) : Int) := by
    have := h.le; have := h.big; rw [IntKind.wrap_i64]; omega
  clear h
  go_enter Try.func37, Try.ntmps37
  go_wp2
  go_quiet (fail)
  go_wp2
  go_ret
  exact ⟨rfl, _, rfl⟩
end

end Go.Proofs.Ytjhnbihohjimmaa

/- put, first, turn of a duct's hold. -/
namespace Go.Proofs.Ytjhnbihohjimmaa
open Go.RowKit

theorem xor_u8 (x m : UInt8) : bits BinOp.xor IntKind.u8 (x.toNat : Int) (m.toNat : Int) = (((x ^^^ m).toNat : Nat) : Int) := by
  have h1 := x.toNat_lt
  have h2 := m.toNat_lt
  rw [UInt8.toNat_xor]
  exact u8_xor_nat x.toNat m.toNat h1 h2

section
variable {w w' : World} {base b : Nat} {v : Value} {room : Nat} {bs : List UInt8} {sh : Bool} {ci co ct cl : Int}

theorem gb_undrew {w w1 : World} {row : Option Nat} (h : w.drew.grownBy w1 row) : w.grownBy w1 row := ⟨h.os, h.tape, h.output, h.size, h.block⟩
theorem Db.drewN (h : Db w base b v room bs sh ci co ct cl) (k : Nat) : Db (w.drewN k) base b v room bs sh ci co ct cl := h.below ⟨rfl, rfl, rfl, Nat.le_refl _, fun _ _ => rfl⟩
theorem below_drewN (w : World) (k : Nat) : Below w.heap.size w (w.drewN k) := ⟨rfl, rfl, rfl, Nat.le_refl _, fun _ _ => rfl⟩
theorem lies_of {w : World} {v v1 : Value} (h : v1.ownBlock = v.ownBlock ∨ v1.ownBlock = some w.heap.size) : ∀ k, v1.ownBlock = some k → v.ownBlock = some k ∨ w.heap.size ≤ k := by
  intro k e
  rcases h with h | h
  · exact Or.inl (h ▸ e)
  · rw [h] at e
    injection e with e
    right; omega

set_option maxRecDepth 100000 in
set_option maxHeartbeats 1000000 in
theorem put_at (h : Db w base b v room bs sh ci co ct cl) (vx : Value) (cs : List UInt8) (hx : Src w vx cs) (F k : Nat) (hF : F = room - bs.length) (hk : (F < cs.length ∧ k = F) ∨ (¬ F < cs.length ∧ k = cs.length)) :
    Calls Try.prog 38 #[.pointer (some ⟨b, 0, none⟩), vx] w fun e w' => e = .returned (.int .i64 (k : Int)) ∧
      ∃ v', Db w' base b v' room (bs ++ cs.take k) sh ci co ct cl ∧ Gd w w' b v v' := by
  have HLE := hid h.le
  have HBG := hid h.big
  have hxl := hx.1
  have HF := hid hF
  clear hF
  obtain ⟨vy, hsy, hcy⟩ := cut_begin hx k (by omega)
  obtain ⟨ax, cx, rfl⟩ := src_shape hx
  have HYL := hid (show bs.length + (cs.take k).length ≤ room by rw [List.length_take]; have := HF.out; have := HLE.out; omega)
  have H := hid h
  have HY := hid hsy
  have HB := hid (Nat.le_of_lt (Nat.lt_of_le_of_lt h.lo h.lt))
  have HFR := hid (free_any h)
  rw [← HF.out] at HFR
  clear h hsy hx
  rcases hk with ⟨hlt, rfl⟩ | ⟨hge, rfl⟩
  all_goals
    go_enter Try.func38, Try.ntmps38
    go_wp2_with fail
    refine HFR.out.mono ?_
    rintro e w1 ⟨rfl, q, hq⟩
    have HD1 := hid (show Db w1 base b v room bs sh ci co ct cl by rw [hq]; exact H.out.drewN q)
    have HY1 := hid (show Src w1 vy _ by rw [hq]; exact HY.out)
    have HG1 := hid (show Below w.heap.size w w1 by rw [hq]; exact below_drewN w q)
    have HB1 := hid (show base ≤ w1.heap.size by rw [hq]; exact HB.out)
    clear hq HB H HY HFR
    rename_i Kx hKx
    refine hKx _ _ ?_
    clear hKx
    go_wp2_with fail
    have c0 := HD1.out.c0
    go_region_law ((refine step_app_hel (by rfl) (.tmp 15) (.tmp 18) (by rfl) base v bs (by rfl) (by exact HD1.out.own) _ _ (by rfl) (by exact HY1.out) (by have := HYL.out; have := HBG.out; omega) (by exact HB1.out) ?_; intro v2 w2 ho2 hg2 hl2; obtain ⟨a2, n2, c2, rfl⟩ := ho2.form; have HG2 := hid (gb_undrew hg2); have HO2 := hid ho2; have HL2 := hid (lies_of (w := w1) hl2); have g0 : w2.cell? ⟨b, 0, none⟩ = some v := (World.cell?_of_block (HG2.out.block b HD1.out.lt (fun e => HD1.out.ne e.symm))).trans c0; have g1 : w2.frozen? ⟨b, 0, none⟩ = false := (World.frozen?_of_block (HG2.out.block b HD1.out.lt (fun e => HD1.out.ne e.symm))).trans (HD1.out.fz 0); clear ho2 hg2 hl2 c0))
    go_wp2
    go_ret
    refine ⟨rfl, _, HD1.out.setHeld HG2.out HO2.out ?_ (by rw [List.length_append]; exact HYL.out), Gd.after HG1.out (Gd.grow HG2.out HL2.out _)⟩
    intro e
    rcases HL2.out b e with e | e
    · exact HD1.out.ne e
    · have := HD1.out.lt; omega

theorem put_any (h : Db w base b v room bs sh ci co ct cl) (vx : Value) (cs : List UInt8) (hx : Src w vx cs) :
    Calls Try.prog 38 #[.pointer (some ⟨b, 0, none⟩), vx] w fun e w' => e = .returned (.int .i64 ((min cs.length (room - bs.length) : Nat) : Int)) ∧
      ∃ v', Db w' base b v' room (bs ++ cs.take (min cs.length (room - bs.length))) sh ci co ct cl ∧ Gd w w' b v v' :=
  put_at h vx cs hx (room - bs.length) _ rfl (by omega)

/-- how many bytes are first -/
def kP (n : Int) (l : Nat) : Nat := (max 0 (min n l)).toNat
theorem kP_le (n : Int) (l : Nat) : kP n l ≤ l := by unfold kP; omega

set_option maxRecDepth 100000 in
set_option maxHeartbeats 1000000 in
theorem first_at (h : Db w base b v room bs sh ci co ct cl) (n : Int) (k : Nat) (hk : (n < 0 ∧ k = 0) ∨ (n = 0 ∧ k = 0) ∨ (0 < n ∧ (bs.length : Int) < n ∧ 0 < bs.length ∧ k = bs.length) ∨ (0 < n ∧ bs.length = 0 ∧ k = 0) ∨ (0 < k ∧ ¬ bs.length < k ∧ n = (k : Int))) :
    Calls Try.prog 41 #[.pointer (some ⟨b, 0, none⟩), .int .i64 n] w fun e w' => ∃ v', e = .returned v' ∧ OwnB w' w.heap.size v' (bs.take k) ∧ Below w.heap.size w w' := by
  have c0 := h.c0
  have hs := h.own.src (by have := h.le; have := h.big; omega)
  have hk' : k ≤ bs.length := by omega
  obtain ⟨vy, hsy, hcy⟩ := cut_begin hs k hk'
  obtain ⟨av, cv, rfl⟩ := h.own.shape
  have HY := hid hsy
  have HL := hid (show (bs.take k).length ≤ 140737488355327 from hsy.1)
  clear h hs hsy hk'
  rcases hk with ⟨h1, rfl⟩ | ⟨rfl, rfl⟩ | ⟨h1, h2, h3, rfl⟩ | ⟨h1, h2, rfl⟩ | ⟨h1, h2, rfl⟩
  case' inr.inr.inr.inl =>
    obtain rfl : bs = [] := List.length_eq_zero_iff.1 h2
    clear h2
    rw [List.length_nil] at c0 hcy
  all_goals
    try rw [show ((0 : Nat) : Int) = 0 from rfl] at hcy
    go_enter Try.func41, Try.ntmps41
    go_wp2_with (at_builtin; refine app_src rfl _ _ rfl w.heap.size _ [] rfl (OwnB.nil _ _) _ _ rfl HY.out (by have := HL.out; rw [List.length_nil]; omega) (Nat.le_refl _) ?_)
    intro v1 w1 ho1 hg1
    have HO1 := hid ho1
    have HB1 := hid (gb_below hg1)
    clear ho1 hg1
    go_wp2
    go_ret
    exact ⟨_, rfl, by first | exact HO1.out | (rw [List.take_length]; exact HO1.out), HB1.out⟩

theorem first_any (h : Db w base b v room bs sh ci co ct cl) (n : Int) :
    Calls Try.prog 41 #[.pointer (some ⟨b, 0, none⟩), .int .i64 n] w fun e w' => ∃ v', e = .returned v' ∧ OwnB w' w.heap.size v' (bs.take (kP n bs.length)) ∧ Below w.heap.size w w' :=
  first_at h n _ (by unfold kP; omega)

set_option maxRecDepth 100000 in
set_option maxHeartbeats 1000000 in
/-- a byte that is held is turned -/
theorem turn_any (h : Db w base b v room bs sh ci co ct cl) (i : Nat) (hi : i < bs.length) (m : UInt8) :
    Calls Try.prog 42 #[.pointer (some ⟨b, 0, none⟩), .int .i64 (i : Int), .int .u8 (m.toNat : Int)] w fun e w' => e = .returned (.tuple #[]) ∧
      Db w' base b v room (bs.set i ((bs.getD i 0) ^^^ m)) sh ci co ct cl ∧ Gd w w' b v v := by
  have c0 := h.c0
  have H := hid h
  rcases h.own with ⟨_, h0⟩ | ⟨g, o, cap, rfl, h1, h2, h3, h4, h5, h6⟩
  · rw [h0] at hi; simp at hi
  have k0 := h6 i hi
  have k1 := (h5 i (by omega)).2
  have hgb : g ≠ b := fun e => h.ne (by rw [e]; rfl)
  obtain ⟨x, HX⟩ : ∃ x : UInt8, Hid (x = bs.getD i 0) := ⟨_, rfl⟩
  rw [← HX.out] at k0
  have H5 := hid h5
  have H6 := hid h6
  have H3 := hid h3
  have H4 := hid h4
  have H1 := hid h1
  have H2 := hid h2
  have ha := at_off g o i
  clear h h1 h2 h3 h4 h5 h6
  go_enter Try.func42, Try.ntmps42
  go_wp2
  go_end0
  rw [xor_u8]
  obtain ⟨U, HU⟩ : ∃ U, Hid (U = w.setCell ⟨g, o + i, none⟩ (.int .u8 ((x ^^^ m).toNat : Int))) := ⟨_, rfl⟩
  rw [← HU.out]
  have hgr : w.grownBy U (some g) := by rw [HU.out]; exact gb_set w _ _
  have hin : U.cell? ⟨g, o + i, none⟩ = some (.int .u8 ((x ^^^ m).toNat : Int)) := by rw [HU.out]; exact World.cell?_setCell_same _ _ _ k0
  have hout : ∀ j, j ≠ i → U.cell? ⟨g, o + j, none⟩ = w.cell? ⟨g, o + j, none⟩ := fun j hj => by rw [HU.out]; exact World.cell?_setCell_other _ _ _ _ (fun e => hj (by simp at e))
  have hfz : ∀ j, U.frozen? ⟨g, o + j, none⟩ = w.frozen? ⟨g, o + j, none⟩ := fun j => by rw [HU.out, World.frozen?_setCell]
  refine ⟨rfl, ⟨H.out.lo, (hgr.block b H.out.lt (by simpa using fun e => hgb e.symm)).trans H.out.blk, Or.inr ⟨g, o, cap, by rw [List.length_set], H1.out, Nat.lt_of_lt_of_le H2.out hgr.size, by rw [List.length_set]; exact H3.out, H4.out, fun j hj => ?_, fun j hj => ?_⟩, H.out.ne, H.out.one, H.out.big, by rw [List.length_set]; exact H.out.le, H.out.rng⟩,
    ⟨hgr.os, hgr.tape, hgr.output, hgr.size, fun k hk _ hv => hgr.block k hk (fun e => hv e.symm), fun _ e => Or.inl e⟩⟩
  · refine ⟨?_, by rw [hfz]; exact (H5.out j hj).2⟩
    by_cases e : j = i
    · subst e; rw [hin]; rfl
    · rw [hout j e]; exact (H5.out j hj).1
  · rw [List.length_set] at hj
    by_cases e : j = i
    · subst e
      rw [hin, HX.out]
      simp [List.getD_eq_getElem?_getD, hj]
    · rw [hout j e, H6.out j hj]
      simp [List.getD_eq_getElem?_getD, List.getElem?_set_ne (Ne.symm e)]
end

end Go.Proofs.Ytjhnbihohjimmaa

/- slices.Delete of bytes that are held; drop. -/
namespace Go.Proofs.Ytjhnbihohjimmaa
open Go.RowKit

theorem getD_left (xs ys : List UInt8) (k : Nat) (h : k < xs.length) : (xs ++ ys).getD k 0 = xs.getD k 0 := by simp [List.getD_eq_getElem?_getD, List.getElem?_append_left h]
theorem getD_right (xs ys : List UInt8) (k : Nat) (h : xs.length ≤ k) : (xs ++ ys).getD k 0 = ys.getD (k - xs.length) 0 := by simp [List.getD_eq_getElem?_getD, List.getElem?_append_right h]

section
variable {w w' : World} {base b : Nat} {v : Value} {room : Nat} {bs : List UInt8} {sh : Bool} {ci co ct cl : Int}

set_option maxRecDepth 100000 in
set_option maxHeartbeats 1000000 in
theorem delete_same (i : Nat) (w : World) (g o n cap : Nat) (hi : i ≤ n) (hn : n ≤ cap) :
    Calls Try.prog 43 #[.slice (some ⟨g, o, none⟩) n cap, .int .i64 (i : Int), .int .i64 (i : Int)] w fun e w' => e = .returned (.slice (some ⟨g, o, none⟩) n cap) ∧ w' = w := by
  go_enter Try.func43, Try.ntmps43
  go_wp2
  all_goals (go_ret; exact ⟨rfl, rfl⟩)

/-- cells that are set behind cells -/
theorem zeroU8 : ∀ w : World, (zeroValue 5).run Try.prog w = .ok (.int .u8 0) w := by
  intro w
  obtain ⟨i0, hi, hz0, hz1, hz2⟩ := info_parts Try.infoU8
  simp [zeroValue, typeInfo, hi, hz0]

set_option maxRecDepth 100000 in
set_option maxHeartbeats 4000000 in
theorem delete_any (w : World) (base g o cap : Nat) (bs : List UInt8) (h : Hel w base (.slice (some ⟨g, o, none⟩) bs.length cap) bs) (i j : Nat) (hij : i < j) (hj : j ≤ bs.length) :
    Calls Try.prog 43 #[.slice (some ⟨g, o, none⟩) bs.length cap, .int .i64 (i : Int), .int .i64 (j : Int)] w fun e w' => ∃ n, e = .returned (.slice (some ⟨g, o, none⟩) n cap) ∧
      Hel w' base (.slice (some ⟨g, o, none⟩) n cap) (bs.take i ++ bs.drop j) ∧ w.grownBy w' (some g) := by
  obtain ⟨i0, hi0, hz0, hz1, hz2⟩ := info_parts Try.infoU8
  rcases h with ⟨h0, _⟩ | ⟨g', o', cap', hv, h1, h2, h3, h4, h5, h6⟩
  · cases h0
  injection hv with e1 _ e2
  injection e1 with e1
  injection e1 with e1 e3
  subst e1 e2 e3
  have hm : cap ≤ 9223372036854775807 := by unfold maxLen at h4; omega
  obtain ⟨news, HN⟩ : ∃ news, Hid (news = bytesV (bs.drop j)) := ⟨_, rfl⟩
  obtain ⟨m, HM⟩ : ∃ m, Hid (m = bs.length - j) := ⟨_, rfl⟩
  have hml : news.length = m := by rw [HN.out, HM.out, bytesV_length, List.length_drop]
  obtain ⟨A, hA, hsrc⟩ : ∃ A : Addr, (if cap = j then some (⟨g, o, none⟩ : Addr) else some ⟨g, o + j, none⟩) = some A ∧ Hid (∀ t u, news[t]? = some u → w.drew.cell? (A.add t) = some u) := by
    by_cases hc : cap = j
    · refine ⟨⟨g, o, none⟩, by simp [hc], fun t u hu => ?_⟩
      have h0 : news.length = 0 := by rw [hml, HM.out]; omega
      rw [List.length_eq_zero_iff.1 h0] at hu
      simp at hu
    · refine ⟨⟨g, o + j, none⟩, by simp [hc], fun t u hu => ?_⟩
      refine src_cells (w := w.drew) (ad := ⟨g, o + j, none⟩) (bs := bs.drop j) (fun k hk => ?_) t u (by rw [← HN.out]; exact hu)
      rw [List.length_drop] at hk
      rw [at_off, Nat.add_assoc]
      refine (h6 (j + k) (by omega)).trans ?_
      simp [List.getD_eq_getElem?_getD]
  have s1 : Hid (news.length = m * 1) := by rw [Nat.mul_one]; exact hml
  have s2 : Hid (∀ u ∈ news, u.oneCell' = true) := by rw [HN.out]; exact bytesV_one _
  have s3 : Hid (∀ t, t < news.length → (w.drew.cell? ⟨g, o + i * 1 + t, none⟩).isSome = true ∧ w.drew.frozen? ⟨g, o + i * 1 + t, none⟩ = false) := by
    intro t ht
    rw [hml, HM.out] at ht
    rw [Nat.mul_one, Nat.add_assoc]
    exact h5 (i + t) (by omega)
  obtain ⟨W1, HW1⟩ : ∃ W1, Hid (W1 = w.drew.setCells g (o + i * 1) news) := ⟨_, rfl⟩
  have HG1 := hid (show w.grownBy W1 (some g) by rw [HW1.out]; exact gb_setCells w g _ _ w.drew (gb_drew w _))
  have f1 : ∀ k, k < cap → (W1.cell? ⟨g, o + k, none⟩).isSome = true ∧ W1.frozen? ⟨g, o + k, none⟩ = false := by
    intro k hk
    rw [HW1.out, World.frozen?_setCells]
    refine ⟨?_, (h5 k hk).2⟩
    by_cases hin : i ≤ k ∧ k < i + m
    · have := World.cell?_setCells_in g news (o + i * 1) w.drew (fun t ht => (s3.out t ht).1) (k - i) (by omega)
      rw [show o + i * 1 + (k - i) = o + k by omega] at this
      rw [this]; rfl
    · rw [World.cell?_setCells_out g news (o + i * 1) w.drew ⟨g, o + k, none⟩ (fun _ _ => by show o + k < _ ∨ _ ≤ o + k; omega)]
      exact (h5 k hk).1
  have f2 : ∀ k, k < i + m → W1.cell? ⟨g, o + k, none⟩ = some (.int .u8 ((bs.take i ++ bs.drop j).getD k 0).toNat) := by
    intro k hk
    rw [HW1.out]
    by_cases hlt : k < i
    · rw [World.cell?_setCells_out g news (o + i * 1) w.drew ⟨g, o + k, none⟩ (fun _ _ => by show o + k < _ ∨ _ ≤ o + k; omega)]
      refine (h6 k (by omega)).trans ?_
      rw [getD_left _ _ _ (by rw [List.length_take]; omega)]
      simp [List.getD_eq_getElem?_getD, hlt]
    · have := World.cell?_setCells_in g news (o + i * 1) w.drew (fun t ht => (s3.out t ht).1) (k - i) (by omega)
      rw [show o + i * 1 + (k - i) = o + k by omega] at this
      rw [this, getD_right _ _ _ (by rw [List.length_take]; omega)]
      have hki : k - (bs.take i).length = k - i := by rw [List.length_take]; omega
      rw [hki]
      have hkd : k - i < (bs.drop j).length := by rw [List.length_drop]; have := HM.out; omega
      have e : news[k - i]? = some (.int .u8 ((bs.drop j).getD (k - i) 0).toNat) := by
        rw [HN.out, bytesV_get, List.getElem?_eq_getElem hkd]
        simp only [Option.map_some, List.getD_eq_getElem?_getD, List.getElem?_eq_getElem hkd, Option.getD_some]
      rw [← e, List.getElem?_eq_getElem (by omega)]
  have HF1 := hid f1
  have HF2 := hid f2
  obtain ⟨d, HD⟩ : ∃ d, Hid (d = j - i) := ⟨_, rfl⟩
  have hd0 : 0 < d := by rw [HD.out]; omega
  have hsum : bs.length = i + m + d := by rw [HM.out, HD.out]; omega
  obtain ⟨W2, HW2⟩ : ∃ W2, Hid (W2 = W1.setCells g (o + (i + m)) (List.replicate d (.int .u8 0))) := ⟨_, rfl⟩
  have hcl : ∀ ty, (Builtin.clear_ #[27] ty #[.slice (some ⟨g, o + (i + m), none⟩) d (cap - (i + m))]).run Try.prog W1 = .ok (.tuple #[]) W2 := fun ty => by
    rw [HW2.out]
    exact Lib.run_clear_slice W1 _ _ ty _ Try.underlying27 zeroU8 rfl rfl g (o + (i + m)) d _ hd0 (fun t ht => by rw [Nat.add_assoc]; exact (f1 _ (by omega)).1) (fun t ht => by rw [Nat.add_assoc]; exact (f1 _ (by omega)).2)
  have HEND := hid (show Hel W2 base (.slice (some ⟨g, o, none⟩) (i + m) cap) (bs.take i ++ bs.drop j) ∧ w.grownBy W2 (some g) by
    have hll : (bs.take i ++ bs.drop j).length = i + m := by rw [List.length_append, List.length_take, List.length_drop]; have := HM.out; omega
    refine ⟨Or.inr ⟨g, o, cap, by rw [hll], h1, ?_, by rw [hll]; omega, h4, fun k hk => ?_, fun k hk => ?_⟩, ?_⟩
    · rw [HW2.out, size_sc]
      exact Nat.lt_of_lt_of_le h2 HG1.out.size
    · rw [HW2.out, World.frozen?_setCells]
      refine ⟨?_, (f1 k hk).2⟩
      by_cases hin : i + m ≤ k ∧ k < i + m + d
      · have := World.cell?_setCells_in g (List.replicate d (.int .u8 0)) (o + (i + m)) W1 (fun t ht => by rw [List.length_replicate] at ht; rw [Nat.add_assoc]; exact (f1 _ (by omega)).1) (k - (i + m)) (by rw [List.length_replicate]; omega)
        rw [show o + (i + m) + (k - (i + m)) = o + k by omega] at this
        rw [this]; rfl
      · rw [World.cell?_setCells_out g _ (o + (i + m)) W1 ⟨g, o + k, none⟩ (fun _ _ => by rw [List.length_replicate]; show o + k < _ ∨ _ ≤ o + k; omega)]
        exact (f1 k hk).1
    · rw [hll] at hk
      rw [HW2.out, World.cell?_setCells_out g _ (o + (i + m)) W1 ⟨g, o + k, none⟩ (fun _ _ => by show o + k < _ ∨ _ ≤ o + k; omega)]
      exact f2 k hk
    · rw [HW2.out]
      exact gb_setCells w g _ _ W1 HG1.out)
  have hic : i ≤ cap := by omega
  have hjc : j ≤ cap := by omega
  have hij2 : i ≠ j := by omega
  have hjl : bs.length - j = m := HM.out.symm
  have hcut : ¬ cap = i + m := by omega
  have hsd : bs.length - (i + m) = d := by omega
  have HS := hid hsum
  clear hml HF1 HF2 f1 f2 h5 h6 hsum HM HD HN HW2
  go_enter Try.func43, Try.ntmps43
  go_wp2_with fail
  go_region_law (refine step_append_room rfl (.tmp 22) (.tmp 25) 27 rfl 5 i0 1 Try.underlying27 hi0 hz1 g o i cap (by simp [Act.eval, Act.put]) A m (cap - j) news (by simp [Act.eval, Act.put]) s1.out hsrc.out s2.out (by have := HS.out; omega) s3.out ?_; rw [← HW1.out])
  go_wp2
  go_ret
  exact ⟨_, rfl, HEND.out.1, HEND.out.2⟩

/-- the bytes that a duct has behind a drop -/
def dropP (bs : List UInt8) (at_ n : Nat) : List UInt8 := bs.take at_ ++ bs.drop (at_ + n)

theorem dropP_length (bs : List UInt8) (i n : Nat) (h : i + n ≤ bs.length) : (dropP bs i n).length = bs.length - n := by
  unfold dropP
  rw [List.length_append, List.length_take, List.length_drop]
  omega

theorem delete_all (w : World) (base : Nat) (v : Value) (bs : List UInt8) (h : Hel w base v bs) (i n : Nat) (hi : i ≠ 0) (hn : i + n ≤ bs.length) :
    Calls Try.prog 43 #[v, .int .i64 (i : Int), .int .i64 ((i + n : Nat) : Int)] w fun e w' => ∃ v1, e = .returned v1 ∧ Hel w' base v1 (dropP bs i n) ∧ w.grownBy w' v.ownBlock ∧ v1.ownBlock = v.ownBlock := by
  have h' := h
  rcases h with ⟨_, h0⟩ | ⟨g, o, cap, rfl, h1, h2, h3, h4, h5, h6⟩
  · rw [h0] at hn; simp at hn; omega
  by_cases h0 : n = 0
  · subst h0
    refine (delete_same i w g o bs.length cap (by omega) h3).mono ?_
    rintro e w1 ⟨rfl, hw⟩
    rw [hw]
    exact ⟨_, rfl, by unfold dropP; rw [Nat.add_zero, List.take_append_drop]; exact h', gb_refl _ _, rfl⟩
  · refine (delete_any w base g o cap bs h' i (i + n) (by omega) hn).mono ?_
    rintro e w1 ⟨N, rfl, k1, k2⟩
    exact ⟨_, rfl, k1, k2, rfl⟩

/-- a slice is stored; if it has nothing in it, nil -/
theorem Db.end_drop {w w1 : World} {base b : Nat} {v v1 : Value} {room : Nat} {bs bs1 : List UInt8} {sh : Bool} {ci co ct cl : Int} (h : Db w base b v room bs sh ci co ct cl) (hg : w.grownBy w1 v.ownBlock) (ho : Hel w1 base v1 bs1) (hl : ∀ k, v1.ownBlock = some k → v.ownBlock = some k) (hn : bs1.length ≤ bs.length) :
    Db (w1.setCell ⟨b, 0, none⟩ v1) base b v1 room bs1 sh ci co ct cl ∧ Gd w (w1.setCell ⟨b, 0, none⟩ v1) b v v1 :=
  ⟨h.setHeld hg ho (fun e => h.ne (hl b e)) (Nat.le_trans hn h.le), Gd.grow hg (fun k e => Or.inl (hl k e)) v1⟩
theorem Db.toNil {w : World} {base b : Nat} {v : Value} {room : Nat} {bs : List UInt8} {sh : Bool} {ci co ct cl : Int} (h : Db w base b v room bs sh ci co ct cl) :
    Db (w.setCell ⟨b, 0, none⟩ (.slice none 0 0)) base b (.slice none 0 0) room [] sh ci co ct cl ∧ Gd w (w.setCell ⟨b, 0, none⟩ (.slice none 0 0)) b v (.slice none 0 0) :=
  ⟨h.setHeld (gb_refl _ _) (Hel.nil _ _) (by intro e; cases e) (by simp), Gd.grow (gb_refl _ _) (fun k e => by cases e) _⟩

set_option maxRecDepth 100000 in
set_option maxHeartbeats 1000000 in
theorem drop_any (h : Db w base b v room bs sh ci co ct cl) (i n : Nat) (hn : i + n ≤ bs.length) :
    Calls Try.prog 40 #[.pointer (some ⟨b, 0, none⟩), .int .i64 (i : Int), .int .i64 (n : Int)] w fun e w' => e = .returned (.tuple #[]) ∧
      ∃ v', Db w' base b v' room (dropP bs i n) sh ci co ct cl ∧ Gd w w' b v v' ∧ Hid (∀ k, v'.ownBlock = some k → v.ownBlock = some k) := by
  have c0 := h.c0
  have z0 := h.fz 0
  have H := hid h
  have HL := hid (dropP_length bs i n hn)
  by_cases hi : i = 0
  · subst hi
    obtain ⟨vx, hx1, hx2, hx3⟩ := cut_hel h.own n (by omega)
    have HX := hid (show Hel w base vx (dropP bs 0 n) by unfold dropP; rw [List.take_zero, List.nil_append, Nat.zero_add]; exact hx1)
    have HS := hid (h.end_drop (gb_refl w _) HX.out hx2 (by rw [HL.out]; omega))
    have HX2 := hid hx2
    obtain ⟨av, cv, rfl⟩ := h.own.shape
    obtain ⟨ax, cx, rfl⟩ := HX.out.shape
    clear h hx1 hx2
    obtain ⟨D, HD⟩ : ∃ D, Hid (D = dropP bs 0 n) := ⟨_, rfl⟩
    rw [← HD.out] at HS HX hx3 HL HX2
    rw [← HD.out]
    obtain ⟨U, HU⟩ : ∃ U, Hid (U = w.setCell ⟨b, 0, none⟩ (.slice ax D.length cx)) := ⟨_, rfl⟩
    have HS' := hid HS.out
    rw [← HU.out] at HS'
    have u0 := HS'.out.1.c0
    have u1 := HS'.out.1.fz 0
    clear HS
    by_cases hD : D.length = 0
    · have HN := hid HS'.out.1.toNil
      obtain rfl : D = [] := List.length_eq_zero_iff.1 hD
      rw [List.length_nil] at u0 hx3 HU
      clear hD
      go_enter Try.func40, Try.ntmps40
      go_upto_region 3 with fail
      rw [← HU.out]
      go_wp2
      go_end0
      exact ⟨rfl, _, HN.out.1, HS'.out.2.trans HN.out.2, fun k e => by cases e⟩
    · go_enter Try.func40, Try.ntmps40
      go_upto_region 3 with fail
      rw [← HU.out]
      go_wp2
      go_end0
      exact ⟨rfl, _, HS'.out.1, HS'.out.2, fun k e => HX2.out k e⟩
  · obtain ⟨J, HJ⟩ : ∃ J, Hid (J = i + n) := ⟨_, rfl⟩
    have hw : IntKind.i64.wrap ((i : Int) + (n : Int)) = (J : Int) := by
      have := h.le; have := h.big; rw [IntKind.wrap_i64, HJ.out]; omega
    have HDEL := hid (delete_all w base v bs h.own i n hi hn)
    rw [← HJ.out] at HDEL
    have HNE := hid (show (dropP bs i n).length ≠ 0 by rw [HL.out]; omega)
    obtain ⟨D, HD⟩ : ∃ D, Hid (D = dropP bs i n) := ⟨_, rfl⟩
    rw [← HD.out] at HDEL HNE HL
    rw [← HD.out]
    obtain ⟨av, cv, rfl⟩ := h.own.shape
    clear h
    go_enter Try.func40, Try.ntmps40
    go_wp2_with fail
    refine HDEL.out.mono ?_
    rintro e w1 ⟨v1, rfl, hv1, hg1, hl1⟩
    have HS := hid (H.out.end_drop hg1 hv1 (fun k e => hl1 ▸ e) (by rw [HL.out]; omega))
    have HX2 := hid (show ∀ k, v1.ownBlock = some k → _ = some k from fun k e => hl1 ▸ e)
    have k0 : w1.cell? ⟨b, 0, none⟩ = some _ := (World.cell?_of_block (hg1.block b H.out.lt (fun e => H.out.ne e.symm))).trans c0
    have k1 : w1.frozen? ⟨b, 0, none⟩ = false := (World.frozen?_of_block (hg1.block b H.out.lt (fun e => H.out.ne e.symm))).trans z0
    obtain ⟨ax, cx, rfl⟩ := hv1.shape
    obtain ⟨U, HU⟩ : ∃ U, Hid (U = w1.setCell ⟨b, 0, none⟩ (.slice ax D.length cx)) := ⟨_, rfl⟩
    rw [← HU.out] at HS
    have u0 := HS.out.1.c0
    have hD := HNE.out
    clear hg1 hv1 hl1 HDEL
    rename_i Kx hKx
    refine hKx _ _ ?_
    clear hKx
    go_upto_region 3 with fail
    rw [← HU.out]
    clear k0 k1
    go_wp2
    go_end0
    exact ⟨rfl, _, HS.out.1, HS.out.2, HX2.out⟩
end

end Go.Proofs.Ytjhnbihohjimmaa

/- The methods of a duct, but Write. -/
namespace Go.Proofs.Ytjhnbihohjimmaa
open Go.RowKit

def addI (x y : Int) : Int := wrap64 (x + y)
theorem addI_rng (x y : Int) : wrap64 (addI x y) = addI x y := by unfold addI wrap64; omega
def roomP (sh : Bool) (room l : Nat) : Nat := if sh then 0 else room - l
def dcells (v : Value) (room : Nat) (sh : Bool) (ci co ct cl : Int) : List Value := [v, .int .i64 room, .bool sh, .int .i64 ci, .int .i64 co, .int .i64 ct, .int .i64 cl]

section
variable {w w' : World} {base b : Nat} {v : Value} {room : Nat} {bs : List UInt8} {sh : Bool} {ci co ct cl : Int}

set_option maxRecDepth 100000 in
set_option maxHeartbeats 400000 in
theorem new_bad (w : World) (r : Int) (hr : r < 1 ∨ 4194304 < r) :
    Calls Try.prog 9 #[.int .i64 r] w fun e w' => e = .returned (.tuple #[.pointer none, .int .i64 90]) ∧ w' = w := by
  rcases hr with h | h
  · go_enter Try.func9, Try.ntmps9
    go_wp2
    exact bodyPost_ret (results_tmp2 rfl _ _ _) rfl ⟨rfl, rfl⟩
  · have h2 : ¬ r < 1 := by omega
    go_enter Try.func9, Try.ntmps9
    go_wp2
    exact bodyPost_ret (results_tmp2 rfl _ _ _) rfl ⟨rfl, rfl⟩

set_option maxHeartbeats 400000 in
theorem len_any (h : Db w base b v room bs sh ci co ct cl) :
    Calls Try.prog 13 #[.pointer (some ⟨b, 0, none⟩)] w fun e w' => e = .returned (.int .i64 bs.length) ∧ w' = w := by
  have h1 := hid (made_any h)
  have h2 := hid (size_any h)
  clear h
  go_enter Try.func13, Try.ntmps13
  go_wp2_with (first | (go_at_call 35; refine h1.out.mono ?_; rintro e w1 ⟨rfl, hw⟩; subst hw) | (go_at_call 36; refine h2.out.mono ?_; rintro e w1 ⟨rfl, hw⟩; subst hw))
  go_ret
  exact ⟨rfl, rfl⟩

set_option maxHeartbeats 400000 in
theorem room_any (h : Db w base b v room bs sh ci co ct cl) :
    Calls Try.prog 14 #[.pointer (some ⟨b, 0, none⟩)] w fun e w' => e = .returned (.int .i64 (roomP sh room bs.length : Nat)) ∧ ∃ q, w' = w.drewN q := by
  have h1 := hid (made_any h)
  have h2 := hid (free_any h)
  have c2 := h.c2
  clear h
  cases sh with
  | true =>
    go_enter Try.func14, Try.ntmps14
    go_wp2_with (go_at_call 35; refine h1.out.mono ?_; rintro e w1 ⟨rfl, hw⟩; subst hw)
    go_ret
    exact ⟨rfl, 0, rfl⟩
  | false =>
    go_enter Try.func14, Try.ntmps14
    go_wp2_with (first | (go_at_call 35; refine h1.out.mono ?_; rintro e w1 ⟨rfl, hw⟩; subst hw) | (go_at_call 37; refine h2.out.mono ?_; rintro e w1 ⟨rfl, q, hw⟩; subst hw))
    go_ret
    exact ⟨rfl, _, rfl⟩

set_option maxHeartbeats 400000 in
theorem peek_any (h : Db w base b v room bs sh ci co ct cl) (n : Int) :
    Calls Try.prog 24 #[.pointer (some ⟨b, 0, none⟩), .int .i64 n] w fun e w' => ∃ v', e = .returned v' ∧ OwnB w' w.heap.size v' (bs.take (kP n bs.length)) ∧ Below w.heap.size w w' := by
  have h1 := hid (made_any h)
  have h2 := hid (first_any h n)
  clear h
  go_enter Try.func24, Try.ntmps24
  go_wp2_with fail
  refine h1.out.mono ?_
  rintro e w1 ⟨rfl, hw⟩
  subst hw
  go_wp2_with fail
  refine h2.out.mono ?_
  rintro e w2 ⟨v2, rfl, ho, hb⟩
  go_wp2
  go_ret
  exact ⟨_, rfl, ho, hb⟩

set_option maxHeartbeats 400000 in
theorem done_any (h : Db w base b v room bs sh ci co ct cl) :
    Calls Try.prog 17 #[.pointer (some ⟨b, 0, none⟩)] w fun e w' => e = .returned (.bool (sh && ((bs.length : Int) == 0))) ∧ w' = w := by
  have h1 := hid (made_any h)
  have h2 := hid (size_any h)
  have c2 := h.c2
  clear h
  cases sh with
  | false =>
    go_enter Try.func17, Try.ntmps17
    go_wp2_with (go_at_call 35; refine h1.out.mono ?_; rintro e w1 ⟨rfl, hw⟩; subst hw)
    go_ret
    exact ⟨rfl, rfl⟩
  | true =>
    go_enter Try.func17, Try.ntmps17
    go_wp2_with (first | (go_at_call 35; refine h1.out.mono ?_; rintro e w1 ⟨rfl, hw⟩; subst hw) | (go_at_call 36; refine h2.out.mono ?_; rintro e w1 ⟨rfl, hw⟩; subst hw))
    go_ret
    refine ⟨?_, rfl⟩
    rfl

set_option maxHeartbeats 400000 in
theorem shut_yes (h : Db w base b v room bs true ci co ct cl) :
    Calls Try.prog 22 #[.pointer (some ⟨b, 0, none⟩)] w fun e w' => e = .returned (.int .i64 91) ∧ w' = w := by
  have h1 := hid (made_any h)
  have c2 := h.c2
  clear h
  go_enter Try.func22, Try.ntmps22
  go_wp2_with (go_at_call 35; refine h1.out.mono ?_; rintro e w1 ⟨rfl, hw⟩; subst hw)
  go_ret
  exact ⟨rfl, rfl⟩

set_option maxHeartbeats 400000 in
theorem shut_no (h : Db w base b v room bs false ci co ct cl) :
    Calls Try.prog 22 #[.pointer (some ⟨b, 0, none⟩)] w fun e w' => e = .returned (.int .i64 0) ∧ Db w' base b v room bs true ci co ct cl ∧ Gd w w' b v v := by
  have h1 := hid (made_any h)
  have c2 := h.c2
  have z2 := h.fz 2
  have H := hid (h.setSh true)
  clear h
  go_enter Try.func22, Try.ntmps22
  go_wp2_with (go_at_call 35; refine h1.out.mono ?_; rintro e w1 ⟨rfl, hw⟩; subst hw)
  go_ret
  exact ⟨rfl, H.out, Gd.set _ _ _ _ _⟩

set_option maxRecDepth 100000 in
set_option maxHeartbeats 1000000 in
theorem turn_bad (h : Db w base b v room bs sh ci co ct cl) (i : Int) (hi : i < 0 ∨ (bs.length : Int) ≤ i) (m : Int) :
    Calls Try.prog 25 #[.pointer (some ⟨b, 0, none⟩), .int .i64 i, .int .u8 m] w fun e w' => e = .returned (.int .i64 30) ∧ w' = w := by
  have h1 := hid (made_any h)
  have h2 := hid (size_any h)
  clear h
  rcases hi with hi | hi
  · go_enter Try.func25, Try.ntmps25
    go_wp2_with (go_at_call 35; refine h1.out.mono ?_; rintro e w1 ⟨rfl, hw⟩; subst hw)
    go_ret
    exact ⟨rfl, rfl⟩
  · have hi2 : ¬ i < 0 := by omega
    go_enter Try.func25, Try.ntmps25
    go_wp2_with (first | (go_at_call 35; refine h1.out.mono ?_; rintro e w1 ⟨rfl, hw⟩; subst hw) | (go_at_call 36; refine h2.out.mono ?_; rintro e w1 ⟨rfl, hw⟩; subst hw))
    go_ret
    exact ⟨rfl, rfl⟩

set_option maxRecDepth 100000 in
set_option maxHeartbeats 1000000 in
theorem turn_ok (h : Db w base b v room bs sh ci co ct cl) (i : Nat) (hi : i < bs.length) (m : UInt8) :
    Calls Try.prog 25 #[.pointer (some ⟨b, 0, none⟩), .int .i64 (i : Int), .int .u8 (m.toNat : Int)] w fun e w' => e = .returned (.int .i64 0) ∧
      Db w' base b v room (bs.set i ((bs.getD i 0) ^^^ m)) sh ci co (if m = 0 then ct else addI ct 1) cl ∧ Gd w w' b v v := by
  have h1 := hid (made_any h)
  have h2 := hid (size_any h)
  have h3 := hid (turn_any h i hi m)
  have hi2 : ¬ (i : Int) < 0 := by omega
  clear h
  obtain ⟨B, HB⟩ : ∃ B, Hid (B = bs.set i ((bs.getD i 0) ^^^ m)) := ⟨_, rfl⟩
  rw [← HB.out] at h3
  rw [← HB.out]
  obtain ⟨M, HM⟩ : ∃ M, Hid (M = (m.toNat : Int)) := ⟨_, rfl⟩
  rw [← HM.out] at h3
  rw [← HM.out]
  by_cases hm : m = 0
  · rw [if_pos hm]
    obtain rfl : M = 0 := by rw [HM.out, hm]; rfl
    have HMM := hid hm
    clear hm
    go_enter Try.func25, Try.ntmps25
    go_wp2_with fail
    refine h1.out.mono ?_
    rintro e w1 ⟨rfl, hw⟩
    subst hw
    go_wp2_with fail
    refine h2.out.mono ?_
    rintro e w1 ⟨rfl, hw⟩
    subst hw
    go_wp2_with fail
    refine h3.out.mono ?_
    rintro e w1 ⟨rfl, hd1, hg1⟩
    have HD1 := hid hd1
    have HG1 := hid hg1
    clear hd1 hg1
    go_wp2
    go_ret
    exact ⟨rfl, HD1.out, HG1.out⟩
  · rw [if_neg hm]
    have hm2 : ¬ M = 0 := by
      intro e
      apply hm
      apply UInt8.toNat_inj.1
      rw [HM.out] at e
      exact Int.ofNat_eq_zero.1 e
    have HMM := hid hm
    clear hm
    go_enter Try.func25, Try.ntmps25
    go_wp2_with fail
    refine h1.out.mono ?_
    rintro e w1 ⟨rfl, hw⟩
    subst hw
    go_wp2_with fail
    refine h2.out.mono ?_
    rintro e w1 ⟨rfl, hw⟩
    subst hw
    go_wp2_with fail
    refine h3.out.mono ?_
    rintro e w1 ⟨rfl, hd1, hg1⟩
    have HD1 := hid hd1
    have HG1 := hid hg1
    have c5 := hd1.c5
    have z5 := hd1.fz 5
    clear hd1 hg1
    go_wp2
    go_ret
    exact ⟨rfl, HD1.out.setT _, HG1.out.trans (Gd.set _ _ _ _ _)⟩

set_option maxRecDepth 100000 in
set_option maxHeartbeats 1000000 in
theorem read_any (h : Db w base b v room bs sh ci co ct cl) (n : Int) :
    Calls Try.prog 21 #[.pointer (some ⟨b, 0, none⟩), .int .i64 n] w fun e w' => ∃ v', e = .returned v' ∧ OwnB w' w.heap.size v' (bs.take (kP n bs.length)) ∧
      ∃ vd, Db w' base b vd room (bs.drop (kP n bs.length)) sh ci (addI co (kP n bs.length : Nat)) ct cl ∧ Gd w w' b v vd ∧ Hid (∀ k, vd.ownBlock = some k → v.ownBlock = some k) := by
  have h1 := hid (peek_any h n)
  have H := hid h
  obtain ⟨k, HK⟩ : ∃ k, Hid (k = kP n bs.length) := ⟨_, rfl⟩
  have HKL := hid (kP_le n bs.length)
  rw [← HK.out] at h1 HKL
  rw [← HK.out]
  have HTL := hid (show (bs.take k).length = k by rw [List.length_take]; have := HKL.out; omega)
  clear h
  by_cases hk : k = 0
  · subst hk
    have HZ := hid (show addI co (0 : Nat) = co by unfold addI; rw [Int.natCast_zero, Int.add_zero]; exact H.out.rng)
    rw [HZ.out, List.drop_zero]
    go_enter Try.func21, Try.ntmps21
    go_wp2_with fail
    refine h1.out.mono ?_
    rintro e w1 ⟨v1, rfl, ho, hb⟩
    have HO := hid ho
    have HB := hid hb
    obtain ⟨av, cv, rfl⟩ := ho.shape
    rw [HTL.out]
    clear ho hb
    go_wp2
    go_ret
    refine ⟨_, rfl, ?_, _, H.out.below HB.out, (Gd.refl _ _ _).below HB.out, fun _ e => e⟩
    have := HO.out
    rw [HTL.out] at this
    exact this
  · go_enter Try.func21, Try.ntmps21
    go_wp2_with fail
    refine h1.out.mono ?_
    rintro e w1 ⟨v1, rfl, ho, hb⟩
    have HO := hid ho
    have HB := hid hb
    have HD1 := hid (H.out.below hb)
    have HR := hid (drop_any HD1.out 0 k (by have := HKL.out; omega))
    obtain ⟨av, cv, rfl⟩ := ho.shape
    rw [HTL.out] at HO
    rw [HTL.out]
    rw [show ((0 : Nat) : Int) = 0 from rfl] at HR
    clear ho hb
    go_wp2_with fail
    refine HR.out.mono ?_
    rintro e w2 ⟨rfl, v2, hd2, hg2, hl2⟩
    have HD2 := hid (show Db w2 base b v2 room (bs.drop k) sh ci co ct cl by have := hd2; unfold dropP at this; rw [List.take_zero, List.nil_append, Nat.zero_add] at this; exact this)
    have HG2 := hid hg2
    have c4 := HD2.out.c4
    have z4 := HD2.out.fz 4
    clear hd2 hg2 HR
    go_wp2
    go_ret
    refine ⟨_, rfl, ?_, _, HD2.out.setO _ (addI_rng co k), Gd.after HB.out (HG2.out.trans (Gd.set _ _ _ _ _)), hl2⟩
    refine HO.out.gd (HG2.out.trans (Gd.set _ _ _ _ _)) (fun e => ?_) (fun j e e2 => ?_)
    · have := (HO.out.lt b e).1; have := H.out.lt; omega
    · have := (HO.out.lt j e).1; have := (H.out.own.lt j e2).2; omega
end

end Go.Proofs.Ytjhnbihohjimmaa

/- New, Count, Lose. -/
namespace Go.Proofs.Ytjhnbihohjimmaa
open Go.RowKit

section
variable {w w' : World} {base b : Nat} {v : Value} {room : Nat} {bs : List UInt8} {sh : Bool} {ci co ct cl : Int}

/-- what New lays -/
theorem new_db (w : World) (room : Nat) (h1 : 1 ≤ room) (h2 : room ≤ 4194304) :
    Db (w.alloc (.cells #[.slice none 0 0, .int .i64 room, .bool false, .int .i64 0, .int .i64 0, .int .i64 0, .int .i64 0] 63)) w.heap.size w.heap.size (.slice none 0 0) room [] false 0 0 0 0 :=
  ⟨Nat.le_refl _, hp_new _ _, Hel.nil _ _, (by intro e; cases e), h1, h2, by simp, by unfold wrap64; omega⟩

set_option maxRecDepth 100000 in
set_option maxHeartbeats 400000 in
theorem new_ok (w : World) (room : Nat) (h1 : 1 ≤ room) (h2 : room ≤ 4194304) :
    Calls Try.prog 9 #[.int .i64 (room : Int)] w fun e w' => e = .returned (.tuple #[.pointer (some ⟨w.heap.size, 0, none⟩), .int .i64 0]) ∧ Db w' w.heap.size w.heap.size (.slice none 0 0) room [] false 0 0 0 0 ∧ Below w.heap.size w w' := by
  have h3 : ¬ room < 1 := by omega
  have h4 : ¬ 4194304 < room := by omega
  have H := hid (new_db w room h1 h2)
  clear h1 h2
  go_enter Try.func9, Try.ntmps9
  go_wp2
  refine bodyPost_ret (results_tmp2 rfl _ _ _) rfl ⟨rfl, ?_, ?_⟩
  · exact H.out
  · exact below_walk _ _

set_option maxRecDepth 100000 in
set_option maxHeartbeats 400000 in
theorem count_any (h : Db w base b v room bs sh ci co ct cl) :
    Calls Try.prog 16 #[.pointer (some ⟨b, 0, none⟩)] w fun e w' => e = .returned (.agg #[.int .i64 ci, .int .i64 co, .int .i64 ct, .int .i64 cl]) ∧ Below w.heap.size w w' := by
  obtain ⟨z, s⟩ := zero_of_info (P := Try.prog) (t := 29) (v := .agg #[.int .i64 0, .int .i64 0, .int .i64 0, .int .i64 0]) (n := 4) (by kernel_rfl)
  have HS := hid s
  have H1 := hid (made_any (h.below (below_walk w (.cells #[.int .i64 0, .int .i64 0, .int .i64 0, .int .i64 0] 29))))
  have H := hid (h.below (below_walk w (.cells #[.int .i64 0, .int .i64 0, .int .i64 0, .int .i64 0] 29)))
  have HR := hid (hp_new w (.cells #[.int .i64 0, .int .i64 0, .int .i64 0, .int .i64 0] 29))
  have HB := hid (below_walk w (.cells #[.int .i64 0, .int .i64 0, .int .i64 0, .int .i64 0] 29))
  clear s h
  go_enter Try.func16, Try.ntmps16
  go_upto_region 1 with fail
  generalize w.alloc (.cells #[.int .i64 0, .int .i64 0, .int .i64 0, .int .i64 0] 29) = wv at H1 H HR HB ⊢
  go_wp2_with fail
  refine H1.out.mono ?_
  rintro e w1 ⟨rfl, hw⟩
  subst hw
  have c3 := H.out.c3
  have c4 := H.out.c4
  have c5 := H.out.c5
  have c6 := H.out.c6
  have HRG := hid (show w1.rangeAt b 3 [.int .i64 ci, .int .i64 co, .int .i64 ct, .int .i64 cl] from fun j u hu => by
    match j, hu with
    | 0, hu => injection hu with hu; subst hu; exact c3
    | 1, hu => injection hu with hu; subst hu; exact c4
    | 2, hu => injection hu with hu; subst hu; exact c5
    | 3, hu => injection hu with hu; subst hu; exact c6)
  clear c3 c4 c5 c6
  go_wp2_with (first
    | (refine wpList_load_mid rfl 29 (.tmp 9) rfl b 3 rfl [.int .i64 ci, .int .i64 co, .int .i64 ct, .int .i64 cl] _ HRG.out Try.underlying29 rfl HS.out ?_)
    | (refine st_row rfl 29 (.tmp 2) (.tmp 10) rfl w.heap.size [.int .i64 ci, .int .i64 co, .int .i64 ct, .int .i64 cl] rfl rfl 29 _ HR.out HS.out rfl (by simp [Value.oneCell']) ?_; intro w6 hw6; have HW := hid hw6; clear hw6))
  refine ret_row 2 29 rfl w.heap.size rfl _ 29 HW.out.blk _ Try.underlying29 rfl HS.out rfl ⟨rfl, ?_⟩
  exact HB.out.grown HW.out.grown HB.out.size (by intro k hk; cases hk; exact Nat.le_refl _)

set_option maxRecDepth 100000 in
set_option maxHeartbeats 1000000 in
theorem lose_place (h : Db w base b v room bs sh ci co ct cl) (i n : Int) (hi : i < 0 ∨ (bs.length : Int) < i) :
    Calls Try.prog 26 #[.pointer (some ⟨b, 0, none⟩), .int .i64 i, .int .i64 n] w fun e w' => e = .returned (.tuple #[.int .i64 0, .int .i64 30]) ∧ w' = w := by
  have h1 := hid (made_any h)
  have h2 := hid (size_any h)
  clear h
  rcases hi with hi | hi
  · go_enter Try.func26, Try.ntmps26
    go_wp2_with fail
    refine h1.out.mono ?_
    rintro e w1 ⟨rfl, hw⟩
    subst hw
    go_wp2
    exact bodyPost_ret (results_tmp2 rfl _ _ _) rfl ⟨rfl, rfl⟩
  · have hi2 : ¬ i < 0 := by omega
    go_enter Try.func26, Try.ntmps26
    go_wp2_with fail
    refine h1.out.mono ?_
    rintro e w1 ⟨rfl, hw⟩
    subst hw
    go_wp2_with fail
    refine h2.out.mono ?_
    rintro e w1 ⟨rfl, hw⟩
    subst hw
    go_wp2
    exact bodyPost_ret (results_tmp2 rfl _ _ _) rfl ⟨rfl, rfl⟩

set_option maxRecDepth 100000 in
set_option maxHeartbeats 1000000 in
theorem lose_arg (h : Db w base b v room bs sh ci co ct cl) (i : Nat) (hi : i ≤ bs.length) (n : Int) (hn : n < 0) :
    Calls Try.prog 26 #[.pointer (some ⟨b, 0, none⟩), .int .i64 (i : Int), .int .i64 n] w fun e w' => e = .returned (.tuple #[.int .i64 0, .int .i64 1]) ∧ w' = w := by
  have h1 := hid (made_any h)
  have h2 := hid (size_any h)
  have hi2 : ¬ bs.length < i := by omega
  clear h hi
  go_enter Try.func26, Try.ntmps26
  go_wp2_with fail
  refine h1.out.mono ?_
  rintro e w1 ⟨rfl, hw⟩
  subst hw
  go_wp2_with fail
  refine h2.out.mono ?_
  rintro e w1 ⟨rfl, hw⟩
  subst hw
  go_wp2
  exact bodyPost_ret (results_tmp2 rfl _ _ _) rfl ⟨rfl, rfl⟩

/-- how many bytes are lost -/
def lP (n : Int) (l : Nat) : Nat := (min n l).toNat

set_option maxRecDepth 100000 in
set_option maxHeartbeats 1000000 in
theorem lose_at (h : Db w base b v room bs sh ci co ct cl) (i : Nat) (hi : i ≤ bs.length) (n : Int) (hn : 0 ≤ n) (F k : Nat) (hF : F = bs.length - i) (hk : ((F : Int) < n ∧ k = F) ∨ (¬ (F : Int) < n ∧ n = (k : Int))) :
    Calls Try.prog 26 #[.pointer (some ⟨b, 0, none⟩), .int .i64 (i : Int), .int .i64 n] w fun e w' => e = .returned (.tuple #[.int .i64 (k : Int), .int .i64 0]) ∧
      ∃ v', Db w' base b v' room (dropP bs i k) sh ci co ct (addI cl k) ∧ Gd w w' b v v' ∧ Hid (∀ k, v'.ownBlock = some k → v.ownBlock = some k) := by
  have h1 := hid (made_any h)
  have h2 := hid (size_any h)
  have h3 := hid (drop_any h i k (by omega))
  have hw : IntKind.i64.wrap ((bs.length : Int) - (i : Int)) = (F : Int) := by have := h.le; have := h.big; rw [IntKind.wrap_i64]; omega
  have hi2 : ¬ bs.length < i := by omega
  have hn2 : ¬ n < 0 := by omega
  have HF := hid hF
  clear h hi hF hn
  rcases hk with ⟨hk, rfl⟩ | ⟨hk, rfl⟩
  all_goals
    go_enter Try.func26, Try.ntmps26
    go_wp2_with fail
    refine h1.out.mono ?_
    rintro e w1 ⟨rfl, hw⟩
    subst hw
    go_wp2_with fail
    refine h2.out.mono ?_
    rintro e w1 ⟨rfl, hw⟩
    subst hw
    go_wp2_with fail
    refine h2.out.mono ?_
    rintro e w1 ⟨rfl, hw⟩
    subst hw
    go_wp2_with fail
    refine h3.out.mono ?_
    rintro e w2 ⟨rfl, v2, hd2, hg2, hl2⟩
    have HD2 := hid hd2
    have HG2 := hid hg2
    have c6 := hd2.c6
    have z6 := hd2.fz 6
    clear hd2 hg2 h3
    go_wp2
    exact bodyPost_ret (results_tmp2 rfl _ _ _) rfl ⟨rfl, _, HD2.out.setL _, HG2.out.trans (Gd.set _ _ _ _ _), hl2⟩

theorem lose_ok (h : Db w base b v room bs sh ci co ct cl) (i : Nat) (hi : i ≤ bs.length) (n : Int) (hn : 0 ≤ n) :
    Calls Try.prog 26 #[.pointer (some ⟨b, 0, none⟩), .int .i64 (i : Int), .int .i64 n] w fun e w' => e = .returned (.tuple #[.int .i64 (lP n (bs.length - i) : Nat), .int .i64 0]) ∧
      ∃ v', Db w' base b v' room (dropP bs i (lP n (bs.length - i))) sh ci co ct (addI cl (lP n (bs.length - i) : Nat)) ∧ Gd w w' b v v' ∧ Hid (∀ k, v'.ownBlock = some k → v.ownBlock = some k) :=
  lose_at h i hi n hn _ _ rfl (by unfold lP; omega)
end

end Go.Proofs.Ytjhnbihohjimmaa

/- Write. -/
namespace Go.Proofs.Ytjhnbihohjimmaa
open Go.RowKit

theorem take_minl (cs : List UInt8) (F : Nat) : cs.take (min cs.length F) = cs.take F := by
  rw [Nat.min_comm, ← List.take_take, List.take_length]
/-- one part more -/
theorem wr_more (bs X p : List UInt8) (room : Nat) : (bs ++ X.take (room - bs.length)) ++ p.take (room - (bs ++ X.take (room - bs.length)).length) = bs ++ (X ++ p).take (room - bs.length) := by
  rw [List.append_assoc, List.take_append, List.length_append, List.length_take]
  congr 2
  by_cases h : X.length ≤ room - bs.length
  · congr 1; omega
  · rw [show room - (bs.length + min (room - bs.length) X.length) = 0 by omega, show room - bs.length - X.length = 0 by omega]
theorem wr_len (bs X p : List UInt8) (room : Nat) : (X.take (room - bs.length)).length + (p.take (room - (bs ++ X.take (room - bs.length)).length)).length = ((X ++ p).take (room - bs.length)).length := by
  have h := congrArg List.length (wr_more bs X p room)
  simp only [List.length_append] at h ⊢
  omega

section
variable {w w' : World} {base b : Nat} {v : Value} {room : Nat} {bs : List UInt8} {sh : Bool} {ci co ct cl : Int}

theorem put_all (h : Db w base b v room bs sh ci co ct cl) (vx : Value) (cs : List UInt8) (hx : Src w vx cs) :
    Calls Try.prog 38 #[.pointer (some ⟨b, 0, none⟩), vx] w fun e w' => e = .returned (.int .i64 ((cs.take (room - bs.length)).length : Int)) ∧
      ∃ v', Db w' base b v' room (bs ++ cs.take (room - bs.length)) sh ci co ct cl ∧ Gd w w' b v v' := by
  have := put_any h vx cs hx
  rw [take_minl] at this
  rw [List.length_take, Nat.min_comm]
  exact this

set_option maxHeartbeats 400000 in
theorem write_shut (h : Db w base b v room bs true ci co ct cl) (vp : Value) :
    Calls Try.prog 19 #[.pointer (some ⟨b, 0, none⟩), vp] w fun e w' => e = .returned (.tuple #[.int .i64 0, .int .i64 91]) ∧ w' = w := by
  have h1 := hid (made_any h)
  have c2 := h.c2
  clear h
  go_enter Try.func19, Try.ntmps19
  go_wp2_with fail
  refine h1.out.mono ?_
  rintro e w1 ⟨rfl, hw⟩
  subst hw
  go_wp2
  exact bodyPost_ret (results_tmp2 rfl _ _ _) rfl ⟨rfl, rfl⟩

set_option maxRecDepth 100000 in
set_option maxHeartbeats 2000000 in
theorem write_any (h : Db w base b v room bs false ci co ct cl) (vp : Value) (pss : List (List UInt8)) (hn : pss.length ≤ 140737488355327) (hp : ∀ W vd, Gd w W b v vd → Lists W vp pss) :
    Calls Try.prog 19 #[.pointer (some ⟨b, 0, none⟩), vp] w fun e w' => e = .returned (.tuple #[.int .i64 (((fl pss).take (room - bs.length)).length : Int), .int .i64 0]) ∧
      ∃ vd, Db w' base b vd room (bs ++ (fl pss).take (room - bs.length)) false (addI ci (((fl pss).take (room - bs.length)).length : Nat)) co ct cl ∧ Gd w w' b v vd := by
  have h1 := hid (made_any h)
  have c2 := h.c2
  have H := hid h
  have HP := hid hp
  obtain ⟨ao, cv, rfl⟩ := (hp w v (Gd.refl _ _ _)).shape
  clear h hp
  go_enter Try.func19, Try.ntmps19
  go_wp2_with fail
  refine h1.out.mono ?_
  rintro e w1 ⟨rfl, hw⟩
  subst hw
  go_wp2
  go_loopw [6, 18] (fun vn vi wr => ∃ (k : Nat) (vd : Value), k ≤ pss.length ∧ vi = .int .i64 k ∧ vn = .int .i64 (((fl (pss.take k)).take (room - bs.length)).length : Int) ∧ Hid (Db wr base b vd room (bs ++ (fl (pss.take k)).take (room - bs.length)) false ci co ct cl) ∧ Hid (Gd w1 wr b v vd)) (fun _ vi _ => pss.length - (intOf vi).toNat)
  case atStart => exact ⟨0, v, by omega, rfl, by simp [fl_nil], by rw [List.take_zero, fl_nil, List.take_nil, List.append_nil]; exact H.out, Gd.refl _ _ _⟩
  case round =>
    obtain ⟨k, vd, hk, rfl, rfl, HD, HG⟩ := hrel
    by_cases hlt : k < pss.length
    · obtain ⟨g, o, rfl, u, hc, hsrc⟩ := (HP.out _ _ HG.out).at k hlt
      obtain ⟨p, HPP⟩ : ∃ p, Hid (p = pss.getD k []) := ⟨_, rfl⟩
      rw [← HPP.out] at hsrc
      have HX := hid (fl_snoc pss k hlt)
      rw [← HPP.out] at HX
      obtain ⟨X, HXX⟩ : ∃ X, Hid (X = fl (pss.take k)) := ⟨_, rfl⟩
      rw [← HXX.out] at HX HD
      rw [← HXX.out]
      have HPU := hid (put_all HD.out u p hsrc)
      obtain ⟨N, HN⟩ : ∃ N, Hid (N = (X.take (room - bs.length)).length) := ⟨_, rfl⟩
      obtain ⟨M, HM⟩ : ∃ M, Hid (M = (p.take (room - (bs ++ X.take (room - bs.length)).length)).length) := ⟨_, rfl⟩
      rw [← HM.out] at HPU
      rw [← HN.out]
      obtain ⟨S, HS⟩ : ∃ S, Hid (S = N + M) := ⟨_, rfl⟩
      have hSl : S ≤ 4194304 := by
        have h1 := wr_len bs X p room
        rw [← HN.out, ← HM.out, ← HS.out] at h1
        have h2 := H.out.big
        have h3 := List.length_take_le (room - bs.length) (X ++ p)
        omega
      have hw : IntKind.i64.wrap ((N : Int) + (M : Int)) = (S : Int) := by rw [IntKind.wrap_i64, HS.out]; have := HS.out; omega
      clear hsrc
      go_wp2_with fail
      refine HPU.out.mono ?_
      rintro e w2 ⟨rfl, v2, hd2, hg2⟩
      have HD2 := hid hd2
      have HG2 := hid (HG.out.trans hg2)
      clear hd2 hg2 HPU
      go_wp2
      refine ⟨⟨k + 1, v2, hlt, by simp, ?_, ?_, HG2⟩, by simp [intOf]; omega⟩
      · rw [HX.out, ← wr_len, ← HN.out, ← HM.out, ← HS.out]
      · have := HD2.out
        rw [wr_more] at this
        rw [HX.out]
        exact this
    · obtain rfl : k = pss.length := by omega
      rw [fl_all] at HD
      rw [fl_all]
      have c3 := HD.out.c3
      have z3 := HD.out.fz 3
      obtain ⟨N, HN⟩ : ∃ N, Hid (N = ((fl pss).take (room - bs.length)).length) := ⟨_, rfl⟩
      rw [← HN.out]
      go_wp2
      refine bodyPost_ret (results_tmp2 rfl _ _ _) rfl ⟨?_, _, ?_, HG.out.trans (Gd.set _ _ _ _ _)⟩
      · rw [← HN.out]; rfl
      · rw [← HN.out]; exact HD.out.setI _
end

end Go.Proofs.Ytjhnbihohjimmaa

/- alive; lists of one and of two that a law lays. -/
namespace Go.Proofs.Ytjhnbihohjimmaa
open Go.RowKit

section
variable {w W : World} {b : Nat} {v vd : Value}
theorem lists1_gd (hg : Gd w W b v vd) (n : Nat) {u : Value} {bs : List UInt8} (hn : w.heap[n]? = some (.cells #[u] 27 (0, 0))) (hb : n ≠ b) (hv : v.ownBlock ≠ some n) (hs : Src W u bs) :
    Lists W (.slice (some ⟨n, 0, none⟩) 1 1) [bs] := by
  have e : W.heap[n]? = some (.cells #[u] 27 (0, 0)) := (hg.block n (hp_lt hn) hb hv).trans hn
  refine Or.inr ⟨n, 0, 1, rfl, hp_lt e, fun j hj => ?_⟩
  match j, hj with
  | 0, _ => exact ⟨u, by rw [cell_of_row _ _ _ _ _ _ e]; rfl, hs⟩
theorem lists2_gd (hg : Gd w W b v vd) (n : Nat) {u t : Value} {bs cs : List UInt8} (hn : w.heap[n]? = some (.cells #[u, t] 27 (0, 0))) (hb : n ≠ b) (hv : v.ownBlock ≠ some n) (hs : Src w u bs) (h1 : u.ownBlock ≠ some b) (h2 : ∀ k, u.ownBlock = some k → v.ownBlock ≠ some k)
    (ht : Src w t cs) (h3 : t.ownBlock ≠ some b) (h4 : ∀ k, t.ownBlock = some k → v.ownBlock ≠ some k) :
    Lists W (.slice (some ⟨n, 0, none⟩) 2 2) [bs, cs] := by
  have e : W.heap[n]? = some (.cells #[u, t] 27 (0, 0)) := (hg.block n (hp_lt hn) hb hv).trans hn
  refine Or.inr ⟨n, 0, 2, rfl, hp_lt e, fun j hj => ?_⟩
  match j, hj with
  | 0, _ => exact ⟨u, by rw [cell_of_row _ _ _ _ _ _ e]; rfl, hs.gd hg h1 h2⟩
  | 1, _ => exact ⟨t, by rw [cell_of_row _ _ _ _ _ _ e]; rfl, ht.gd hg h3 h4⟩
end

theorem conv2 (w : World) (o : Obj) (C : Array Value) (n c : Nat) : (convert 27 27 (.slice (some ⟨w.heap.size + 1, 0, none⟩) n c)).run Try.prog ((w.alloc o).alloc (.cells C 5)) = .ok (.slice (some ⟨w.heap.size + 1, 0, none⟩) n c) ((w.alloc o).alloc (.cells C 5 (C.size, C.size + 1))) := by
  have := Lib.run_convert_bytes_const (P := Try.prog) (w.alloc o) 27 5 C n c Try.underlying27 Try.underlying5
  rwa [hp_size] at this

/-- what alive lays ahead of its Write -/
theorem alive_parts (w1 : World) (b : Nat) (hb : b < w1.heap.size) (f1 f2 : Nat × Nat) (v : Value) (hv : v = .slice none 0 0) :
    ∀ W vd, Gd (((w1.alloc (.cells #[.int .u8 97, .int .u8 98] 5 f1)).alloc (.cells #[.int .u8 99] 5 f2)).alloc (.cells #[.slice (some ⟨w1.heap.size, 0, none⟩) 2 2, .slice (some ⟨w1.heap.size + 1, 0, none⟩) 1 1] 27)) W b v vd →
      Lists W (.slice (some ⟨w1.heap.size + 2, 0, none⟩) 2 2) [[97, 98], [99]] := by
  intro W vd hg
  subst hv
  generalize hA : w1.alloc (.cells #[.int .u8 97, .int .u8 98] 5 f1) = wA at hg
  generalize hB : wA.alloc (.cells #[.int .u8 99] 5 f2) = wB at hg
  have sA : wA.heap.size = w1.heap.size + 1 := by rw [← hA, hp_size]
  have sB : wB.heap.size = w1.heap.size + 2 := by rw [← hB, hp_size, sA]
  have a1 : wA.heap[w1.heap.size]? = some (.cells #[.int .u8 97, .int .u8 98] 5 f1) := by rw [← hA]; exact hp_new _ _
  have a2 : wB.heap[w1.heap.size]? = some (.cells #[.int .u8 97, .int .u8 98] 5 f1) := by rw [← hB, hp_old _ _ _ (by omega)]; exact a1
  have b2 : wB.heap[w1.heap.size + 1]? = some (.cells #[.int .u8 99] 5 f2) := by rw [← hB, ← sA]; exact hp_new _ _
  refine lists2_gd hg (w1.heap.size + 2) (by rw [← sB]; exact hp_new _ _) (by omega) (by intro e; cases e)
    (Src.below (src_lit a2 rfl (by decide) _ rfl) (below_walk _ _)) (by simp [Value.ownBlock]; omega) (by intro k _ e; cases e)
    (Src.below (src_lit b2 rfl (by decide) _ rfl) (below_walk _ _)) (by simp [Value.ownBlock]; omega) (by intro k _ e; cases e)

set_option maxRecDepth 100000 in
set_option maxHeartbeats 2000000 in
theorem alive_any (w : World) :
    Calls Try.prog 11 #[] w fun e w' => e = .returned (.bool true) ∧ Below w.heap.size w w' := by
  have kc := fun (w : World) (C : Array Value) (n c : Nat) => Lib.run_convert_bytes_const (P := Try.prog) w 27 5 C n c Try.underlying27 Try.underlying5
  have kc2 := conv2
  go_enter Try.func11, Try.ntmps11
  go_wp2_with fail
  refine (new_ok w 2 (by omega) (by omega)).mono ?_
  rintro e w1 ⟨rfl, hd1, hb1⟩
  have HD1 := hid hd1
  have HB1 := hid hb1
  clear hd1 hb1
  go_wp2_with fail
  have hlt := HD1.out.lt
  have HB2 := hid (((below_walk2 w1 (.cells #[.int .u8 97, .int .u8 98] 5 (2, 3)) (.cells #[.int .u8 99] 5 (1, 2))).alloc (by rw [hp_size, hp_size]; omega) (.cells #[.slice (some ⟨w1.heap.size, 0, none⟩) 2 2, .slice (some ⟨w1.heap.size + 1, 0, none⟩) 1 1] 27)))
  refine (write_any (HD1.out.below HB2.out) _ [[97, 98], [99]] (by decide) (alive_parts w1 _ hlt (2, 3) (1, 2) _ rfl)).mono ?_
  rintro e w3 ⟨rfl, v3, hd3, hg3⟩
  have HB3 := hid (show Below w.heap.size w w3 from (HB1.out.trans (HB2.out.mono HB1.out.size)).trans (((HD1.out.below HB2.out).low hg3)))
  obtain ⟨X, hX⟩ : ∃ X, Db w3 w.heap.size w.heap.size v3 2 [97, 98] false X 0 0 0 := ⟨_, hd3⟩
  have HD3 := hid hX
  have HR := hid (read_any HD3.out 9)
  clear hd3 hg3 HB2 hlt hX
  go_wp2_with fail
  refine HR.out.mono ?_
  rintro e w4 ⟨v4, rfl, ho4, vd, hd4, hg4, _⟩
  have ks := run_str (show Src w4 v4 [97, 98] from ho4.src (by decide))
  have HB4 := hid (HB3.out.trans (HD3.out.low hg4))
  clear ho4 hd4 hg4 HR
  go_wp2
  go_ret
  exact ⟨rfl, HB4.out⟩

theorem fl_one (bs : List UInt8) : fl [bs] = bs := by simp [fl]
theorem wr_one (bs : List UInt8) (R : Nat) (h : bs.length ≤ R) : (fl [bs]).take (R - ([] : List UInt8).length) = bs := by
  rw [fl_one, List.length_nil, Nat.sub_zero, List.take_of_length_le h]

/-- bytes are written into a new duct that has room for them -/
theorem write_one {w0 w : World} {base b room : Nat} {v : Value} {bs : List UInt8} {co ct cl : Int} (h : Db w base b (.slice none 0 0) room [] false 0 co ct cl) (hs : Src w0 v bs) (hb0 : base = w0.heap.size) (hb : Below base w0 w) (hr : bs.length ≤ room) :
    Calls Try.prog 19 #[.pointer (some ⟨b, 0, none⟩), .slice (some ⟨w.heap.size, 0, none⟩) 1 1] (w.alloc (.cells #[v] 27)) fun e w' => e = .returned (.tuple #[.int .i64 (bs.length : Int), .int .i64 0]) ∧
      ∃ vd, Db w' base b vd room bs false (addI 0 (bs.length : Nat)) co ct cl ∧ Below base w0 w' := by
  subst hb0
  have h2 := h.below (below_walk w (.cells #[v] 27))
  have hlt := h.lt
  have hb2 : Below w0.heap.size w0 (w.alloc (.cells #[v] 27)) := hb.alloc hb.size _
  have := write_any h2 (.slice (some ⟨w.heap.size, 0, none⟩) 1 1) [bs] (by simp) (fun W vd hg => lists1_gd hg w.heap.size (hp_new _ _) (by omega) (by intro e; cases e) (hs.below (hb2.trans (h2.low hg))))
  rw [wr_one bs room hr] at this
  refine this.mono ?_
  rintro e w' ⟨rfl, vd, hd, hg⟩
  exact ⟨rfl, vd, by simpa using hd, hb2.trans (h2.low hg)⟩

end Go.Proofs.Ytjhnbihohjimmaa

/- A script of calls in memory. -/
namespace Go.Proofs.Ytjhnbihohjimmaa
open Go.RowKit

/-- v is a slice of n calls -/
def Acts (w : World) (v : Value) (n : Nat) : Prop :=
  (∃ ao c, v = .slice ao 0 c ∧ n = 0) ∨ ∃ g o c, v = .slice (some ⟨g, o, none⟩) n c ∧ g < w.heap.size ∧ n ≤ 140737488355327 ∧
    ∀ j, j < n → ∃ (k a b : Int) (vp : Value) (pss : List (List UInt8)), w.rangeAt g (o + j * 4) [.int .i64 k, vp, .int .i64 a, .int .i64 b] ∧ Lists w vp pss ∧ pss.length ≤ 140737488355327 ∧ vp.oneCell' = true
theorem Acts.shape {w : World} {v : Value} {n : Nat} (h : Acts w v n) : ∃ ao c, v = .slice ao n c := by
  rcases h with ⟨ao, c, rfl, rfl⟩ | ⟨g, o, c, rfl, _⟩
  · exact ⟨_, _, rfl⟩
  · exact ⟨_, _, rfl⟩
theorem Acts.len {w : World} {v : Value} {n : Nat} (h : Acts w v n) : n ≤ 140737488355327 := by
  rcases h with ⟨ao, c, _, rfl⟩ | ⟨g, o, c, _, _, h, _⟩
  · omega
  · exact h
theorem Acts.below {w w' : World} {v : Value} {n : Nat} (h : Acts w v n) (hb : Below w.heap.size w w') : Acts w' v n := by
  rcases h with h | ⟨g, o, c, hv, hlt, hn, hc⟩
  · exact Or.inl h
  · refine Or.inr ⟨g, o, c, hv, Nat.lt_of_lt_of_le hlt hb.size, hn, fun j hj => ?_⟩
    obtain ⟨k, a, b, vp, pss, h1, h2, h3, h4⟩ := hc j hj
    exact ⟨k, a, b, vp, pss, fun i u hu => by rw [hb.cell (p := ⟨g, o + j * 4 + i, none⟩) hlt]; exact h1 i u hu, h2.below hb, h3, h4⟩
theorem Acts.at {w : World} {ao : Option Addr} {n c : Nat} (h : Acts w (.slice ao n c) n) (j : Nat) (hj : j < n) :
    ∃ g o, ao = some ⟨g, o, none⟩ ∧ ∃ (k a b : Int) (vp : Value) (pss : List (List UInt8)), (∀ W, Below w.heap.size w W → W.rangeAt g (o + j * 4) [.int .i64 k, vp, .int .i64 a, .int .i64 b]) ∧ (∀ W, Below w.heap.size w W → Lists W vp pss) ∧ pss.length ≤ 140737488355327 ∧ ∀ u ∈ [Value.int .i64 k, vp, .int .i64 a, .int .i64 b], u.oneCell' = true := by
  rcases h with ⟨ao, c, _, rfl⟩ | ⟨g, o, c, hv, hlt, hn, hc⟩
  · omega
  · injection hv with h1 _ _
    obtain ⟨k, a, b, vp, pss, h2, h3, h4, h5⟩ := hc j hj
    refine ⟨g, o, h1, k, a, b, vp, pss, fun W hb i u hu => ?_, fun W hb => h3.below hb, h4, fun u hu => ?_⟩
    · rw [hb.cell (p := ⟨g, o + j * 4 + i, none⟩) hlt]; exact h2 i u hu
    · simp only [List.mem_cons, List.not_mem_nil, or_false] at hu
      rcases hu with rfl | rfl | rfl | rfl
      · rfl
      · exact h5
      · rfl
      · rfl

/-- which call -/
theorem kind8 (k : Int) : (wrap64 (k.tmod 8 + 8)).tmod 8 = 0 ∨ (wrap64 (k.tmod 8 + 8)).tmod 8 = 1 ∨ (wrap64 (k.tmod 8 + 8)).tmod 8 = 2 ∨ (wrap64 (k.tmod 8 + 8)).tmod 8 = 3 ∨ (wrap64 (k.tmod 8 + 8)).tmod 8 = 4 ∨ (wrap64 (k.tmod 8 + 8)).tmod 8 = 5 ∨ (wrap64 (k.tmod 8 + 8)).tmod 8 = 6 ∨ (wrap64 (k.tmod 8 + 8)).tmod 8 = 7 := by
  have h1 := Int.tmod_lt_of_pos k (show (0 : Int) < 8 by omega)
  have h2 := Int.lt_tmod_of_pos k (show (0 : Int) < 8 by omega)
  have e : wrap64 (k.tmod 8 + 8) = k.tmod 8 + 8 := by unfold wrap64; omega
  rw [e, Int.tmod_eq_emod_of_nonneg (by omega)]
  omega
/-- a number as a byte -/
theorem byte_of (b : Int) : ∃ m : UInt8, b % 256 = (m.toNat : Int) := by
  refine ⟨(b % 256).toNat.toUInt8, ?_⟩
  simp
  omega

theorem inv_w {ci co cl : Int} {l n : Nat} (h : ci = wrap64 (wrap64 (co + cl) + (l : Int))) : addI ci (n : Int) = wrap64 (wrap64 (co + cl) + ((l + n : Nat) : Int)) := by
  subst h; unfold addI wrap64; omega
theorem inv_r {ci co cl : Int} {l n : Nat} (h : ci = wrap64 (wrap64 (co + cl) + (l : Int))) (hn : n ≤ l) : ci = wrap64 (wrap64 (addI co (n : Int) + cl) + ((l - n : Nat) : Int)) := by
  subst h; unfold addI wrap64; omega
theorem inv_l {ci co cl : Int} {l n : Nat} (h : ci = wrap64 (wrap64 (co + cl) + (l : Int))) (hn : n ≤ l) : ci = wrap64 (wrap64 (co + addI cl (n : Int)) + ((l - n : Nat) : Int)) := by
  subst h; unfold addI wrap64; omega

end Go.Proofs.Ytjhnbihohjimmaa

/- Calls, out of their reading (full form). -/
namespace Go.Proofs.Ytjhnbihohjimmaa
open Go.ChangeShapes Go.WideShapes Go.ChangeAt Go.RowKit

theorem cellsAct : Try.prog.cellsOf 37 = 4 := by kernel_rfl
theorem bytesAct : Try.prog.bytesOf 37 = 48 := by kernel_rfl
theorem cellsInt : Try.prog.cellsOf 3 = 1 := by kernel_rfl
theorem cellsLs : Try.prog.cellsOf 35 = 1 := by kernel_rfl
theorem four_of {α : Type} {l : List α} (h : l.length = 4) : ∃ a b c d, l = [a, b, c, d] := by
  match l, h with
  | [a, b, c, d], _ => exact ⟨a, b, c, d, rfl⟩

section
variable {H : Type} {enc : TypeId × Value → H} {W : World} {spare : Nat → Bool} {held : Bool}

set_option maxRecDepth 100000 in
theorem act_w {fuel : Nat} {cs : List Value} {x : DataW H × List MemPlace} (h : DataW.trod enc Try.prog W 0 spare held fuel 37 cs = some x) (hk : ∀ n ∈ x.1.weights Try.prog 37, n ≤ reachBytes) :
    ∃ (k a b : Int) (vp : Value) (pss : List (List UInt8)), cs = [.int .i64 k, vp, .int .i64 a, .int .i64 b] ∧ Lists W vp pss ∧ pss.length ≤ 140737488355327 ∧ vp.oneCell' = true := by
  obtain ⟨⟨d0, q0⟩, ⟨d1, q1⟩, ⟨d2, q2⟩, ⟨d3, q3⟩, m, hxx, hlen, t0, t1, t2, t3⟩ := Go.Joins.trod_struct4 Try.underlying37 h
  subst hxx
  rw [cellsAct] at hlen
  obtain ⟨x0, x1, x2, x3, rfl⟩ := four_of hlen
  obtain ⟨K, e0, _⟩ := DataW.trod_int Try.underlying3 t0
  simp [cellsInt] at e0
  obtain ⟨A, e2, _⟩ := DataW.trod_int Try.underlying3 t2
  simp [cellsInt] at e2
  obtain ⟨B, e3, _⟩ := DataW.trod_int Try.underlying3 t3
  simp [cellsInt] at e3
  subst e0 e2 e3
  obtain ⟨ai, ki, ci, hV⟩ : ∃ ai ni ci, x1 = .slice ai ni ci := by
    rcases DataW.trod_slice Try.underlying35 t1 with ⟨hc1, _⟩ | ⟨a', len', cap', _, _, _, _, hc1, _⟩
    · simp [cellsLs] at hc1; exact ⟨_, _, _, hc1⟩
    · simp [cellsLs] at hc1; exact ⟨_, _, _, hc1⟩
  subst hV
  obtain ⟨pss, h1, h2, h3⟩ := lists_w (W := W) (pl := q1) (d := d1) (ao := ai) (n := ki) (c := ci) ⟨m, by simpa [Value.cells, cellsInt, cellsLs] using t1⟩ (fun n hn => hk n (by
    simp only [DataW.weights, Try.underlying37]
    exact DataW.weights_mem_each (P := Try.prog) (ts := [3, 35, 3, 3]) (ds := [d0, d1, d2, d3]) (j := 1) rfl rfl n hn))
  exact ⟨K, A, B, _, pss, rfl, h1, by omega, rfl⟩

set_option maxRecDepth 100000 in
theorem acts_w {ao : Option Addr} {n c : Nat} {d : DataW H} {pl : List MemPlace} (h : DataW.Trod enc Try.prog W 0 spare held 22 (.slice ao n c) d pl) (hk : ∀ x ∈ d.weights Try.prog 22, x ≤ reachBytes) :
    Acts W (.slice ao n c) n := by
  have hr : reachBytes < 2 ^ 47 := reachBytes_lt
  obtain ⟨fuel, hf⟩ := h
  rcases Go.Deep.open_slice Try.underlying22 hf with ⟨hcs, _⟩ | ⟨a, len, cap, m, n', D, Pl, hcs, _, hl, hm, hmm, hx, hel⟩
  · simp [Value.cells] at hcs
    obtain ⟨rfl, rfl, rfl⟩ := hcs
    exact Or.inl ⟨_, _, rfl, rfl⟩
  · simp [Value.cells] at hcs
    obtain ⟨rfl, rfl, rfl⟩ := hcs
    have hlm : n ≤ m := by rw [hmm]; split <;> omega
    rw [cellsAct] at hel
    simp only [Prod.mk.injEq] at hx
    obtain ⟨rfl, _⟩ := hx
    have hn : n ≤ 140737488355327 := by
      have := hk (((List.range n).map D).length * Try.prog.bytesOf 37 + ((List.range (m - n)).map fun j => D (n + j)).length * Try.prog.bytesOf 37) (by simp [DataW.weights, Try.underlying22, Nat.add_mul])
      rw [bytesAct] at this
      simp at this
      omega
    have hw : ∀ i, i < n → ∀ x ∈ (D i).weights Try.prog 37, x ≤ reachBytes := fun i hi x hxm => hk x (by
      simp only [DataW.weights, Try.underlying22, List.mem_cons, List.mem_append]
      exact Or.inr (Or.inl (weightsAll_mem (List.mem_map.2 ⟨i, List.mem_range.2 hi, rfl⟩) x hxm)))
    have hone : ∀ i, i < n → ∃ (k e b : Int) (vp : Value) (pss : List (List UInt8)), W.cell? (a.add (i * 4)) = some (.int .i64 k) ∧ W.cell? ((a.add (i * 4)).add 1) = some vp ∧ W.cell? ((a.add (i * 4)).add 2) = some (.int .i64 e) ∧ W.cell? ((a.add (i * 4)).add 3) = some (.int .i64 b) ∧ Lists W vp pss ∧ pss.length ≤ 140737488355327 ∧ vp.oneCell' = true := by
      intro i hi
      obtain ⟨cs', hc, ht⟩ := hel i (by omega)
      obtain ⟨k, e, b, vp, pss, rfl, h2⟩ := act_w ht (hw i hi)
      have hh := World.cells?_some hc
      exact ⟨k, e, b, vp, pss, by simpa [Addr.add] using hh.2.2 0 (by omega), by simpa using hh.2.2 1 (by omega), by simpa using hh.2.2 2 (by omega), by simpa using hh.2.2 3 (by omega), h2⟩
    rcases Nat.eq_zero_or_pos n with rfl | hpos
    · exact Or.inl ⟨_, _, rfl, rfl⟩
    · obtain ⟨x, _, _, _, _, h0, _⟩ := hone 0 hpos
      have ha : a = ⟨a.block, a.off, none⟩ := addr_plain (v := .int .i64 x) (by simpa [Addr.add] using h0)
      have hlt : a.block < W.heap.size := World.block_lt_of_cell? W a (u := .int .i64 x) (by simpa [Addr.add] using h0)
      generalize a.block = g at ha hlt
      generalize a.off = o at ha
      subst ha
      refine Or.inr ⟨g, o, c, rfl, hlt, hn, fun j hj => ?_⟩
      obtain ⟨k, e, b, vp, pss, h0, h1, h2, h3, h4, h5, h6⟩ := hone j hj
      simp only [add_plain] at h0 h1 h2 h3
      refine ⟨k, e, b, vp, pss, fun i v hv => ?_, h4, h5, h6⟩
      match i, hv with
      | 0, hv => simp only [List.getElem?_cons_zero, Option.some.injEq] at hv; subst hv; exact h0
      | 1, hv => simp only [List.getElem?_cons_succ, List.getElem?_cons_zero, Option.some.injEq] at hv; subst hv; exact h1
      | 2, hv => simp only [List.getElem?_cons_succ, List.getElem?_cons_zero, Option.some.injEq] at hv; subst hv; exact h2
      | 3, hv => simp only [List.getElem?_cons_succ, List.getElem?_cons_zero, Option.some.injEq] at hv; subst hv; exact h3
      | i + 4, hv => simp at hv
end

end Go.Proofs.Ytjhnbihohjimmaa
