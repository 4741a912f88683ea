/- Contracts and pure facts that the proof needs, joined. -/
import Derived.Test.YtgoalfiinfkldaaProg
import Derived.WalkKit
import Derived.WalkSpells
import Derived.WalkLawsBesides
import Derived.BigQuiet
import Derived.Deep.QuietTactic
import Derived.Laws.AppendOwnNone
import Derived.Laws.OwnMore
import Derived.Lib.AppendStr
import Derived.Laws.BytesString
import Derived.Laws.IdiomStrings
import Derived.Deep.WholeRow
import Derived.Lib.Join
import Derived.Lib.Index
import Derived.Deep.MidRow
import Derived.Deep.RegionHeld3
import Init
import Derived.Deep.Cut
import Derived.KernelRfl
import Derived.Laws.BitsAllLaws
import Derived.Lib.SlBytesConst
import Derived.ProofKit
import Derived.OpenShut
import Derived.Deep.Strs
import Derived.SizedLaws
import Derived.Test.YtgoalfiinfkldaaRows
import Derived.Deep.Slices
import Derived.Lib.BitFns
import Derived.Lib.Strings
import Derived.Lib.Slices
import Derived.Lib.Small
import Derived.Lib.Walk
import Derived.Deep.RegionWith
import Derived.Deep.RegionLaw

/- Small laws on worlds that only grew; bytes of one's own, bytes that lie somewhere; append and make. -/
namespace Go.Proofs.Ytgoalfiinfkldaa
open Go.RowKit

theorem Try.infoU8 : (Try.prog.info? 5).map (fun i => (i.zero, i.size, i.bytes)) = some (some (.int .u8 0), 1, 1) := by kernel_rfl

theorem gb_refl (w : World) (row : Option Nat) : w.grownBy w row := ⟨rfl, rfl, rfl, Nat.le_refl _, fun _ _ _ => rfl⟩
theorem gb_trans {a b c : World} {row : Option Nat} (h : a.grownBy b row) (k : b.grownBy c row) : a.grownBy c row :=
  ⟨k.os.trans h.os, k.tape.trans h.tape, k.output.trans h.output, Nat.le_trans h.size k.size,
    fun i hi hne => (k.block i (Nat.lt_of_lt_of_le hi h.size) hne).trans (h.block i hi hne)⟩
/-- a second growth may write what is new since the first world -/
theorem gb_then {a b c : World} {row row' : Option Nat} (h : a.grownBy b row) (k : b.grownBy c row') (hr : ∀ j, row' = some j → a.heap.size ≤ j ∨ row = some j) : a.grownBy c row :=
  ⟨k.os.trans h.os, k.tape.trans h.tape, k.output.trans h.output, Nat.le_trans h.size k.size,
    fun i hi hne => (k.block i (Nat.lt_of_lt_of_le hi h.size) (fun e => by
      rcases hr i e.symm with h1 | h1
      · omega
      · exact hne h1.symm)).trans (h.block i hi hne)⟩
theorem gb_drewN (w : World) (n : Nat) (row : Option Nat) : w.grownBy (w.drewN n) row := ⟨rfl, rfl, rfl, Nat.le_refl _, fun _ _ _ => rfl⟩
theorem gb_drew (w : World) (row : Option Nat) : w.grownBy w.drew row := ⟨rfl, rfl, rfl, Nat.le_refl _, fun _ _ _ => rfl⟩
theorem gb_alloc (w : World) (o : Obj) (row : Option Nat) : w.grownBy (w.alloc o) row :=
  ⟨rfl, rfl, rfl, by simp, fun k hk _ => Below.heap_alloc w o k hk⟩
theorem gb_set (w : World) (a : Addr) (u : Value) : w.grownBy (w.setCell a u) (some a.block) :=
  ⟨rfl, rfl, rfl, by simp, fun k _ hk => Below.heap_setCell w a u k (fun e => hk (by rw [e]))⟩
theorem gb_below {w w' : World} (h : w.grownBy w' none) : Below w.heap.size w w' := ⟨h.os, h.tape, h.output, h.size, fun k hk => h.block k hk (by simp)⟩
theorem below_gb {w w' : World} (h : Below w.heap.size w w') (row : Option Nat) : w.grownBy w' row := ⟨h.os, h.tape, h.output, h.size, fun k hk _ => h.block k hk⟩
theorem gb_any {w w' : World} (h : w.grownBy w' none) (row : Option Nat) : w.grownBy w' row := ⟨h.os, h.tape, h.output, h.size, fun k hk _ => h.block k hk (by simp)⟩
theorem below_walk (w : World) (o : Obj) : Below w.heap.size w (w.alloc o) := (Below.refl _ _).alloc (Nat.le_refl _) _
theorem below_walk2 (w : World) (o p : Obj) : Below w.heap.size w ((w.alloc o).alloc p) := (below_walk w o).alloc (by simp) _

/-- bytes, as cells -/
def bytesV (bs : List UInt8) : List Value := bs.map fun c => Value.int .u8 c.toNat
theorem bytesV_length (bs : List UInt8) : (bytesV bs).length = bs.length := by simp [bytesV]
theorem bytesV_append (a b : List UInt8) : bytesV (a ++ b) = bytesV a ++ bytesV b := by simp [bytesV]
theorem bytesV_get (bs : List UInt8) (j : Nat) : (bytesV bs)[j]? = (bs[j]?).map (fun c => Value.int .u8 c.toNat) := by simp [bytesV]
theorem bytesV_one (bs : List UInt8) : ∀ u ∈ bytesV bs, u.oneCell' = true := by
  intro u hu
  simp only [bytesV, List.mem_map] at hu
  obtain ⟨c, _, rfl⟩ := hu
  rfl
theorem bytesV_inj {a b : List UInt8} (h : bytesV a = bytesV b) : a = b := by
  unfold bytesV at h
  refine (List.map_inj_right ?_).1 h
  intro x y hxy
  simp only [Value.int.injEq, true_and] at hxy
  exact UInt8.toNat_inj.1 (by omega)

theorem addr_add (g j : Nat) : (⟨g, 0, none⟩ : Addr).add j = ⟨g, j, none⟩ := by
  by_cases h : j = 0
  · subst h; simp [Addr.add]
  · simp [Addr.add, h]

/-- v owns the bytes bs, in memory from block 'base' on -/
def OwnB (w : World) (base : Nat) (v : Value) (bs : List UInt8) : Prop := w.ownsRow base 5 1 v bs.length (bytesV bs)
theorem OwnB.kept {w w' : World} {base : Nat} {v : Value} {bs : List UInt8} {row : Option Nat} (h : OwnB w base v bs) (hg : w.grownBy w' row) (hne : v.ownBlock = none ∨ v.ownBlock ≠ row) : OwnB w' base v bs := World.ownsRow.kept h hg hne
theorem OwnB.below {w w' : World} {base : Nat} {v : Value} {bs : List UInt8} (h : OwnB w base v bs) (hb : Below w.heap.size w w') : OwnB w' base v bs :=
  World.ownsRow.kept h (below_gb hb none) (by cases e : v.ownBlock <;> simp)
theorem OwnB.le {w : World} {base base' : Nat} {v : Value} {bs : List UInt8} (h : OwnB w base v bs) (hb : base' ≤ base) : OwnB w base' v bs :=
  ⟨h.1, h.2.elim Or.inl (fun ⟨g, cap, cur, hv, hg, r⟩ => Or.inr ⟨g, cap, cur, hv, Nat.le_trans hb hg, r⟩)⟩
theorem OwnB.forms {w : World} {base : Nat} {v : Value} {bs : List UInt8} (h : OwnB w base v bs) :
    (v = .slice none 0 0 ∧ bs = []) ∨ ∃ g cap, v = .slice (some ⟨g, 0, none⟩) bs.length cap ∧ base ≤ g ∧ g < w.heap.size ∧ bs.length ≤ cap ∧ cap ≤ maxLen ∧ (∀ j, w.frozen? ⟨g, j, none⟩ = false) ∧ ∀ j, j < bs.length → w.cell? ⟨g, j, none⟩ = some (.int .u8 (bs.getD j 0).toNat) := by
  have h' := h
  rcases h.2 with ⟨h0, h1⟩ | ⟨g, cap, cur, hv, hb, hh, h1, h2, _, _⟩
  · exact Or.inl ⟨h0, List.length_eq_zero_iff.1 h1⟩
  · refine Or.inr ⟨g, cap, hv, hb, ?_, h1, h2, ?_, ?_⟩
    · exact (World.ownsRow.lt h' g (by rw [hv]; rfl)).2
    · intro j; simp [World.frozen?, hh]
    · intro j hj
      have := World.ownsRow.cells h' (g := g) (by rw [hv]; rfl) j (.int .u8 (bs.getD j 0).toNat) (by rw [bytesV_get]; simp [List.getElem?_eq_getElem hj, List.getD_eq_getElem?_getD])
      rw [addr_add] at this
      exact this
theorem OwnB.len {w : World} {base : Nat} {v : Value} {bs : List UInt8} (h : OwnB w base v bs) : bs.length ≤ maxLen := by
  rcases h.forms with ⟨_, rfl⟩ | ⟨g, cap, _, _, _, h1, h2, _⟩
  · simp
  · omega
theorem OwnB.shape {w : World} {base : Nat} {v : Value} {bs : List UInt8} (h : OwnB w base v bs) : ∃ a cap, v = .slice a bs.length cap := by
  rcases h.forms with ⟨h1, rfl⟩ | ⟨g, cap, h1, _⟩
  · exact ⟨none, 0, h1⟩
  · exact ⟨_, _, h1⟩
theorem OwnB.lt {w : World} {base : Nat} {v : Value} {bs : List UInt8} (h : OwnB w base v bs) : ∀ k, v.ownBlock = some k → base ≤ k ∧ k < w.heap.size := World.ownsRow.lt h
theorem OwnB.nil (w : World) (base : Nat) : OwnB w base (.slice none 0 0) [] := World.ownsRow_nil _ _ _ _

/-- v is a slice that holds the bytes bs, wherever they lie -/
def Src (w : World) (v : Value) (bs : List UInt8) : Prop :=
  bs.length ≤ 140737488355327 ∧ ((v = .slice none 0 0 ∧ bs = []) ∨ ∃ ad cap, v = .slice (some ad) bs.length cap ∧ bs.length ≤ cap ∧ cap ≤ maxLen ∧ (0 < bs.length → ad.block < w.heap.size) ∧ ∀ j, j < bs.length → w.cell? (ad.add j) = some (.int .u8 (bs.getD j 0).toNat))
theorem addr_block (ad : Addr) (j : Nat) : (ad.add j).block = ad.block := by unfold Addr.add; split <;> rfl
theorem Src.below {w w' : World} {v : Value} {bs : List UInt8} (h : Src w v bs) (hb : Below w.heap.size w w') : Src w' v bs := by
  obtain ⟨h0, h | ⟨ad, cap, rfl, h1, h2, hlt, h3⟩⟩ := h
  · exact ⟨h0, Or.inl h⟩
  · exact ⟨h0, Or.inr ⟨ad, cap, rfl, h1, h2, fun h => Nat.lt_of_lt_of_le (hlt h) hb.size, fun j hj => by rw [hb.cell (p := ad.add j) (by rw [addr_block]; exact hlt (by omega))]; exact h3 j hj⟩⟩
theorem Src.grown {w w' : World} {v : Value} {bs : List UInt8} {row : Option Nat} (h : Src w v bs) (hg : w.grownBy w' row) (hne : v.ownBlock = none ∨ v.ownBlock ≠ row) : Src w' v bs := by
  obtain ⟨h0, h | ⟨ad, cap, rfl, h1, h2, hlt, h3⟩⟩ := h
  · exact ⟨h0, Or.inl h⟩
  · refine ⟨h0, Or.inr ⟨ad, cap, rfl, h1, h2, fun h => Nat.lt_of_lt_of_le (hlt h) hg.size, fun j hj => ?_⟩⟩
    rw [World.cell?_of_block (hg.block (ad.add j).block (by rw [addr_block]; exact hlt (by omega)) (by rw [addr_block]; simpa [Value.ownBlock] using hne))]
    exact h3 j hj
theorem OwnB.src {w : World} {base : Nat} {v : Value} {bs : List UInt8} (h : OwnB w base v bs) (hl : bs.length ≤ 140737488355327) : Src w v bs := by
  refine ⟨hl, ?_⟩
  rcases h.forms with h0 | ⟨g, cap, hv, _, hlt, h1, h2, _, hc⟩
  · exact Or.inl h0
  · exact Or.inr ⟨⟨g, 0, none⟩, cap, hv, h1, h2, fun _ => hlt, fun j hj => by rw [addr_add]; exact hc j hj⟩

section
variable {w : World} {b : Nat}
theorem blk_set {cs : Array Value} {T : TypeId} {i : Nat} (hb : w.heap[b]? = some (.cells cs T (0, 0))) (u : Value) :
    (w.setCell ⟨b, i, none⟩ u).heap[b]? = some (.cells (cs.setIfInBounds i u) T (0, 0)) := by
  simp [World.setCell, Array.getElem?_modify, hb]
end

theorem hid {p : Prop} (h : p) : Hid p := h

theorem src_cells {w : World} {ad : Addr} {bs : List UInt8} (hc : ∀ j, j < bs.length → w.cell? (ad.add j) = some (.int .u8 (bs.getD j 0).toNat)) :
    ∀ j u, (bytesV bs)[j]? = some u → w.cell? (ad.add j) = some u := by
  intro j u hj
  rw [bytesV_get] at hj
  have hjl : j < bs.length := by
    rcases Nat.lt_or_ge j bs.length with h | h
    · exact h
    · rw [List.getElem?_eq_none h] at hj; cases hj
  rw [hc j hjl, ← hj]
  simp [List.getElem?_eq_getElem hjl, List.getD_eq_getElem?_getD]

/-- append(own, bytes...) -/
theorem app_src {w : World} {ops : Array Oper} {rest : List Oper} {o : Oper} {a : Act} {Q : Exit → Act → World → Prop} (hgd : o.guard = none) (s x : Operand)
    (ho : o.op = .call { callee := .builtin .append, args := #[s, x], argTypes := #[30, 30] })
    (base : Nat) (v : Value) (bs : List UInt8) (hs : a.eval s = v) (hown : OwnB w base v bs) (vx : Value) (cs : List UInt8) (hx : a.eval x = vx) (hsrc : Src w vx cs)
    (hlen : bs.length + cs.length ≤ 140737488355327) (hbase : base ≤ w.heap.size)
    (h : ∀ v' w', OwnB w' base v' (bs ++ cs) → w.grownBy w' v.ownBlock → wpList Try.prog ops Q rest (a.put o.dst v') w') : wpList Try.prog ops Q (o :: rest) a w := by
  obtain ⟨i0, hi, hz0, hz1, hz2⟩ := info_parts Try.infoU8
  obtain ⟨_, ⟨rfl, rfl⟩ | ⟨ad, cap, rfl, h1, h2, hlt, hc⟩⟩ := hsrc
  · refine wpList_append_own_none hgd s x 30 ho base 5 i0 1 Try.underlying30 hi v bs.length (bytesV bs) hs hown hx ?_
    exact h v w (by simpa using hown) (gb_refl _ _)
  · refine wpList_append_own w hgd s x 30 ho base 5 i0 (.int .u8 0) 1 1 Try.underlying30 hi hz0 hz1 hz2 rfl (by decide) v bs.length (bytesV bs) hs hown ad cs.length cap (bytesV cs) hx (by simp [bytesV]) (src_cells hc) (bytesV_one cs) (by unfold maxLen; omega) (by omega) hbase ?_
    intro v' w' h3 h4 _
    exact h v' w' (by unfold OwnB; rw [bytesV_append, List.length_append]; exact h3) h4

/-- append(own, text...) -/
theorem app_str {w : World} {ops : Array Oper} {rest : List Oper} {o : Oper} {a : Act} {Q : Exit → Act → World → Prop} (hgd : o.guard = none) (s x : Operand)
    (ho : o.op = .call { callee := .builtin .append, args := #[s, x], argTypes := #[30, 9] })
    (base : Nat) (v : Value) (bs : List UInt8) (hs : a.eval s = v) (hown : OwnB w base v bs) (t : ByteArray) (hx : a.eval x = .string t)
    (hlen : bs.length + t.size ≤ 140737488355327) (hbase : base ≤ w.heap.size)
    (h : ∀ v' w', OwnB w' base v' (bs ++ t.data.toList) → w.grownBy w' v.ownBlock → wpList Try.prog ops Q rest (a.put o.dst v') w') : wpList Try.prog ops Q (o :: rest) a w := by
  obtain ⟨i0, hi, hz0, hz1, hz2⟩ := info_parts Try.infoU8
  refine Lib.wpList_append_own_string w hgd s x 30 9 ho base 5 i0 Try.underlying30 Try.underlying9 hi hz0 hz1 hz2 v bs.length (bytesV bs) hs hown t hx (by unfold maxLen; omega) (by omega) hbase ?_
  intro v' w' h3 h4 _
  refine h v' w' ?_ h4
  unfold OwnB
  rw [bytesV_append, List.length_append]
  exact h3

/-- make([]byte, 0, n) -/
theorem make_own {w : World} {ops : Array Oper} {rest : List Oper} {o : Oper} {a : Act} {Q : Exit → Act → World → Prop} (hgd : o.guard = none) (l c : Operand) (ho : o.op = Op.makeSlice 30 l c)
    (C : Int) (n : Nat) (hl : a.eval l = .int .i64 0) (hc : a.eval c = .int .i64 C) (hC : C = (n : Int)) (hn : n ≤ 140737488355327)
    (h : ∀ v' w', OwnB w' w.heap.size v' [] → Below w.heap.size w w' → wpList Try.prog ops Q rest (a.put o.dst v') w') : wpList Try.prog ops Q (o :: rest) a w := by
  obtain ⟨i0, hi, hz0, hz1, hz2⟩ := info_parts Try.infoU8
  refine wpList_make_own w hgd l c 30 ho w.heap.size 5 i0 (.int .u8 0) 1 Try.underlying30 hi hz0 hz1 .i64 .i64 C n hl hc hC (by rw [hz2]; omega) (by unfold maxLen; omega) (Nat.le_refl _) ?_
  intro w' h1 h2
  exact h _ w' h1 (gb_below h2)

/-- string(bytes) -/
theorem run_str {w : World} {v : Value} {bs : List UInt8} (h : Src w v bs) : (convert 30 9 v).run Try.prog w = .ok (.string ⟨bs.toArray⟩) w := by
  obtain ⟨_, ⟨rfl, rfl⟩ | ⟨ad, cap, rfl, h1, h2, hlt, hc⟩⟩ := h
  · rw [run_convert_bytes_string w 30 9 5 none 0 0 Try.underlying30 Try.underlying5 Try.underlying9]
    rfl
  · refine run_convert_bytes_back w 30 9 5 ad cap bs Try.underlying30 Try.underlying5 Try.underlying9 ?_
    intro j hj
    rw [hc j hj]
    simp [List.getElem?_eq_getElem hj, List.getD_eq_getElem?_getD]


end Go.Proofs.Ytgoalfiinfkldaa

/- Paths, plainly: names, pieces, the text of pieces; walking by a written path. -/
namespace Go.Proofs.Ytgoalfiinfkldaa

/-- a sign that a name may have -/
def nbI (c : Int) : Bool := decide ((65 ≤ c ∧ c ≤ 90) ∨ (97 ≤ c ∧ c ≤ 122) ∨ (48 ≤ c ∧ c ≤ 57) ∨ c = 46 ∨ c = 95 ∨ c = 45)
/-- a name -/
def nmP (l : List UInt8) : Bool := decide (1 ≤ l.length ∧ l.length ≤ 64 ∧ l ≠ [46] ∧ l ≠ [46, 46]) && l.all (fun c => nbI c.toNat)
/-- what stands between the slashes -/
def pcs : List UInt8 → List (List UInt8)
  | [] => [[]]
  | c :: r => if c = 47 then [] :: pcs r else
    match pcs r with
    | [] => [[c]]
    | h :: t => (c :: h) :: t
/-- pieces with slashes between -/
def txt : List (List UInt8) → List UInt8
  | [] => []
  | x :: r => x ++ (r.map ((47 : UInt8) :: ·)).flatten

theorem txt_join (l : List (List UInt8)) : Lib.join l [47] = txt l := by
  cases l with
  | nil => rfl
  | cons x r => rw [Lib.join_cons]; rfl
theorem txt_one (x : List UInt8) : txt [x] = x := by simp [txt]
theorem txt_two (x y : List UInt8) (r : List (List UInt8)) : txt (x :: y :: r) = x ++ 47 :: txt (y :: r) := by simp [txt]

theorem pcs_ne (s : List UInt8) : pcs s ≠ [] := by
  cases s with
  | nil => simp [pcs]
  | cons c r =>
    unfold pcs
    split
    · simp
    · split <;> simp
theorem pcs_slash (r : List UInt8) : pcs (47 :: r) = [] :: pcs r := by simp [pcs]
theorem pcs_cons (c : UInt8) (r : List UInt8) (h : c ≠ 47) : ∃ x t, pcs r = x :: t ∧ pcs (c :: r) = (c :: x) :: t := by
  cases e : pcs r with
  | nil => exact absurd e (pcs_ne r)
  | cons x t => exact ⟨x, t, rfl, by simp [pcs, h, e]⟩
theorem pcs_append (a b : List UInt8) : pcs (a ++ 47 :: b) = pcs a ++ pcs b := by
  induction a with
  | nil => simp [pcs]
  | cons c a ih =>
    by_cases h : c = 47
    · subst h; rw [List.cons_append, pcs_slash, pcs_slash, ih]; rfl
    · obtain ⟨x, t, e1, e2⟩ := pcs_cons c a h
      obtain ⟨y, u, f1, f2⟩ := pcs_cons c (a ++ 47 :: b) h
      rw [List.cons_append, f2, e2]
      rw [ih, e1] at f1
      simp only [List.cons_append, List.cons.injEq] at f1
      obtain ⟨rfl, rfl⟩ := f1
      rfl
theorem pcs_whole {s : List UInt8} (h : (47 : UInt8) ∉ s) : pcs s = [s] := by
  induction s with
  | nil => rfl
  | cons c r ih =>
    simp only [List.mem_cons, not_or] at h
    obtain ⟨x, t, e1, e2⟩ := pcs_cons c r (fun e => h.1 e.symm)
    rw [ih h.2] at e1
    simp only [List.cons.injEq] at e1
    obtain ⟨rfl, rfl⟩ := e1
    exact e2
theorem pcs_mem (s : List UInt8) : ∀ p ∈ pcs s, (47 : UInt8) ∉ p := by
  induction s with
  | nil => simp [pcs]
  | cons c r ih =>
    by_cases h : c = 47
    · subst h; rw [pcs_slash]; intro p hp
      simp only [List.mem_cons] at hp
      rcases hp with rfl | hp
      · simp
      · exact ih p hp
    · obtain ⟨x, t, e1, e2⟩ := pcs_cons c r h
      rw [e2]; rw [e1] at ih
      intro p hp
      simp only [List.mem_cons] at hp
      rcases hp with rfl | hp
      · simp only [List.mem_cons, not_or]
        exact ⟨fun e => h e.symm, ih x (by simp)⟩
      · exact ih p (by simp [hp])
theorem txt_pcs (s : List UInt8) : txt (pcs s) = s := by
  induction s with
  | nil => rfl
  | cons c r ih =>
    by_cases h : c = 47
    · subst h; rw [pcs_slash]
      cases e : pcs r with
      | nil => exact absurd e (pcs_ne r)
      | cons x t => rw [txt_two, ← e, ih]; rfl
    · obtain ⟨x, t, e1, e2⟩ := pcs_cons c r h
      rw [e2]; rw [e1] at ih
      simp only [txt] at ih ⊢
      rw [← ih]; rfl
theorem pcs_txt : ∀ (l : List (List UInt8)), l ≠ [] → (∀ p ∈ l, (47 : UInt8) ∉ p) → pcs (txt l) = l
  | [], h, _ => absurd rfl h
  | [x], _, h => by rw [txt_one]; exact pcs_whole (h x (by simp))
  | x :: y :: r, _, h => by
    rw [txt_two, pcs_append, pcs_whole (h x (by simp)), pcs_txt (y :: r) (by simp) (fun p hp => h p (List.mem_cons_of_mem _ hp))]
    rfl

theorem nmP_slash {p : List UInt8} (h : nmP p = true) : (47 : UInt8) ∉ p := by
  unfold nmP at h
  rw [Bool.and_eq_true, List.all_eq_true] at h
  intro hm
  have := h.2 47 hm
  revert this; decide
theorem nmP_ne {p : List UInt8} (h : nmP p = true) : p ≠ [] ∧ p ≠ [46] ∧ p ≠ [46, 46] := by
  unfold nmP at h
  rw [Bool.and_eq_true, decide_eq_true_iff] at h
  obtain ⟨⟨h1, _, h2, h3⟩, _⟩ := h
  refine ⟨?_, h2, h3⟩
  rintro rfl; simp at h1
theorem nmP_len {p : List UInt8} (h : nmP p = true) : p.length ≤ 64 := by
  unfold nmP at h
  rw [Bool.and_eq_true, decide_eq_true_iff] at h
  exact h.1.2.1

/-- so many names, and no more, make a path -/
def pathL (l : List (List UInt8)) : Prop := (∀ p ∈ l, nmP p = true) ∧ l.length ≤ 32
/-- a path's names -/
def nms (s : List UInt8) : List (List UInt8) := if s = [] then [] else pcs s
/-- is it a path? -/
def okP (s : List UInt8) : Bool := (nms s).all nmP && decide ((nms s).length ≤ 32)
theorem okP_iff (s : List UInt8) : okP s = true ↔ pathL (nms s) := by
  unfold okP pathL
  rw [Bool.and_eq_true, List.all_eq_true, decide_eq_true_iff]
theorem txt_nms (s : List UInt8) : txt (nms s) = s := by
  unfold nms
  split
  · rename_i h; rw [h]; rfl
  · exact txt_pcs s
theorem txt_ne {l : List (List UInt8)} (h : ∀ p ∈ l, nmP p = true) (hl : l ≠ []) : txt l ≠ [] := by
  cases l with
  | nil => exact absurd rfl hl
  | cons x r =>
    have := (nmP_ne (h x (by simp))).1
    simp only [txt]
    intro e
    exact this (List.append_eq_nil_iff.1 e).1
theorem nms_txt {l : List (List UInt8)} (h : ∀ p ∈ l, nmP p = true) : nms (txt l) = l := by
  unfold nms
  by_cases hl : l = []
  · subst hl; rfl
  · rw [if_neg (txt_ne h hl)]
    exact pcs_txt l hl (fun p hp => nmP_slash (h p hp))
theorem okP_txt {l : List (List UInt8)} (h : pathL l) : okP (txt l) = true := by
  rw [okP_iff, nms_txt h.1]; exact h
theorem okP_nil : okP [] = true := by decide

/-- one piece of a written path -/
def stepP (l : List (List UInt8)) (p : List UInt8) : Except Int (List (List UInt8)) :=
  if p = [] ∨ p = [46] then .ok l
  else if p = [46, 46] then (if l = [] then .error 43 else .ok l.dropLast)
  else if nmP p = true then .ok (l ++ [p]) else .error 42
/-- pieces, one behind the other -/
def stepsP : List (List UInt8) → List (List UInt8) → Except Int (List (List UInt8))
  | l, [] => .ok l
  | l, p :: r => match stepP l p with
    | .ok m => stepsP m r
    | .error e => .error e
/-- a written path -/
def walkP (l : List (List UInt8)) (s : List UInt8) : Except Int (List (List UInt8)) :=
  if 4096 < s.length then .error 40 else if s.head? = some 47 then .error 41 else stepsP l (pcs s)
def walksP : List (List UInt8) → List (List UInt8) → Except Int (List (List UInt8))
  | l, [] => .ok l
  | l, s :: r => match walkP l s with
    | .ok m => walksP m r
    | .error e => .error e
/-- the path of names that are names -/
def endP (l : List (List UInt8)) : Except Int (List UInt8) := if 32 < l.length then .error 44 else .ok (txt l)
def finP (r : Except Int (List (List UInt8))) : Except Int (List UInt8) := match r with
  | .ok m => endP m
  | .error e => .error e
def joinP (b : List UInt8) (more : List (List UInt8)) : Except Int (List UInt8) :=
  if okP b = true then finP (walksP (nms b) more) else .error 45
/-- an answer's text and number -/
def aS (r : Except Int (List UInt8)) : List UInt8 := match r with | .ok s => s | .error _ => []
def aN (r : Except Int (List UInt8)) : Int := match r with | .ok _ => 0 | .error e => e

theorem stepP_err {l : List (List UInt8)} {p : List UInt8} {e : Int} (h : stepP l p = .error e) : e = 42 ∨ e = 43 := by
  unfold stepP at h
  repeat' split at h
  all_goals first | (cases h; done) | (cases h; simp)
theorem stepsP_err : ∀ {r l : List (List UInt8)} {e : Int}, stepsP l r = .error e → e = 42 ∨ e = 43
  | [], l, e, h => by cases h
  | p :: r, l, e, h => by
    unfold stepsP at h
    split at h
    · exact stepsP_err h
    · rename_i e' he; cases h; exact stepP_err he
theorem walkP_err {l : List (List UInt8)} {s : List UInt8} {e : Int} (h : walkP l s = .error e) : 40 ≤ e ∧ e ≤ 43 := by
  unfold walkP at h
  split at h
  · cases h; decide
  · split at h
    · cases h; decide
    · rcases stepsP_err h with rfl | rfl <;> decide
theorem walksP_err : ∀ {r l : List (List UInt8)} {e : Int}, walksP l r = .error e → 40 ≤ e ∧ e ≤ 43
  | [], l, e, h => by cases h
  | p :: r, l, e, h => by
    unfold walksP at h
    split at h
    · exact walksP_err h
    · rename_i e' he; cases h; exact walkP_err he
theorem stepP_names {l m : List (List UInt8)} {p : List UInt8} (h : stepP l p = .ok m) (hl : ∀ x ∈ l, nmP x = true) : ∀ x ∈ m, nmP x = true := by
  unfold stepP at h
  repeat' split at h
  · cases h; exact hl
  · cases h
  · cases h; exact fun x hx => hl x ((List.dropLast_sublist l).subset hx)
  · rename_i hp; cases h
    intro x hx
    rw [List.mem_append] at hx
    rcases hx with hx | hx
    · exact hl x hx
    · rw [List.mem_singleton] at hx; rw [hx]; exact hp
  · cases h
theorem stepsP_names : ∀ {r l m : List (List UInt8)}, stepsP l r = .ok m → (∀ x ∈ l, nmP x = true) → ∀ x ∈ m, nmP x = true
  | [], l, m, h, hl => by cases h; exact hl
  | p :: r, l, m, h, hl => by
    unfold stepsP at h
    split at h
    · rename_i k hk; exact stepsP_names h (stepP_names hk hl)
    · cases h
theorem walkP_names {l m : List (List UInt8)} {s : List UInt8} (h : walkP l s = .ok m) (hl : ∀ x ∈ l, nmP x = true) : ∀ x ∈ m, nmP x = true := by
  unfold walkP at h
  split at h
  · cases h
  · split at h
    · cases h
    · exact stepsP_names h hl
theorem walksP_names : ∀ {r l m : List (List UInt8)}, walksP l r = .ok m → (∀ x ∈ l, nmP x = true) → ∀ x ∈ m, nmP x = true
  | [], l, m, h, hl => by cases h; exact hl
  | p :: r, l, m, h, hl => by
    unfold walksP at h
    split at h
    · rename_i k hk; exact walksP_names h (walkP_names hk hl)
    · cases h

/-- what is answered is a path -/
theorem joinP_ok {b : List UInt8} {more : List (List UInt8)} {s : List UInt8} (h : joinP b more = .ok s) : ∃ m, okP b = true ∧ walksP (nms b) more = .ok m ∧ pathL m ∧ s = txt m := by
  unfold joinP at h
  split at h
  · rename_i hb
    unfold finP at h
    split at h
    · rename_i m hm
      unfold endP at h
      split at h
      · cases h
      · cases h
        exact ⟨m, hb, hm, ⟨walksP_names hm ((okP_iff b).1 hb).1, by omega⟩, rfl⟩
    · cases h
  · cases h

end Go.Proofs.Ytgoalfiinfkldaa

/- Texts as lists of bytes; slices of texts in memory, of one's own or wherever they lie. -/
namespace Go.Proofs.Ytgoalfiinfkldaa
open Go.RowKit

/-- a text's bytes, and the text of bytes -/
def bl (s : ByteArray) : List UInt8 := s.toList
def mk (l : List UInt8) : ByteArray := ⟨l.toArray⟩
theorem bl_eq (s : ByteArray) : bl s = s.data.toList := ByteArray.toList_eq s
theorem bl_mk (l : List UInt8) : bl (mk l) = l := ByteArray.toList_mk l
theorem mk_bl (s : ByteArray) : mk (bl s) = s := by
  rw [bl_eq]; exact Lib.mk_data s
theorem bl_size (s : ByteArray) : s.size = (bl s).length := by rw [bl_eq]; exact Lib.size_eq s
theorem mk_size (l : List UInt8) : (mk l).size = l.length := by rw [bl_size, bl_mk]
theorem bl_inj {s t : ByteArray} (h : bl s = bl t) : s = t := by rw [← mk_bl s, h, mk_bl]
theorem mk_inj {a b : List UInt8} (h : mk a = mk b) : a = b := by rw [← bl_mk a, h, bl_mk]
theorem ext_bl (s : ByteArray) (a b : Nat) : s.extract a b = mk (((bl s).take b).drop a) := by
  rw [bl_eq, Lib.extract_eq, List.drop_take]
  rfl

theorem hp_new (w : World) (o : Obj) : (w.alloc o).heap[w.heap.size]? = some o := heap_alloc_last w o
theorem hp_lt {w : World} {b : Nat} {o : Obj} (h : w.heap[b]? = some o) : b < w.heap.size := (Array.getElem?_eq_some_iff.1 h).1

theorem Try.infoStr : (Try.prog.info? 9).map (fun i => (i.zero, i.size, i.bytes)) = some (some (.string ⟨#[]⟩), 1, 16) := by kernel_rfl

def strV (ts : List (List UInt8)) : List Value := ts.map fun t => Value.string (mk t)
theorem strV_length (ts : List (List UInt8)) : (strV ts).length = ts.length := by simp [strV]
theorem strV_one (ts : List (List UInt8)) : ∀ u ∈ strV ts, u.oneCell' = true := by
  intro u hu
  simp only [strV, List.mem_map] at hu
  obtain ⟨c, _, rfl⟩ := hu
  rfl
theorem strV_get (ts : List (List UInt8)) (j : Nat) (hj : j < ts.length) : (strV ts)[j]? = some (.string (mk (ts.getD j []))) := by
  simp [strV, List.getD_eq_getElem?_getD, hj]

/-- v is a slice that holds the texts ts, wherever they lie -/
def Strs (w : World) (v : Value) (ts : List (List UInt8)) : Prop :=
  (∃ ao c, v = .slice ao 0 c ∧ ts = [] ∧ (ao = none → c = 0)) ∨ ∃ g o c, v = .slice (some ⟨g, o, none⟩) ts.length c ∧ g < w.heap.size ∧ ts.length ≤ c ∧ ∀ j, j < ts.length → w.cell? ⟨g, o + j, none⟩ = some (.string (mk (ts.getD j [])))
theorem Strs.below {w w' : World} {v : Value} {ts : List (List UInt8)} (h : Strs w v ts) (hb : Below w.heap.size w w') : Strs w' v ts := by
  rcases h with h | ⟨g, o, c, hv, hlt, h1, hc⟩
  · exact Or.inl h
  · exact Or.inr ⟨g, o, c, hv, Nat.lt_of_lt_of_le hlt hb.size, h1, fun j hj => by rw [hb.cell (p := ⟨g, o + j, none⟩) hlt]; exact hc j hj⟩
theorem Strs.shape {w : World} {v : Value} {ts : List (List UInt8)} (h : Strs w v ts) : ∃ ao c, v = .slice ao ts.length c := by
  rcases h with ⟨ao, c, hv, rfl, _⟩ | ⟨g, o, c, hv, _⟩
  · exact ⟨ao, c, hv⟩
  · exact ⟨_, _, hv⟩
theorem Strs.at {w : World} {ao : Option Addr} {n c : Nat} {ts : List (List UInt8)} (h : Strs w (.slice ao n c) ts) (k : Nat) (hk : k < ts.length) :
    ∃ g o, ao = some ⟨g, o, none⟩ ∧ w.cell? ⟨g, o + k, none⟩ = some (.string (mk (ts.getD k []))) := by
  rcases h with ⟨_, _, _, h0, _⟩ | ⟨g, o, c, hv, _, _, hc⟩
  · rw [h0] at hk; simp at hk
  · injection hv with h1 _ _
    exact ⟨g, o, h1, hc k hk⟩

/-- v owns the texts ts, in memory from block 'base' on -/
def OwnS (w : World) (base : Nat) (v : Value) (ts : List (List UInt8)) : Prop := w.ownsRow base 9 1 v ts.length (strV ts)
theorem OwnS.nil (w : World) (base : Nat) : OwnS w base (.slice none 0 0) [] := World.ownsRow_nil _ _ _ _
theorem OwnS.lt {w : World} {base : Nat} {v : Value} {ts : List (List UInt8)} (h : OwnS w base v ts) : ∀ k, v.ownBlock = some k → base ≤ k ∧ k < w.heap.size := World.ownsRow.lt h
theorem OwnS.kept {w w' : World} {base : Nat} {v : Value} {ts : List (List UInt8)} {row : Option Nat} (h : OwnS w base v ts) (hg : w.grownBy w' row) (hne : v.ownBlock = none ∨ v.ownBlock ≠ row) : OwnS w' base v ts := World.ownsRow.kept h hg hne
theorem OwnS.below {w w' : World} {base : Nat} {v : Value} {ts : List (List UInt8)} (h : OwnS w base v ts) (hb : Below w.heap.size w w') : OwnS w' base v ts :=
  World.ownsRow.kept h (below_gb hb none) (by cases e : v.ownBlock <;> simp)
theorem OwnS.le {w : World} {base base' : Nat} {v : Value} {ts : List (List UInt8)} (h : OwnS w base v ts) (hb : base' ≤ base) : OwnS w base' v ts :=
  ⟨h.1, h.2.elim Or.inl (fun ⟨g, cap, cur, hv, hg, r⟩ => Or.inr ⟨g, cap, cur, hv, Nat.le_trans hb hg, r⟩)⟩
theorem OwnS.forms {w : World} {base : Nat} {v : Value} {ts : List (List UInt8)} (h : OwnS w base v ts) :
    (v = .slice none 0 0 ∧ ts = []) ∨ ∃ g cap, v = .slice (some ⟨g, 0, none⟩) ts.length cap ∧ base ≤ g ∧ g < w.heap.size ∧ ts.length ≤ cap ∧ cap ≤ maxLen ∧ (∀ j, w.frozen? ⟨g, j, none⟩ = false) ∧ ∀ j, j < ts.length → w.cell? ⟨g, j, none⟩ = some (.string (mk (ts.getD j []))) := by
  have h' := h
  rcases h.2 with ⟨h0, h1⟩ | ⟨g, cap, cur, hv, hb, hh, h1, h2, _, _⟩
  · exact Or.inl ⟨h0, List.length_eq_zero_iff.1 h1⟩
  · refine Or.inr ⟨g, cap, hv, hb, ?_, h1, h2, ?_, ?_⟩
    · exact (World.ownsRow.lt h' g (by rw [hv]; rfl)).2
    · intro j; simp [World.frozen?, hh]
    · intro j hj
      have := World.ownsRow.cells h' (g := g) (by rw [hv]; rfl) j _ (strV_get ts j hj)
      rw [addr_add] at this
      exact this
theorem OwnS.strs {w : World} {base : Nat} {v : Value} {ts : List (List UInt8)} (h : OwnS w base v ts) : Strs w v ts := by
  rcases h.forms with ⟨rfl, rfl⟩ | ⟨g, cap, rfl, h1, h2, h3, h4, h5, h6⟩
  · exact Or.inl ⟨_, _, rfl, rfl, fun _ => rfl⟩
  · exact Or.inr ⟨g, 0, cap, rfl, h2, h3, fun j hj => by rw [Nat.zero_add]; exact h6 j hj⟩
/-- a row that was laid at once -/
theorem OwnS.made {w : World} {g base : Nat} {ts : List (List UInt8)} (hb : w.heap[g]? = some (.cells (strV ts).toArray 9 (0, 0))) (hl : ts.length ≤ 1099511627776) (hg : base ≤ g) (n : Nat) (hn : n = ts.length) :
    OwnS w base (.slice (some ⟨g, 0, none⟩) n n) ts := by
  subst hn
  refine ⟨by simp [strV], Or.inr ⟨g, ts.length, (strV ts).toArray, rfl, hg, hb, Nat.le_refl _, by unfold maxLen; omega, ?_, ?_⟩⟩
  · simp [strV]
  · rw [Nat.mul_one, ← strV_length ts, List.take_length]
/-- without the last ones -/
theorem OwnS.take {w : World} {base g cap : Nat} {ts : List (List UInt8)} (h : OwnS w base (.slice (some ⟨g, 0, none⟩) ts.length cap) ts) (n : Nat) (hn : n ≤ ts.length) : OwnS w base (.slice (some ⟨g, 0, none⟩) n cap) (ts.take n) := by
  obtain ⟨h0, h | ⟨g', cap', cur, hv, hb, hh, h1, h2, h3, h4⟩⟩ := h
  · cases h.1
  · injection hv with e1 e2 e3
    injection e1 with e1
    injection e1 with e1
    subst e1 e3
    have el : (ts.take n).length = n := by rw [List.length_take]; omega
    unfold OwnS
    rw [el]
    refine ⟨by rw [strV_length, el]; omega, Or.inr ⟨g, cap, cur, rfl, hb, hh, by omega, h2, h3, ?_⟩⟩
    have e : strV (ts.take n) = (strV ts).take n := by simp [strV, List.map_take]
    rw [e, ← h4, List.take_take]
    congr 1
    omega

/-- where an append lies: where it lay, or at the end -/
theorem app_place {P : Program} (w : World) (base : Nat) (t ty e : TypeId) (i : TypeInfo) (z : Value) (size bytes : Nat) (ht : P.underlying t = some (.slice e)) (hi : P.info? e = some i) (hz : i.zero = some z)
    (hsize : i.size = size) (hby : i.bytes = bytes)
    (v : Value) (n : Nat) (xs : List Value) (hown : w.ownsRow base e size v n xs)
    (a : Addr) (m c : Nat) (news : List Value) (hl : news.length = m * size) (hnews : ∀ j u, news[j]? = some u → w.cell? (a.add j) = some u) (h1 : ∀ u ∈ news, u.oneCell' = true)
    (h63 : n + m ≤ maxLen) (hbytes : (n + m) * bytes ≤ 140737488355328) (v' : Value) (w' : World)
    (hr : (Builtin.append_ #[t, t] ty #[v, .slice (some a) m c]).run P w = .ok v' w') : v'.ownBlock = v.ownBlock ∨ v'.ownBlock = some w.heap.size := by
  subst hsize
  subst hby
  have hsmall : n + m ≤ 9223372036854775807 := by simp only [maxLen] at h63; omega
  rcases hown.2 with ⟨rfl, rfl⟩ | ⟨g, cap, cur, rfl, hbg, hg, hnc, hcm, hcs, htake⟩
  · by_cases hm : m = 0
    · subst hm
      simp [Builtin.append_, run_underlying ht, sizeOf, typeInfo, hi, Builtin.lenOf, Builtin.firstCells, loadCells, loadCellsFrom] at hr
      rw [← hr.1]
      exact Or.inl rfl
    · have hr2 := run_append_nil (P := P) w t ty e i z ht hi hz a m c news hl hnews (by omega) (by omega) (by have hb := hbytes; simp only [Nat.zero_add] at hb; omega)
      rw [hr] at hr2
      injection hr2 with e1 e2
      rw [e1]
      exact Or.inr rfl
  · by_cases hroom : n + m ≤ cap
    · have hfit : n * i.size + news.length ≤ cur.size := by rw [hl, hcs, ← Nat.add_mul]; exact Nat.mul_le_mul_right _ hroom
      have hr2 := run_append_room (P := P) w t ty e i ht hi g n cap cur hg a m c news hl hnews h1 hroom hfit
      rw [hr] at hr2
      injection hr2 with e1 e2
      rw [e1]
      exact Or.inl rfl
    · have holds : ∀ j u, xs[j]? = some u → w.cell? ((⟨g, 0, none⟩ : Addr).add j) = some u := hown.cells (g := g) rfl
      have hr2 := run_append_grow (P := P) w t ty e i z ht hi hz ⟨g, 0, none⟩ n cap xs hown.1 holds a m c news hl hnews (by omega) (by omega) (growslice_fits (by omega) hbytes)
      rw [hr] at hr2
      injection hr2 with e1 e2
      rw [e1]
      exact Or.inr rfl

/-- append(own, texts...) -/
theorem app_text {w : World} {ops : Array Oper} {rest : List Oper} {o : Oper} {a : Act} {Q : Exit → Act → World → Prop} (hgd : o.guard = none) (s x : Operand)
    (ho : o.op = .call { callee := .builtin .append, args := #[s, x], argTypes := #[27, 27] })
    (base : Nat) (v : Value) (ts : List (List UInt8)) (hs : a.eval s = v) (hown : OwnS w base v ts) (us : List (List UInt8)) (vx : Value) (hx : a.eval x = vx) (hc : Strs w vx us)
    (hlen : ts.length + us.length ≤ 8796093022208) (hbase : base ≤ w.heap.size)
    (h : ∀ v' w', OwnS w' base v' (ts ++ us) → w.grownBy w' v.ownBlock → (v'.ownBlock = v.ownBlock ∨ v'.ownBlock = some w.heap.size) → wpList Try.prog ops Q rest (a.put o.dst v') w') : wpList Try.prog ops Q (o :: rest) a w := by
  obtain ⟨i0, hi, hz0, hz1, hz2⟩ := info_parts Try.infoStr
  have fin : ∀ (ad : Addr) (m c : Nat) (news : List Value), news = strV us → vx = .slice (some ad) m c → m = us.length → (∀ j u, news[j]? = some u → w.cell? (ad.add j) = some u) → wpList Try.prog ops Q (o :: rest) a w := by
    intro ad m c news hn hv hm hcl
    subst hn hv hm
    refine wpList_plain hgd fun K hK => ?_
    have hl : (strV us).length = us.length * 1 := by rw [strV_length]; omega
    obtain ⟨v', w', hr, h2, h3, _⟩ := run_append_own (P := Try.prog) w base 27 o.type 9 i0 (.string ⟨#[]⟩) 1 16 Try.underlying27 hi hz0 hz1 hz2 rfl (by decide) v ts.length (strV ts) hown ad us.length c (strV us) hl hcl (strV_one us) (by unfold maxLen; omega) (by omega) hbase
    have hp := app_place (P := Try.prog) w base 27 o.type 9 i0 (.string ⟨#[]⟩) 1 16 Try.underlying27 hi hz0 hz1 hz2 v ts.length (strV ts) hown ad us.length c (strV us) hl hcl (strV_one us) (by unfold maxLen; omega) (by omega) v' w' hr
    unfold Oper.wp execOp
    simp only [ho, resolve, invoke, builtin, Sem.run_bind, Sem.run_pure, Result.andThen_ok, List.map_toArray, List.map_cons, List.map_nil, hs, hx, hr]
    refine hK _ _ (h v' w' ?_ h3 hp)
    unfold OwnS
    rw [List.length_append, show strV (ts ++ us) = strV ts ++ strV us by simp [strV]]
    exact h2
  rcases hc with ⟨ao, c, rfl, rfl, h0⟩ | ⟨g, off, c, rfl, hlt, h1, h2⟩
  · cases ao with
    | none =>
      obtain rfl := h0 rfl
      refine wpList_append_own_none hgd s x 27 ho base 9 i0 1 Try.underlying27 hi v ts.length _ hs hown hx ?_
      exact h v w (by simpa using hown) (gb_refl _ _) (Or.inl rfl)
    | some ad => exact fin ad 0 c [] rfl rfl rfl (fun j u hj => by simp at hj)
  · refine fin ⟨g, off, none⟩ _ c _ rfl rfl rfl ?_
    intro j u hj
    have hjl : j < us.length := by
      rcases Nat.lt_or_ge j us.length with h | h
      · exact h
      · rw [List.getElem?_eq_none (by rw [strV_length]; exact h)] at hj; cases hj
    rw [strV_get us j hjl] at hj
    have hj := Option.some.inj hj
    rw [← hj]
    have := h2 j hjl
    rw [show (⟨g, off, none⟩ : Addr).add j = ⟨g, off + j, none⟩ by by_cases h0 : j = 0 <;> simp [Addr.add, h0]]
    exact this

/-- a slice's beginning -/
theorem sl_to (ad : Addr) (n cap k : Nat) (hk : k ≤ cap) (W : World) : (Instr.slice 27 (.slice (some ad) n cap) none (some (.int .i64 (k : Int))) none).run Try.prog W = .ok (.slice (some ad) k cap) W := by
  have hk2 : (k : Int) ≤ (cap : Int) := by omega
  go_simp

end Go.Proofs.Ytgoalfiinfkldaa

/- A whole array or struct out of a block and into it, as one law each; an answer that lies in a variable. -/
namespace Go.Proofs.Ytgoalfiinfkldaa
open Go.RowKit
variable {P : Program}

theorem hp_old (w : World) (o : Obj) (k : Nat) (h : k < w.heap.size) : (w.alloc o).heap[k]? = w.heap[k]? := Below.heap_alloc w o k h
theorem hp_set (w : World) (b c i : Nat) (v : Value) (h : b ≠ c) : (w.setCell ⟨c, i, none⟩ v).heap[b]? = w.heap[b]? := Below.heap_setCell w _ v b (by simpa using h)
theorem hp_size (w : World) (o : Obj) : (w.alloc o).heap.size = w.heap.size + 1 := by simp

/-- a whole row is read -/
theorem ld_row {w : World} {ops : Array Oper} {rest : List Oper} {op : Oper} {a : Act} {Q : Exit → Act → World → Prop} (hgd : op.guard = none) (ty : TypeId) (x : Operand) (ho : op.op = .load ty x)
    (g : Nat) (hx : a.eval x = .pointer (some ⟨g, 0, none⟩)) (cs : List Value) (t : TypeId) (hb : w.heap[g]? = some (.cells cs.toArray t (0, 0))) (d : TypeDesc)
    (hu : P.underlying ty = some d) (hd : d.isRow = true) (hi : (P.info? ty).map (·.size) = some cs.length)
    (h : wpList P ops Q rest (a.put op.dst (.agg cs.toArray)) w) : wpList P ops Q (op :: rest) a w :=
  wpList_load_mid hgd ty x ho g 0 hx cs d (fun j v hv => by rw [Nat.zero_add, cell_of_row w g j cs.toArray t (0, 0) hb]; simpa using hv) hu hd hi h

/-- the world behind a whole row's store -/
structure RowSet (w w' : World) (g : Nat) (cs : List Value) (t : TypeId) : Prop where
  blk : w'.heap[g]? = some (.cells cs.toArray t (0, 0))
  grown : w.grownBy w' (some g)
  size : w'.heap.size = w.heap.size

theorem rowSet (w : World) (g : Nat) (cs : List Value) (t : TypeId) (old : Array Value) (hg : w.heap[g]? = some (.cells old t (0, 0))) : RowSet w (w.setRow g cs.toArray) g cs t := by
  refine ⟨?_, ⟨rfl, rfl, rfl, ?_, ?_⟩, ?_⟩
  · simp [World.setRow, Array.getElem?_modify, hg]
  · simp [World.setRow]
  · intro i hi hne
    have : g ≠ i := fun e => hne (by rw [e])
    simp [World.setRow, Array.getElem?_modify, this]
  · simp [World.setRow]

/-- a whole row is written -/
theorem st_row {w : World} {ops : Array Oper} {rest : List Oper} {o : Oper} {a : Act} {Q : Exit → Act → World → Prop} (hgd : o.guard = none) (ty : TypeId) (x y : Operand) (ho : o.op = .store ty x y)
    (g : Nat) (cs : List Value) (hx : a.eval x = .pointer (some ⟨g, 0, none⟩)) (hy : a.eval y = .agg cs.toArray)
    (t : TypeId) (old : Array Value) (hg : w.heap[g]? = some (.cells old t (0, 0))) (hi : (P.info? ty).map (·.size) = some cs.length)
    (hold : old.size = cs.length) (h1 : ∀ v ∈ cs, v.oneCell' = true)
    (h : ∀ w', RowSet w w' g cs t → wpList P ops Q rest (a.put o.dst undef) w') : wpList P ops Q (o :: rest) a w :=
  wpList_store_row hgd ty x y ho g cs.toArray hx hy t old hg (by simpa using hi) (by simpa using hold) (all_oneCell_toArray h1) (h _ (rowSet w g cs t old hg))

/-- a new variable -/
theorem al_row {w : World} {ops : Array Oper} {rest : List Oper} {o : Oper} {a : Act} {Q : Exit → Act → World → Prop} (hgd : o.guard = none) (ty : TypeId) (ho : o.op = .alloc ty)
    (cs : Array Value) (hz : ∀ w, (zeroValue ty).run P w = .ok (.agg cs) w)
    (h : wpList P ops Q rest (a.put o.dst (.pointer (some ⟨w.heap.size, 0, none⟩))) (w.alloc (.cells cs ty))) : wpList P ops Q (o :: rest) a w := by
  refine wpList_plain hgd fun K hK => ?_
  unfold Oper.wp execOp
  simp only [ho, Instr.alloc, Sem.run_bind, hz, newVar, newRow, run_newObj_alloc, Sem.run_pure, Result.andThen_ok, Value.cells]
  exact hK _ _ h

/-- a whole row is written into the block that was made last -/
theorem st_new {w : World} {ops : Array Oper} {rest : List Oper} {o : Oper} {a : Act} {Q : Exit → Act → World → Prop} (hgd : o.guard = none) (ty : TypeId) (x y : Operand) (ho : o.op = .store ty x y)
    (cs : List Value) (hx : a.eval x = .pointer (some ⟨w.heap.size, 0, none⟩)) (hy : a.eval y = .agg cs.toArray)
    (t : TypeId) (old : Array Value) (hi : (P.info? ty).map (·.size) = some cs.length) (hold : old.size = cs.length) (h1 : ∀ v ∈ cs, v.oneCell' = true)
    (h : wpList P ops Q rest (a.put o.dst undef) (w.alloc (.cells cs.toArray t))) : wpList P ops Q (o :: rest) a (w.alloc (.cells old t)) :=
  wpList_store_row hgd ty x y ho w.heap.size cs.toArray hx hy t old (hp_new w _) (by simpa using hi) (by simpa using hold) (all_oneCell_toArray h1) (by rw [World.setRow_alloc_new]; exact h)

/-- a composite literal -/
theorem bd_row {w : World} {ops : Array Oper} {rest : List Oper} {o : Oper} {a : Act} {Q : Exit → Act → World → Prop} (hgd : o.guard = none) (t : TypeId) (parts : Array (Nat × Operand)) (ho : o.op = .build t parts)
    (vs : List (Nat × Value)) (hvs : (parts.map fun (i, x) => (i, a.eval x)).toList = vs) (cs : Array Value) (hb : P.built t vs = some cs)
    (h : wpList P ops Q rest (a.put o.dst (.agg cs)) w) : wpList P ops Q (o :: rest) a w :=
  wpList_build hgd t parts ho (by rw [hvs, hb]; rfl) (by rw [hvs, hb]; exact h)

/-- a new variable that holds a row -/
theorem bx_row {w : World} {ops : Array Oper} {rest : List Oper} {o : Oper} {a : Act} {Q : Exit → Act → World → Prop} (hgd : o.guard = none) (t : TypeId) (x : Operand) (ho : o.op = .box t x)
    (cs : Array Value) (hx : a.eval x = .agg cs)
    (h : wpList P ops Q rest (a.put o.dst (.pointer (some ⟨w.heap.size, 0, none⟩))) (w.alloc (.cells cs t))) : wpList P ops Q (o :: rest) a w := by
  refine wpList_plain hgd fun K hK => ?_
  unfold Oper.wp execOp
  simp only [ho, hx, Sem.run_bind, Instr.box, newVar, newRow, run_newObj_alloc, Sem.run_pure, Result.andThen_ok, Value.cells]
  exact hK _ _ h

theorem results_cell {fn : Func} {p : Tmp} {ty : TypeId} (h : fn.results = #[.cell p ty]) (tmps : Array Value) (P : Program) (w : World) :
    (results fn tmps).run P w = ((asAddr (tmps.getD p undef)).run P w).andThen fun a w₁ => (loadVar ty a).run P w₁ := by
  simp only [results, h]
  simp [Sem.run_bind, Result.andThen]

/-- the answer is a whole row that lies in a variable -/
theorem ret_row {fn : Func} {R : Ending → World → Prop} {a : Act} {w : World} (p : Tmp) (ty : TypeId) (h : fn.results = #[.cell p ty]) (g : Nat) (hp : a.tmps.getD p undef = .pointer (some ⟨g, 0, none⟩))
    (cs : List Value) (t : TypeId) (hb : w.heap[g]? = some (.cells cs.toArray t (0, 0))) (d : TypeDesc) (hu : P.underlying ty = some d) (hd : d.isRow = true) (hi : (P.info? ty).map (·.size) = some cs.length)
    (hdf : a.defers = []) (hR : R (.returned (.agg cs.toArray)) w) : bodyPost P fn R .ret a w := by
  refine bodyPost_ret (v := .agg cs.toArray) ?_ hdf hR
  rw [results_cell h, hp]
  have := run_loadVar_mid (P := P) w g 0 ty cs d (fun j v hv => by rw [Nat.zero_add, cell_of_row w g j cs.toArray t (0, 0) hb]; simpa using hv) hu hd hi
  simp [asAddr, this]

end Go.Proofs.Ytgoalfiinfkldaa

/- The check sum's mathematics: shifts, products of polynomials, sums of bytes. -/
namespace Go.Proofs.Ytgoalfiinfkldaa

/-- one shift -/
def sh (c : Nat) : Nat := if c % 2 = 1 then (c / 2) ^^^ 2197175160 else c / 2
def shN : Nat → Nat → Nat
  | 0, c => c
  | k + 1, c => sh (shN k c)

theorem xlt {a b : Nat} (ha : a < 4294967296) (hb : b < 4294967296) : a ^^^ b < 4294967296 := Nat.xor_lt_two_pow (n := 32) ha hb
theorem sh_lt {c : Nat} (h : c < 4294967296) : sh c < 4294967296 := by
  unfold sh
  split
  · exact xlt (by omega) (by omega)
  · omega
theorem shN_lt {c : Nat} (h : c < 4294967296) : ∀ k, shN k c < 4294967296
  | 0 => h
  | k + 1 => sh_lt (shN_lt h k)
theorem xor_half (a b : Nat) : (a ^^^ b) / 2 = a / 2 ^^^ b / 2 := by
  have := Nat.shiftRight_xor_distrib (a := a) (b := b) (i := 1)
  simpa [Nat.shiftRight_eq_div_pow] using this
theorem xor_odd (a b : Nat) : (a ^^^ b) % 2 = (a % 2 + b % 2) % 2 := by
  have h : (a ^^^ b).testBit 0 = (a.testBit 0 ^^ b.testBit 0) := Nat.testBit_xor ..
  simp only [Nat.testBit_zero] at h
  rcases Nat.mod_two_eq_zero_or_one a with ha | ha <;> rcases Nat.mod_two_eq_zero_or_one b with hb | hb <;> rcases Nat.mod_two_eq_zero_or_one (a ^^^ b) with hx | hx <;> simp [ha, hb, hx] at h ⊢
theorem x4 (a b p : Nat) : a ^^^ p ^^^ (b ^^^ p) = a ^^^ b := by
  rw [Nat.xor_assoc, ← Nat.xor_assoc p b p, Nat.xor_comm p b, Nat.xor_assoc b p p, Nat.xor_self, Nat.xor_zero]
theorem x3 (a b p : Nat) : a ^^^ p ^^^ b = a ^^^ b ^^^ p := by rw [Nat.xor_assoc, Nat.xor_comm p b, ← Nat.xor_assoc]
theorem x4' (a b c d : Nat) : a ^^^ b ^^^ (c ^^^ d) = a ^^^ c ^^^ (b ^^^ d) := by
  rw [Nat.xor_assoc, ← Nat.xor_assoc b c d, Nat.xor_comm b c, Nat.xor_assoc c b d, ← Nat.xor_assoc]
theorem xx (a b : Nat) : a ^^^ (a ^^^ b) = b := by rw [← Nat.xor_assoc, Nat.xor_self, Nat.zero_xor]
theorem xx' (a b : Nat) : a ^^^ b ^^^ b = a := by rw [Nat.xor_assoc, Nat.xor_self, Nat.xor_zero]
theorem xor_eq_zero {a b : Nat} (h : a ^^^ b = 0) : a = b := by
  have := congrArg (fun x => x ^^^ b) h
  simpa [xx'] using this
theorem sh_xor (a b : Nat) : sh (a ^^^ b) = sh a ^^^ sh b := by
  unfold sh
  rw [xor_half, xor_odd]
  rcases Nat.mod_two_eq_zero_or_one a with h | h <;> rcases Nat.mod_two_eq_zero_or_one b with k | k <;> simp [h, k]
  · rw [Nat.xor_assoc]
  · rw [x3]
  · rw [x4]
theorem sh_zero : sh 0 = 0 := rfl
theorem shN_zero : ∀ k, shN k 0 = 0
  | 0 => rfl
  | k + 1 => by rw [shN, shN_zero k]; rfl
theorem shN_xor (a b : Nat) : ∀ k, shN k (a ^^^ b) = shN k a ^^^ shN k b
  | 0 => rfl
  | k + 1 => by rw [shN, shN_xor a b k, sh_xor]; rfl
theorem shN_add (c j : Nat) : ∀ k, shN (j + k) c = shN k (shN j c)
  | 0 => rfl
  | k + 1 => by rw [← Nat.add_assoc, shN, shN_add c j k]; rfl
theorem shN_succ (c k : Nat) : shN (k + 1) c = shN k (sh c) := by rw [Nat.add_comm, shN_add]; rfl
theorem sh_nil {c : Nat} (h : c < 4294967296) (e : sh c = 0) : c = 0 := by
  unfold sh at e
  split at e
  · have := xor_eq_zero e; omega
  · omega
theorem shN_nil {c : Nat} (h : c < 4294967296) : ∀ k, shN k c = 0 → c = 0
  | 0, e => e
  | k + 1, e => shN_nil h k (sh_nil (shN_lt h k) e)
theorem sh_double (m : Nat) : sh (2 * m) = m := by
  unfold sh
  rw [if_neg (by omega)]
  omega
theorem shN_pow (m : Nat) : ∀ k, shN k (2 ^ k * m) = m
  | 0 => by simp [shN]
  | k + 1 => by rw [shN_succ, show 2 ^ (k + 1) * m = 2 * (2 ^ k * m) by rw [Nat.pow_succ]; simp [Nat.mul_comm, Nat.mul_left_comm], sh_double]; exact shN_pow m k

/-- the product's first k steps -/
def tmK (a b : Nat) : Nat → Nat
  | 0 => 0
  | k + 1 => tmK a b k ^^^ (if a.testBit (31 - k) then shN k b else 0)
def tm (a b : Nat) : Nat := tmK a b 32
theorem tmK_lt {a b : Nat} (hb : b < 4294967296) : ∀ k, tmK a b k < 4294967296
  | 0 => by simp [tmK]
  | k + 1 => by
    rw [tmK]
    refine xlt (tmK_lt hb k) ?_
    split
    · exact shN_lt hb k
    · omega
theorem tm_lt {a b : Nat} (hb : b < 4294967296) : tm a b < 4294967296 := tmK_lt hb 32
theorem tmK_right (a b c : Nat) : ∀ k, tmK a (b ^^^ c) k = tmK a b k ^^^ tmK a c k
  | 0 => by simp [tmK]
  | k + 1 => by
    rw [tmK, tmK, tmK, tmK_right a b c k]
    cases a.testBit (31 - k) <;> simp [shN_xor, x4']
theorem tmK_left (a b c : Nat) : ∀ k, tmK (a ^^^ b) c k = tmK a c k ^^^ tmK b c k
  | 0 => by simp [tmK]
  | k + 1 => by
    rw [tmK, tmK, tmK, tmK_left a b c k, Nat.testBit_xor, x4']
    cases a.testBit (31 - k) <;> cases b.testBit (31 - k) <;> simp
theorem lin_nil {f : Nat → Nat} (hf : ∀ a b, f (a ^^^ b) = f a ^^^ f b) : f 0 = 0 := by
  have := hf 0 0
  rw [Nat.xor_self, Nat.xor_self] at this
  exact this
theorem lin_ext {f g : Nat → Nat} (hf : ∀ a b, f (a ^^^ b) = f a ^^^ f b) (hg : ∀ a b, g (a ^^^ b) = g a ^^^ g b) (n : Nat) (h : ∀ i, i < n → f (2 ^ i) = g (2 ^ i)) :
    ∀ a, a < 2 ^ n → f a = g a := by
  induction n with
  | zero =>
    intro a ha
    obtain rfl : a = 0 := by simpa using ha
    rw [lin_nil hf, lin_nil hg]
  | succ n ih =>
    intro a ha
    have ih' := ih (fun i hi => h i (by omega))
    by_cases hlt : a < 2 ^ n
    · exact ih' a hlt
    · have h1 : a ^^^ 2 ^ n < 2 ^ n := by
        refine Nat.lt_pow_two_of_testBit _ fun i hi => ?_
        rw [Nat.testBit_xor, Nat.testBit_two_pow]
        by_cases hin : n = i
        · subst hin
          have : a.testBit n = true := by
            rw [Nat.testBit_eq_decide_div_mod_eq]
            have : a / 2 ^ n = 1 := by
              rw [Nat.div_eq_iff (Nat.two_pow_pos n)]
              rw [Nat.pow_succ] at ha
              omega
            rw [this]; rfl
          simp [this]
        · have : a.testBit i = false := Nat.testBit_lt_two_pow (Nat.lt_of_lt_of_le ha (Nat.pow_le_pow_right (by omega) (by omega)))
          simp [this, hin]
      have h2 : a = (a ^^^ 2 ^ n) ^^^ 2 ^ n := (xx' _ _).symm
      rw [h2, hf, hg, ih' _ h1, h n (by omega)]
theorem tmK_unit (i : Nat) (hi : i < 32) (b : Nat) : ∀ k, k ≤ 32 → tmK (2 ^ i) b k = if 31 - i < k then shN (31 - i) b else 0
  | 0, _ => by simp [tmK]
  | k + 1, hk => by
    rw [tmK, tmK_unit i hi b k (by omega), Nat.testBit_two_pow]
    by_cases h1 : 31 - i < k
    · have h3 : ¬ i = 31 - k := by omega
      have h4 : 31 - i < k + 1 := by omega
      simp [h1, h3, h4]
    · by_cases h2 : 31 - i = k
      · have h3 : i = 31 - k := by omega
        have h4 : 31 - i < k + 1 := by omega
        simp only [h1, h4, if_true, if_false, Nat.zero_xor]
        rw [if_pos (by simp [← h3]), h2]
      · have h3 : ¬ i = 31 - k := by omega
        have h4 : ¬ 31 - i < k + 1 := by omega
        simp [h1, h3, h4]
theorem tm_unit (i : Nat) (hi : i < 32) (b : Nat) : tm (2 ^ i) b = shN (31 - i) b := by
  unfold tm
  rw [tmK_unit i hi b 32 (by omega), if_pos (by omega)]
theorem unit_sh (j : Nat) (hj : j < 32) : 2 ^ j = shN (31 - j) 2147483648 := by
  have h := shN_pow (2 ^ j) (31 - j)
  rw [← Nat.pow_add, show 31 - j + j = 31 by omega] at h
  exact h.symm
theorem tm_comm (a b : Nat) (ha : a < 4294967296) (hb : b < 4294967296) : tm a b = tm b a := by
  refine lin_ext (f := fun x => tm x b) (g := fun x => tm b x) (fun x y => tmK_left x y b 32) (fun x y => tmK_right b x y 32) 32 (fun i hi => ?_) a ha
  refine lin_ext (f := fun y => tm (2 ^ i) y) (g := fun y => tm y (2 ^ i)) (fun x y => tmK_right (2 ^ i) x y 32) (fun x y => tmK_left x y (2 ^ i) 32) 32 (fun j hj => ?_) b hb
  show tm (2 ^ i) (2 ^ j) = tm (2 ^ j) (2 ^ i)
  rw [tm_unit i hi, tm_unit j hj, unit_sh j hj, unit_sh i hi, ← shN_add, ← shN_add, Nat.add_comm]
theorem tm_right_sh (a b : Nat) : tm a (sh b) = sh (tm a b) := by
  unfold tm
  have : ∀ k, tmK a (sh b) k = sh (tmK a b k) := by
    intro k
    induction k with
    | zero => simp [tmK, sh_zero]
    | succ k ih =>
      rw [tmK, tmK, ih, sh_xor]
      split
      · rw [← shN_succ]; rfl
      · rfl
  exact this 32
theorem tm_right_shN (a b : Nat) : ∀ k, tm a (shN k b) = shN k (tm a b)
  | 0 => rfl
  | k + 1 => by rw [shN, tm_right_sh, tm_right_shN a b k]; rfl
theorem tm_one (a : Nat) (ha : a < 4294967296) : tm a 2147483648 = a := by
  rw [tm_comm a _ ha (by omega)]
  have := tm_unit 31 (by omega) a
  simpa [shN] using this
/-- times the k-th power is k shifts -/
theorem tm_pow (a : Nat) (ha : a < 4294967296) (k : Nat) : tm a (shN k 2147483648) = shN k a := by rw [tm_right_shN, tm_one a ha]
theorem tm_pow_left (a : Nat) (ha : a < 4294967296) (k : Nat) : tm (shN k 2147483648) a = shN k a := by
  rw [tm_comm _ a (shN_lt (by omega) k) ha, tm_pow a ha]

/-- bytes taken in, without the turnings -/
def raw (c : Nat) (p : List UInt8) : Nat := p.foldl (fun c b => shN 8 (c ^^^ b.toNat)) c
theorem u8lt (b : UInt8) : b.toNat < 4294967296 := by have := b.toNat_lt; omega
theorem raw_nil (c : Nat) : raw c [] = c := by simp only [raw, List.foldl_nil]
theorem raw_cons (c : Nat) (b : UInt8) (p : List UInt8) : raw c (b :: p) = raw (shN 8 (c ^^^ b.toNat)) p := by simp only [raw, List.foldl_cons]
theorem raw_snoc (c : Nat) (b : UInt8) (p : List UInt8) : raw c (p ++ [b]) = shN 8 (raw c p ^^^ b.toNat) := by simp [raw]
theorem raw_append (c : Nat) (p q : List UInt8) : raw c (p ++ q) = raw (raw c p) q := by simp [raw]
theorem raw_lt {c : Nat} (h : c < 4294967296) (p : List UInt8) : raw c p < 4294967296 := by
  induction p generalizing c with
  | nil => exact h
  | cons b p ih => rw [raw_cons]; exact ih (shN_lt (xlt h (u8lt b)) 8)
theorem raw_take (c : Nat) (p : List UInt8) (k : Nat) (h : k < p.length) : raw c (p.take (k + 1)) = shN 8 (raw c (p.take k) ^^^ (p.getD k 0).toNat) := by
  rw [List.take_succ_eq_append_getElem h, raw_snoc]
  simp [List.getD_eq_getElem?_getD, List.getElem?_eq_getElem h]
/-- moved on over n bytes 0 -/
theorem raw_lin (c d : Nat) : ∀ p : List UInt8, raw (c ^^^ d) p = raw c p ^^^ shN (8 * p.length) d
  | [] => by simp [raw, shN]
  | b :: p => by
    rw [raw_cons, raw_cons, x3, shN_xor, raw_lin _ (shN 8 d) p, ← shN_add, List.length_cons, show 8 * (p.length + 1) = 8 + 8 * p.length by omega]
/-- the table's words -/
theorem table_word (c b : Nat) : shN 8 (c ^^^ b) = shN 8 ((c % 256) ^^^ b) ^^^ (c / 256) := by
  have h1 : c = (c % 256) ^^^ (2 ^ 8 * (c / 256)) := by
    have h2 := Nat.two_pow_add_eq_or_of_lt (i := 8) (b := c % 256) (by omega) (c / 256)
    have h3 : (c % 256) ^^^ (2 ^ 8 * (c / 256)) = 2 ^ 8 * (c / 256) + c % 256 := by
      rw [h2]
      refine Nat.eq_of_testBit_eq fun i => ?_
      rw [Nat.testBit_xor, Nat.testBit_or, Nat.testBit_two_pow_mul]
      by_cases hi : i < 8
      · simp [show ¬ i ≥ 8 by omega]
      · have : (c % 256).testBit i = false := Nat.testBit_lt_two_pow (Nat.lt_of_lt_of_le (show c % 256 < 2 ^ 8 by omega) (Nat.pow_le_pow_right (by omega) (by omega)))
        simp [this]
    rw [h3]; omega
  have h4 : c ^^^ b = (c % 256 ^^^ b) ^^^ (2 ^ 8 * (c / 256)) := (congrArg (fun x => x ^^^ b) h1).trans (x3 _ _ _)
  rw [h4, shN_xor, shN_pow]
theorem row_add (low bit : Nat) (j : Nat) (h : low % 2 ^ (j + 1) = 0) (hb : bit = 2 ^ j) : low + bit = low ^^^ bit := by
  subst hb
  obtain ⟨m, rfl⟩ : ∃ m, low = 2 ^ (j + 1) * m := ⟨low / 2 ^ (j + 1), by have := Nat.div_add_mod low (2 ^ (j + 1)); omega⟩
  have h2 := Nat.two_pow_add_eq_or_of_lt (i := j + 1) (b := 2 ^ j) (Nat.pow_lt_pow_right (by omega) (by omega)) m
  rw [h2]
  refine Nat.eq_of_testBit_eq fun i => ?_
  rw [Nat.testBit_xor, Nat.testBit_or, Nat.testBit_two_pow_mul, Nat.testBit_two_pow]
  by_cases hi : i ≥ j + 1
  · simp [show ¬ j = i by omega]
  · simp [hi]

/-- the sum that the document says -/
def moreP (c : Nat) (p : List UInt8) : Nat := 4294967295 ^^^ raw (4294967295 ^^^ c) p
def sumP (p : List UInt8) : Nat := moreP 0 p
theorem moreP_lt {c : Nat} (h : c < 4294967296) (p : List UInt8) : moreP c p < 4294967296 := xlt (by omega) (raw_lt (xlt (by omega) h) p)
theorem moreP_nil (c : Nat) : moreP c [] = c := xx _ _
theorem moreP_append (c : Nat) (p q : List UInt8) : moreP c (p ++ q) = moreP (moreP c p) q := by
  unfold moreP
  rw [raw_append, xx]
theorem sumP_lt (p : List UInt8) : sumP p < 4294967296 := moreP_lt (by omega) p
/-- the sum of two texts -/
theorem sumP_join (x y : List UInt8) : shN (8 * y.length) (sumP x) ^^^ sumP y = sumP (x ++ y) := by
  have key : ∀ S M R : Nat, S ^^^ (M ^^^ R) = M ^^^ (R ^^^ S) := fun S M R => by rw [Nat.xor_comm S, Nat.xor_assoc]
  have h := raw_lin 4294967295 (4294967295 ^^^ raw (4294967295 ^^^ 0) x) y
  rw [xx] at h
  unfold sumP
  rw [moreP_append]
  unfold moreP
  rw [xx, h, key]
  rfl

end Go.Proofs.Ytgoalfiinfkldaa

/- Rows of words and bytes, lists of bytes, in memory. -/
namespace Go.Proofs.Ytgoalfiinfkldaa
open Go.RowKit
variable {P : Program}

theorem mv_row {w : World} {ops : Array Oper} {rest : List Oper} {o : Oper} {a : Act} {Q : Exit → Act → World → Prop} (hgd : o.guard = none) (x : Operand) (ho : o.op = .move x) (v : Value) (hx : a.eval x = v)
    (h : wpList P ops Q rest (a.put o.dst v) w) : wpList P ops Q (o :: rest) a w := by
  subst hx
  refine wpList_plain hgd fun K hK => ?_
  unfold Oper.wp execOp
  simp only [ho, Sem.run_pure]
  exact hK _ _ h

def u32N (xs : List Nat) : List Value := xs.map fun (x : Nat) => Value.int .u32 (x : Int)
theorem u32N_length (xs : List Nat) : (u32N xs).length = xs.length := by simp [u32N]
theorem u32N_one (xs : List Nat) : ∀ v ∈ u32N xs, v.oneCell' = true := by
  intro v hv
  simp only [u32N, List.mem_map] at hv
  obtain ⟨c, _, rfl⟩ := hv
  rfl
theorem u32N_set (xs : List Nat) (i y : Nat) : (u32N xs).set i (.int .u32 (y : Int)) = u32N (xs.set i y) := by simp [u32N, List.map_set]
theorem row_cell {w : World} {b : Nat} {cs : List Value} {T : TypeId} (h : w.heap[b]? = some (.cells cs.toArray T (0, 0))) (i : Nat) (hi : i < cs.length) : w.cell? ⟨b, i, none⟩ = some (cs[i]) := by
  simp [World.cell?, h, hi]
theorem u32N_cell {w : World} {b : Nat} {xs : List Nat} {T : TypeId} (h : w.heap[b]? = some (.cells (u32N xs).toArray T (0, 0))) (i : Nat) (hi : i < xs.length) : w.cell? ⟨b, i, none⟩ = some (.int .u32 ((xs.getD i 0 : Nat) : Int)) := by
  rw [row_cell h i (by simpa [u32N] using hi)]
  simp [u32N, List.getD_eq_getElem?_getD, hi]
theorem row_fz {w : World} {b : Nat} {cs : Array Value} {T : TypeId} (h : w.heap[b]? = some (.cells cs T (0, 0))) (i : Nat) : w.frozen? ⟨b, i, none⟩ = false := by simp [World.frozen?, h]

theorem src_shape {w : World} {v : Value} {bs : List UInt8} (h : Src w v bs) : ∃ ao c, v = .slice ao bs.length c := by
  rcases h.2 with ⟨rfl, rfl⟩ | ⟨ad, cap, rfl, _⟩
  · exact ⟨none, 0, rfl⟩
  · exact ⟨_, _, rfl⟩

/-- v is a slice that holds these lists of bytes -/
def Lists (w : World) (v : Value) (pss : List (List UInt8)) : Prop :=
  (∃ ao c, v = .slice ao 0 c ∧ pss = []) ∨ ∃ g o c, v = .slice (some ⟨g, o, none⟩) pss.length c ∧ g < w.heap.size ∧
    ∀ j, j < pss.length → ∃ u, w.cell? ⟨g, o + j, none⟩ = some u ∧ Src w u (pss.getD j [])
theorem Lists.below {w w' : World} {v : Value} {pss : List (List UInt8)} (h : Lists w v pss) (hb : Below w.heap.size w w') : Lists w' v pss := by
  rcases h with h | ⟨g, o, c, hv, hlt, hc⟩
  · exact Or.inl h
  · refine Or.inr ⟨g, o, c, hv, Nat.lt_of_lt_of_le hlt hb.size, fun j hj => ?_⟩
    obtain ⟨u, h1, h2⟩ := hc j hj
    exact ⟨u, by rw [hb.cell (p := ⟨g, o + j, none⟩) hlt]; exact h1, h2.below hb⟩
theorem Lists.shape {w : World} {v : Value} {pss : List (List UInt8)} (h : Lists w v pss) : ∃ ao c, v = .slice ao pss.length c := by
  rcases h with ⟨ao, c, rfl, rfl⟩ | ⟨g, o, c, rfl, _⟩
  · exact ⟨_, _, rfl⟩
  · exact ⟨_, _, rfl⟩
theorem Lists.at {w : World} {ao : Option Addr} {n c : Nat} {pss : List (List UInt8)} (h : Lists w (.slice ao n c) pss) (k : Nat) (hk : k < pss.length) :
    ∃ g o, ao = some ⟨g, o, none⟩ ∧ ∃ u, w.cell? ⟨g, o + k, none⟩ = some u ∧ Src w u (pss.getD k []) := by
  rcases h with ⟨_, _, _, h0⟩ | ⟨g, o, c, hv, _, hc⟩
  · rw [h0] at hk; simp at hk
  · injection hv with h1 _ _
    obtain ⟨u, h2, h3⟩ := hc k hk
    exact ⟨g, o, h1, u, h2, h3⟩
/-- a list of one -/
theorem lists_one {w : World} {v : Value} {bs : List UInt8} (h : Src w v bs) :
    Lists (w.alloc (.cells #[v] 30)) (.slice (some ⟨w.heap.size, 0, none⟩) 1 1) [bs] := by
  have hb := hp_new w (.cells #[v] 30)
  refine Or.inr ⟨w.heap.size, 0, 1, rfl, hp_lt hb, fun j hj => ?_⟩
  match j, hj with
  | 0, _ => exact ⟨v, by rw [cell_of_row _ _ _ _ _ _ hb]; rfl, h.below (below_walk _ _)⟩
/-- a list of two -/
theorem lists_two {w : World} {v u : Value} {bs cs : List UInt8} (h : Src w v bs) (g : Src w u cs) :
    Lists (w.alloc (.cells #[v, u] 30)) (.slice (some ⟨w.heap.size, 0, none⟩) 2 2) [bs, cs] := by
  have hb := hp_new w (.cells #[v, u] 30)
  refine Or.inr ⟨w.heap.size, 0, 2, rfl, hp_lt hb, fun j hj => ?_⟩
  match j, hj with
  | 0, _ => exact ⟨v, by rw [cell_of_row _ _ _ _ _ _ hb]; rfl, h.below (below_walk _ _)⟩
  | 1, _ => exact ⟨u, by rw [cell_of_row _ _ _ _ _ _ hb]; rfl, g.below (below_walk _ _)⟩
/-- all of them, one behind the other -/
def fl (pss : List (List UInt8)) : List UInt8 := pss.flatten
theorem fl_snoc (pss : List (List UInt8)) (k : Nat) (hk : k < pss.length) : fl (pss.take (k + 1)) = fl (pss.take k) ++ pss.getD k [] := by
  unfold fl
  rw [List.take_succ_eq_append_getElem hk, List.flatten_append]
  simp only [List.flatten_cons, List.flatten_nil, List.append_nil]
  simp [List.getD_eq_getElem?_getD, hk]
theorem fl_nil : fl [] = [] := rfl
theorem fl_all (pss : List (List UInt8)) : fl (pss.take pss.length) = fl pss := by rw [List.take_length]
/-- bytes that a literal lays -/
theorem src_lit {w : World} {g : Nat} {bs : List UInt8} {C : Array Value} {fr : Nat × Nat} (hb : w.heap[g]? = some (.cells C 5 fr)) (hC : C = (bytesV bs).toArray) (hl : bs.length ≤ 1000) (n : Nat) (hn : n = bs.length) :
    Src w (.slice (some ⟨g, 0, none⟩) n n) bs := by
  subst hn hC
  refine ⟨by omega, Or.inr ⟨⟨g, 0, none⟩, bs.length, rfl, Nat.le_refl _, by unfold maxLen; omega, fun _ => hp_lt hb, fun j hj => ?_⟩⟩
  rw [addr_add, cell_of_row w g j _ _ _ hb]
  simp [bytesV, List.getD_eq_getElem?_getD, hj]
theorem src_at {w : World} {ao : Option Addr} {n c : Nat} {bs : List UInt8} (h : Src w (.slice ao n c) bs) (k : Nat) (hk : k < bs.length) :
    ∃ ad, ao = some ad ∧ w.cell? (ad.add k) = some (.int .u8 (bs.getD k 0).toNat) := by
  rcases h.2 with ⟨_, h0⟩ | ⟨ad, cap, hv, _, _, _, hc⟩
  · rw [h0] at hk; simp at hk
  · injection hv with h1
    exact ⟨ad, h1, hc k hk⟩

end Go.Proofs.Ytgoalfiinfkldaa

/- Bytes out of their reading, however many a slice may have. -/
namespace Go.Proofs.Ytgoalfiinfkldaa
open Go.ChangeShapes Go.WideShapes Go.ChangeAt Go.RowKit

theorem cellsU8 : Try.prog.cellsOf 5 = 1 := by kernel_rfl
section
variable {H : Type} {enc : TypeId × Value → H} {W : World} {spare : Nat → Bool} {held : Bool}
theorem bytes_full {ao : Option Addr} {n c : Nat} {d : DataW H} {pl : List MemPlace} (h : DataW.Trod enc Try.prog W 0 spare held 30 (.slice ao n c) d pl) (hk : ∀ elems more, d = .slice elems more → elems.length ≤ 140737488355327) :
    ∃ bs : List UInt8, Src W (.slice ao n c) bs ∧ bs.length = n := by
  obtain ⟨fuel, hf⟩ := h
  rcases open_ints Try.underlying30 Try.underlying5 cellsU8 hf with ⟨hcs, _⟩ | ⟨a, len, cap, zs, hcs, _, hl, hm, hz, hx, hcell, hwz⟩
  · simp [Value.cells] at hcs
    obtain ⟨rfl, rfl, rfl⟩ := hcs
    exact ⟨[], ⟨by simp, Or.inl ⟨rfl, rfl⟩⟩, rfl⟩
  · simp [Value.cells] at hcs
    obtain ⟨rfl, rfl, rfl⟩ := hcs
    have hlz : n ≤ zs.length := by rw [hz]; split <;> omega
    simp only [Prod.mk.injEq] at hx
    have hn : n ≤ 140737488355327 := by
      have h1 := hk _ _ hx.1
      have h2 : (lits (H := H) .u8 (zs.take n)).length = n := by simp [lits]; omega
      omega
    have hu : ∀ i, i < n → (((zs.getD i 0).toNat.toUInt8).toNat : Int) = zs.getD i 0 := by
      intro i hi
      have hm' : zs.getD i 0 ∈ zs := by
        rw [List.getD_eq_getElem?_getD, List.getElem?_eq_getElem (by omega)]
        exact List.getElem_mem _
      have hw := hwz _ hm'
      have hb : 0 ≤ zs.getD i 0 ∧ zs.getD i 0 ≤ 255 := by simpa [Lit.wf, IntKind.min, IntKind.max, IntKind.signed, IntKind.bits] using hw
      simp only [Nat.toUInt8_eq, UInt8.toNat_ofNat']
      omega
    · refine ⟨(zs.take n).map (fun z => z.toNat.toUInt8), ⟨by simp; omega, Or.inr ⟨a, c, by simp; omega, by simp; omega, hm, fun h => World.block_lt_of_cell? W a (u := .int .u8 (zs.getD 0 0)) (by simp at h; simpa [Addr.add] using hcell 0 (by omega)), fun j hj => ?_⟩⟩, by simp; omega⟩
      have hj' : j < n ∧ j < zs.length := by simp at hj; omega
      have hju := hu j hj'.1
      rw [hcell j hj'.2, ← hju]
      simp [List.getD_eq_getElem?_getD, hj'.1, List.getElem?_eq_getElem hj'.2]
end

end Go.Proofs.Ytgoalfiinfkldaa

/- From what the rows say of the arguments to what the walks want: numbers, bytes, lists of bytes. -/
namespace Go.Proofs.Ytgoalfiinfkldaa
open Go.ChangeShapes Go.WideShapes Go.ChangeAt Go.RowKit

theorem own : ownKnob Try.prog.godebug = none := by kernel_rfl
theorem laidOut : laidOutB Try.prog = true := by kernel_rfl
theorem cellsBytes : Try.prog.cellsOf 30 = 1 := by kernel_rfl
theorem bytesU8 : Try.prog.bytesOf 5 = 1 := by kernel_rfl
theorem bytesSl : Try.prog.bytesOf 30 = 24 := by kernel_rfl

theorem wf_i64 {n : Int} (h : (Lit.int .i64 n).wf = true) : -9223372036854775808 ≤ n ∧ n ≤ 9223372036854775807 := by
  simpa [Lit.wf, IntKind.min, IntKind.max, IntKind.signed, IntKind.bits] using h
theorem wf_u32 {n : Int} (h : (Lit.int .u32 n).wf = true) : 0 ≤ n ∧ n ≤ 4294967295 := by
  simpa [Lit.wf, IntKind.min, IntKind.max, IntKind.signed, IntKind.bits] using h
theorem wf_u8 {n : Int} (h : (Lit.int .u8 n).wf = true) : 0 ≤ n ∧ n ≤ 255 := by
  simpa [Lit.wf, IntKind.min, IntKind.max, IntKind.signed, IntKind.bits] using h
theorem addr_plain {w : World} {a : Addr} {v : Value} (h : w.cell? a = some v) : a = ⟨a.block, a.off, none⟩ := by
  obtain ⟨b, o, sp⟩ := a
  cases sp with
  | none => rfl
  | some s =>
    unfold World.cell? at h
    split at h <;> simp at h
theorem add_plain (b o j : Nat) : (⟨b, o, none⟩ : Addr).add j = ⟨b, o + j, none⟩ := by
  by_cases h : j = 0
  · subst h; simp [Addr.add]
  · simp [Addr.add, h]
theorem list_of {α : Type} {P : Nat → α → Prop} : ∀ {n : Nat}, (∀ i, i < n → ∃ x, P i x) → ∃ l : List α, l.length = n ∧ ∀ j x, l[j]? = some x → P j x
  | 0, _ => ⟨[], rfl, by intro j x h; simp at h⟩
  | n + 1, h => by
    obtain ⟨l, hl, hp⟩ := list_of (n := n) (fun i hi => h i (by omega))
    obtain ⟨x, hx⟩ := h n (by omega)
    refine ⟨l ++ [x], by simp [hl], fun j y hj => ?_⟩
    rcases Nat.lt_or_ge j n with hjn | hjn
    · rw [List.getElem?_append_left (by omega)] at hj
      exact hp j y hj
    · rw [List.getElem?_append_right (by omega)] at hj
      have : j - l.length = 0 := by
        rcases Nat.eq_zero_or_pos (j - l.length) with h0 | h0
        · exact h0
        · rw [List.getElem?_eq_none (by simp; omega)] at hj; cases hj
      rw [this] at hj
      simp at hj
      subst hj
      obtain rfl : j = n := by omega
      exact hx
theorem weightsAll_mem {H : Type} {P : Program} {e : TypeId} : ∀ {l : List (DataW H)} {d : DataW H}, d ∈ l → ∀ n ∈ d.weights P e, n ∈ DataW.weightsAll P e l
  | d' :: r, d, hd, n, hn => by
    simp only [DataW.weightsAll, List.mem_append]
    rcases List.mem_cons.1 hd with rfl | h
    · exact Or.inl hn
    · exact Or.inr (weightsAll_mem h n hn)

section
variable {H : Type} {enc : TypeId × Value → H} {W : World} {spare : Nat → Bool} {held : Bool}
/-- bytes out of their reading -/
theorem bytes_w {ao : Option Addr} {n c : Nat} {d : DataW H} {pl : List MemPlace} (h : DataW.Trod enc Try.prog W 0 spare held 30 (.slice ao n c) d pl) (hk : ∀ x ∈ d.weights Try.prog 30, x ≤ reachBytes) :
    ∃ bs : List UInt8, Src W (.slice ao n c) bs ∧ bs.length = n ∧ bs.length ≤ reachBytes := by
  have hr : reachBytes < 2 ^ 47 := reachBytes_lt
  have hb : ∀ elems more, d = .slice elems more → elems.length ≤ reachBytes := fun elems more e => by
    subst e
    have := hk ((elems.length + more.length) * Try.prog.bytesOf 5) (by simp [DataW.weights, Try.underlying30])
    rw [bytesU8] at this
    omega
  obtain ⟨bs, h1, h2⟩ := bytes_full h (fun el mo e => by have := hb el mo e; omega)
  refine ⟨bs, h1, h2, ?_⟩
  obtain ⟨fuel, hf⟩ := h
  rcases Go.Deep.open_slice1 Try.underlying30 cellsU8 hf with ⟨hcs, _⟩ | ⟨a, len, cap, m, n', V, D, Pl, hcs, _, _, _, _, hx, _⟩
  · simp [Value.cells] at hcs
    rw [h2, hcs.2.1]
    exact Nat.zero_le _
  · simp [Value.cells] at hcs
    simp only [Prod.mk.injEq] at hx
    have := hb _ _ hx.1
    simp at this
    omega
/-- lists of bytes out of their reading -/
theorem lists_w {ao : Option Addr} {n c : Nat} {d : DataW H} {pl : List MemPlace} (h : DataW.Trod enc Try.prog W 0 spare held 117 (.slice ao n c) d pl) (hk : ∀ x ∈ d.weights Try.prog 117, x ≤ reachBytes) :
    ∃ pss : List (List UInt8), Lists W (.slice ao n c) pss ∧ pss.length = n ∧ n ≤ 140737488355327 := by
  have hr : reachBytes < 2 ^ 47 := reachBytes_lt
  obtain ⟨fuel, hf⟩ := h
  rcases Go.Deep.open_slice1 Try.underlying117 cellsBytes hf with ⟨hcs, _⟩ | ⟨a, len, cap, m, n', V, D, Pl, hcs, _, hl, _, hmm, hx, hel⟩
  · simp [Value.cells] at hcs
    obtain ⟨rfl, rfl, rfl⟩ := hcs
    exact ⟨[], Or.inl ⟨none, 0, rfl, rfl⟩, rfl, by omega⟩
  · simp [Value.cells] at hcs
    obtain ⟨rfl, rfl, rfl⟩ := hcs
    simp only [Prod.mk.injEq] at hx
    obtain ⟨rfl, _⟩ := hx
    have hlm : n ≤ m := by rw [hmm]; split <;> omega
    have hn : n ≤ 140737488355327 := by
      have := hk (((List.range n).map D).length * Try.prog.bytesOf 30 + ((List.range (m - n)).map fun j => D (n + j)).length * Try.prog.bytesOf 30) (by simp [DataW.weights, Try.underlying117, Nat.add_mul])
      rw [bytesSl] at this
      simp at this
      omega
    have hin : ∀ i, i < n → ∃ bs : List UInt8, Src W (V i) bs := by
      intro i hi
      obtain ⟨h1, h2⟩ := hel i (by omega)
      have hw : ∀ x ∈ (D i).weights Try.prog 30, x ≤ reachBytes := fun x hxm => hk x (by
        simp only [DataW.weights, Try.underlying117, List.mem_cons, List.mem_append]
        exact Or.inr (Or.inl (weightsAll_mem (List.mem_map.2 ⟨i, List.mem_range.2 hi, rfl⟩) x hxm)))
      obtain ⟨ai, ni, ci, hV⟩ : ∃ ai ni ci, V i = .slice ai ni ci := by
        rcases DataW.trod_slice Try.underlying30 h2 with ⟨hc, _⟩ | ⟨a', len', cap', _, _, _, _, hc, _⟩
        · simp at hc; exact ⟨_, _, _, hc⟩
        · simp at hc; exact ⟨_, _, _, hc⟩
      rw [hV] at h2 ⊢
      obtain ⟨bs, hb, _⟩ := bytes_w (pl := Pl i) (d := D i) ⟨n', by simpa [Value.cells] using h2⟩ hw
      exact ⟨bs, hb⟩
    obtain ⟨pss, hpl, hps⟩ := list_of hin
    rcases Nat.eq_zero_or_pos n with rfl | hpos
    · exact ⟨[], Or.inl ⟨_, _, rfl, rfl⟩, rfl, by omega⟩
    · have h0 := (hel 0 (by omega)).1
      have ha : a = ⟨a.block, a.off, none⟩ := addr_plain (v := V 0) (by simpa [Addr.add] using h0)
      have hlt : a.block < W.heap.size := World.block_lt_of_cell? W a (u := V 0) (by simpa [Addr.add] using h0)
      generalize a.block = g at ha hlt
      generalize a.off = o at ha
      subst ha
      refine ⟨pss, Or.inr ⟨g, o, c, by rw [hpl], hlt, fun j hj => ?_⟩, hpl, hn⟩
      have h1 := (hel j (by omega)).1
      rw [add_plain] at h1
      refine ⟨V j, h1, ?_⟩
      exact hps j _ (by simp [List.getD_eq_getElem?_getD, List.getElem?_eq_getElem hj])
theorem sized_at {ts : List TypeId} {ds : List (DataW H)} (h : ((DataW.weightsEach Try.prog ts ds).all fun x => decide (x ≤ reachBytes)) = true) {j : Nat} {t : TypeId} {d : DataW H} (ht : ts[j]? = some t) (hd : ds[j]? = some d) : ∀ x ∈ d.weights Try.prog t, x ≤ reachBytes :=
  fun x hx => of_decide_eq_true (List.all_eq_true.1 h _ (DataW.weights_mem_each ht hd x hx))
end

end Go.Proofs.Ytgoalfiinfkldaa

/- Small laws on worlds that only grew, and what it means that a block is a reader that NewReader gave. -/
namespace Go.Proofs.Ytgoalfiinfkldaa
open Go.RowKit







/-- block b is a reader that NewReader gave: its bytes, its place, its fault -/
structure Rd (w : World) (base b : Nat) (v : Value) (bs : List UInt8) (a : Nat) (why wat : Int) : Prop where
  lo : base ≤ b
  blk : w.heap[b]? = some (.cells #[v, .int .i64 a, .int .i64 why, .int .i64 wat, .bool true] 97 (0, 0))
  own : OwnB w base v bs
  ne : v.ownBlock ≠ some b
  le : a ≤ bs.length

section
variable {w w' : World} {base b : Nat} {v : Value} {bs : List UInt8} {a : Nat} {why wat : Int}
theorem Rd.lt (h : Rd w base b v bs a why wat) : b < w.heap.size := by
  rcases Nat.lt_or_ge b w.heap.size with h1 | h1
  · exact h1
  · have := h.blk; rw [Array.getElem?_eq_none h1] at this; cases this
theorem Rd.c0 (h : Rd w base b v bs a why wat) : w.cell? ⟨b, 0, none⟩ = some v := by simp [World.cell?, h.blk]
theorem Rd.c1 (h : Rd w base b v bs a why wat) : w.cell? ⟨b, 1, none⟩ = some (.int .i64 a) := by simp [World.cell?, h.blk]
theorem Rd.c2 (h : Rd w base b v bs a why wat) : w.cell? ⟨b, 2, none⟩ = some (.int .i64 why) := by simp [World.cell?, h.blk]
theorem Rd.c3 (h : Rd w base b v bs a why wat) : w.cell? ⟨b, 3, none⟩ = some (.int .i64 wat) := by simp [World.cell?, h.blk]
theorem Rd.c4 (h : Rd w base b v bs a why wat) : w.cell? ⟨b, 4, none⟩ = some (.bool true) := by simp [World.cell?, h.blk]
theorem Rd.fz (h : Rd w base b v bs a why wat) (i : Nat) : w.frozen? ⟨b, i, none⟩ = false := by simp [World.frozen?, h.blk]
theorem Rd.grown {row : Option Nat} (h : Rd w base b v bs a why wat) (hg : w.grownBy w' row) (hb : row ≠ some b) (hv : v.ownBlock = none ∨ v.ownBlock ≠ row) : Rd w' base b v bs a why wat :=
  ⟨h.lo, (hg.block b h.lt (fun e => hb e.symm)).trans h.blk, h.own.kept hg hv, h.ne, h.le⟩
theorem Rd.below (h : Rd w base b v bs a why wat) (hb : Below w.heap.size w w') : Rd w' base b v bs a why wat :=
  ⟨h.lo, (hb.block b h.lt).trans h.blk, h.own.below hb, h.ne, h.le⟩
theorem Rd.drewN (h : Rd w base b v bs a why wat) (k : Nat) : Rd (w.drewN k) base b v bs a why wat := ⟨h.lo, h.blk, h.own, h.ne, h.le⟩
theorem Rd.drew (h : Rd w base b v bs a why wat) : Rd w.drew base b v bs a why wat := ⟨h.lo, h.blk, h.own, h.ne, h.le⟩
theorem Rd.setAt (h : Rd w base b v bs a why wat) (a' : Nat) (h' : a' ≤ bs.length) : Rd (w.setCell ⟨b, 1, none⟩ (.int .i64 a')) base b v bs a' why wat :=
  ⟨h.lo, blk_set h.blk _, h.own.kept (gb_set w _ _) (Or.inr (by simpa using h.ne)), h.ne, h'⟩
theorem Rd.setFault (h : Rd w base b v bs a why wat) (e x : Int) : Rd ((w.setCell ⟨b, 2, none⟩ (.int .i64 e)).setCell ⟨b, 3, none⟩ (.int .i64 x)) base b v bs a e x :=
  ⟨h.lo, blk_set (blk_set h.blk _) _, (h.own.kept (gb_set w _ _) (Or.inr (by simpa using h.ne))).kept (gb_set _ _ _) (Or.inr (by simpa using h.ne)), h.ne, h.le⟩
end

end Go.Proofs.Ytgoalfiinfkldaa

/- What the small methods of a reader that NewReader gave do: own, over, fail, mayRead, At, Left, Fault; and NewReader. -/
namespace Go.Proofs.Ytgoalfiinfkldaa
open Go.RowKit

set_option maxHeartbeats 400000 in
theorem own_made (b : Nat) (w : World) (hc : w.cell? ⟨b, 4, none⟩ = some (.bool true)) :
    Calls Try.prog 51 #[.pointer (some ⟨b, 0, none⟩)] w fun e w' => e = .returned (.pointer (some ⟨b, 0, none⟩)) ∧ w' = w := by
  go_enter Try.func51, Try.ntmps51
  go_wp2
  go_ret
  exact ⟨rfl, rfl⟩

set_option maxHeartbeats 400000 in
theorem over_any (b : Nat) (why : Int) (w : World) (hc : w.cell? ⟨b, 2, none⟩ = some (.int .i64 why)) :
    Calls Try.prog 68 #[.pointer (some ⟨b, 0, none⟩)] w fun e w' => e = .returned (.bool (why != 0)) ∧ w' = w := by
  go_enter Try.func68, Try.ntmps68
  go_wp2
  go_ret
  exact ⟨rfl, rfl⟩

set_option maxHeartbeats 400000 in
theorem pat_any (b : Nat) (a : Int) (w : World) (hc : w.cell? ⟨b, 1, none⟩ = some (.int .i64 a)) :
    Calls Try.prog 55 #[.pointer (some ⟨b, 0, none⟩)] w fun e w' => e = .returned (.int .i64 a) ∧ w' = w := by
  go_enter Try.func55, Try.ntmps55
  go_wp2
  go_ret
  exact ⟨rfl, rfl⟩

set_option maxHeartbeats 400000 in
theorem pleft_any (b n c : Nat) (a : Int) (v : Option Addr) (w : World) (hn : n ≤ maxLen) (h0 : 0 ≤ a) (ha : a ≤ n)
    (h1 : w.cell? ⟨b, 0, none⟩ = some (.slice v n c)) (h2 : w.cell? ⟨b, 1, none⟩ = some (.int .i64 a)) :
    Calls Try.prog 69 #[.pointer (some ⟨b, 0, none⟩)] w fun e w' => e = .returned (.int .i64 (n - a)) ∧ ∃ k, w' = w.drewN k := by
  unfold maxLen at hn
  go_enter Try.func69, Try.ntmps69
  go_wp2
  go_quiet (fail)
  go_wp2
  go_ret
  exact ⟨rfl, _, rfl⟩

set_option maxHeartbeats 400000 in
/-- fail, where there is a fault already or no error: nothing -/
theorem fail_idle (b : Nat) (why n : Int) (w : World) (hc : w.cell? ⟨b, 2, none⟩ = some (.int .i64 why)) (h : why ≠ 0 ∨ n = 0) :
    Calls Try.prog 54 #[.pointer (some ⟨b, 0, none⟩), .int .i64 n] w fun e w' => e = .returned (.tuple #[]) ∧ w' = w := by
  by_cases h1 : why = 0
  · obtain rfl : n = 0 := by rcases h with h | h; exact absurd h1 h; exact h
    subst h1
    go_enter Try.func54, Try.ntmps54
    go_wp2_with (go_at_call 68; refine (over_any _ _ _ (by assumption)).mono ?_; rintro e w' ⟨rfl, rfl⟩)
    go_end0
    exact ⟨rfl, rfl⟩
  · have hb : (why != 0) = true := by simpa using h1
    go_enter Try.func54, Try.ntmps54
    go_wp2_with (go_at_call 68; refine (over_any _ _ _ (by assumption)).mono ?_; rintro e w' ⟨rfl, rfl⟩)
    go_end0
    exact ⟨rfl, rfl⟩

set_option maxHeartbeats 400000 in
/-- fail, where there is no fault and an error: the fault is that, at the place -/
theorem fail_sets (b : Nat) (a n : Int) (w : World) (h1 : w.cell? ⟨b, 1, none⟩ = some (.int .i64 a)) (h2 : w.cell? ⟨b, 2, none⟩ = some (.int .i64 0)) (x : Value) (h3 : w.cell? ⟨b, 3, none⟩ = some x)
    (f2 : w.frozen? ⟨b, 2, none⟩ = false) (f3 : w.frozen? ⟨b, 3, none⟩ = false) (hn : n ≠ 0) :
    Calls Try.prog 54 #[.pointer (some ⟨b, 0, none⟩), .int .i64 n] w fun e w' => e = .returned (.tuple #[]) ∧ w' = (w.setCell ⟨b, 2, none⟩ (.int .i64 n)).setCell ⟨b, 3, none⟩ (.int .i64 a) := by
  have hb : (n != 0) = true := by simpa using hn
  go_enter Try.func54, Try.ntmps54
  go_wp2_with (first
    | (go_at_call 68; refine (over_any _ _ _ (by assumption)).mono ?_; rintro e w' ⟨rfl, rfl⟩)
    | (go_at_call 55; refine (pat_any _ _ _ (by assumption)).mono ?_; rintro e w' ⟨rfl, rfl⟩))
  go_end0
  exact ⟨rfl, rfl⟩

end Go.Proofs.Ytgoalfiinfkldaa

/- What mayRead does over a reader that NewReader gave: with no bounds, one, or two. -/
namespace Go.Proofs.Ytgoalfiinfkldaa
open Go.RowKit

set_option maxHeartbeats 400000 in
theorem may_none (b : Nat) (why : Int) (w : World) (hc : w.cell? ⟨b, 2, none⟩ = some (.int .i64 why)) :
    Calls Try.prog 52 #[.pointer (some ⟨b, 0, none⟩), .slice none 0 0] w fun e w' => e = .returned (.bool (!(why != 0))) ∧ w' = w := by
  go_enter Try.func52, Try.ntmps52
  go_wp2
  go_loop [9] (fun i => i = .int .i64 0) (fun _ => 0)
  case atStart => rfl
  case round =>
    subst hrel
    go_wp2_with (go_at_call 68; refine (over_any _ _ _ (by assumption)).mono ?_; rintro e w' ⟨rfl, rfl⟩)
    go_ret
    exact ⟨rfl, rfl⟩

set_option maxHeartbeats 400000 in
/-- nothing is wrong with the bounds, or there is a fault already -/
theorem may_ok (b c n : Nat) (why : Int) (zs : Nat → Int) (w : World) (hn : n ≤ 2) (hc : w.cell? ⟨b, 2, none⟩ = some (.int .i64 why))
    (hz : ∀ i : Nat, i < n → w.cell? ⟨c, i, none⟩ = some (.int .i64 (zs i))) (hok : why ≠ 0 ∨ ∀ i : Nat, i < n → 0 ≤ zs i) :
    Calls Try.prog 52 #[.pointer (some ⟨b, 0, none⟩), .slice (some ⟨c, 0, none⟩) n n] w fun e w' => e = .returned (.bool (!(why != 0))) ∧ w' = w := by
  have HZ : Hid (∀ i : Nat, i < n → w.cell? ⟨c, i, none⟩ = some (.int .i64 (zs i))) := hz
  have HOK : Hid (why ≠ 0 ∨ ∀ i : Nat, i < n → 0 ≤ zs i) := hok
  clear hz hok
  go_enter Try.func52, Try.ntmps52
  go_wp2
  go_loop [9] (fun i => ∃ k : Nat, k ≤ n ∧ i = .int .i64 k) (fun i => n - (intOf i).toNat)
  case atStart => exact ⟨0, Nat.zero_le _, rfl⟩
  case round =>
    obtain ⟨k, hk, rfl⟩ := hrel
    by_cases hlt : k < n
    · have hzk := HZ.out k hlt
      have HN : Hid (zs k < 0 → why ≠ 0 ∨ (1 : Int) = 0) := fun hneg => HOK.out.elim Or.inl (fun h => absurd (h k hlt) (by omega))
      generalize zs k = z at *
      by_cases hneg : z < 0
      all_goals
        go_wp2_with (go_at_call 54; refine (fail_idle _ _ _ _ (by assumption) (HN.out hneg)).mono ?_; rintro e w' ⟨rfl, rfl⟩)
        go_round
        case rel => exact ⟨k + 1, by omega, by go_num⟩
        case measure => simp [intOf]; omega
    · go_wp2_with (go_at_call 68; refine (over_any _ _ _ (by assumption)).mono ?_; rintro e w' ⟨rfl, rfl⟩)
      go_ret
      exact ⟨rfl, rfl⟩

set_option maxHeartbeats 400000 in
/-- a bound is below 0, and there is no fault yet: ErrArg, at the place -/
theorem may_bad (b c n : Nat) (a : Int) (zs : Nat → Int) (x : Value) (w : World) (hn : n ≤ 2) (hbc : c ≠ b) (h1 : w.cell? ⟨b, 1, none⟩ = some (.int .i64 a)) (h2 : w.cell? ⟨b, 2, none⟩ = some (.int .i64 0)) (h3 : w.cell? ⟨b, 3, none⟩ = some x)
    (f2 : w.frozen? ⟨b, 2, none⟩ = false) (f3 : w.frozen? ⟨b, 3, none⟩ = false)
    (hz : ∀ i : Nat, i < n → w.cell? ⟨c, i, none⟩ = some (.int .i64 (zs i))) (hbad : ∃ i : Nat, i < n ∧ zs i < 0) :
    Calls Try.prog 52 #[.pointer (some ⟨b, 0, none⟩), .slice (some ⟨c, 0, none⟩) n n] w fun e w' => e = .returned (.bool false) ∧ w' = (w.setCell ⟨b, 2, none⟩ (.int .i64 1)).setCell ⟨b, 3, none⟩ (.int .i64 a) := by
  have HW : ∃ w1, Hid (w1 = (w.setCell ⟨b, 2, none⟩ (.int .i64 1)).setCell ⟨b, 3, none⟩ (.int .i64 a)) := ⟨_, rfl⟩
  obtain ⟨w1, HW⟩ := HW
  have g2 : w1.cell? ⟨b, 2, none⟩ = some (.int .i64 1) := by rw [HW.out]; go_simp
  have HZ : Hid (∀ i : Nat, i < n → w.cell? ⟨c, i, none⟩ = some (.int .i64 (zs i))) := hz
  have HZ1 : Hid (∀ i : Nat, i < n → w1.cell? ⟨c, i, none⟩ = some (.int .i64 (zs i))) := fun i hi => by
    have e : w1.cell? ⟨c, i, none⟩ = w.cell? ⟨c, i, none⟩ := by
      rw [HW.out]
      exact (World.cell?_of_block (Below.heap_setCell _ _ _ _ hbc)).trans (World.cell?_of_block (Below.heap_setCell _ _ _ _ hbc))
    rw [e]; exact hz i hi
  have HB : Hid (∃ i : Nat, i < n ∧ zs i < 0) := hbad
  clear hz hbad
  go_enter Try.func52, Try.ntmps52
  go_wp2
  go_loopw [9] (fun i wr => ∃ k : Nat, k ≤ n ∧ i = .int .i64 k ∧ ((wr = w ∧ ∀ i : Nat, i < k → 0 ≤ zs i) ∨ wr = w1)) (fun i _ => n - (intOf i).toNat)
  case atStart => exact ⟨0, Nat.zero_le _, rfl, Or.inl ⟨rfl, fun i hi => absurd hi (Nat.not_lt_zero _)⟩⟩
  case round =>
    obtain ⟨k, hk, rfl, ⟨rfl, hpos⟩ | rfl⟩ := hrel
    · have HP : Hid (∀ i : Nat, i < k → 0 ≤ zs i) := hpos
      clear hpos
      by_cases hlt : k < n
      · have hzk := HZ.out k hlt
        by_cases hneg : zs k < 0
        · go_wp2_with (go_at_call 54; refine (fail_sets _ _ _ _ h1 h2 _ h3 f2 f3 (by decide)).mono ?_; rintro e w' ⟨rfl, rfl⟩)
          go_roundw
          case rel => exact ⟨k + 1, by omega, by go_num, Or.inr HW.out.symm⟩
          case measure => simp [intOf]; omega
        · go_wp2_with fail
          go_roundw
          case rel =>
            refine ⟨k + 1, by omega, by go_num, Or.inl ⟨by trivial, fun i hi => ?_⟩⟩
            rcases Nat.lt_or_ge i k with h | h
            · exact HP.out i h
            · obtain rfl : i = k := by omega
              omega
          case measure => simp [intOf]; omega
      · exfalso
        obtain ⟨i, hi, hneg⟩ := HB.out
        have := HP.out i (by omega)
        omega
    · by_cases hlt : k < n
      · have hzk := HZ1.out k hlt
        by_cases hneg : zs k < 0
        all_goals
          go_wp2_with (go_at_call 54; refine (fail_idle _ _ _ _ g2 (Or.inl (by decide))).mono ?_; rintro e w' ⟨rfl, rfl⟩)
          go_roundw
          case rel => exact ⟨k + 1, by omega, by go_num, Or.inr (by trivial)⟩
          case measure => simp [intOf]; omega
      · go_wp2_with (go_at_call 68; refine (over_any _ _ _ g2).mono ?_; rintro e w' ⟨rfl, rfl⟩)
        go_ret
        exact ⟨rfl, HW.out⟩

end Go.Proofs.Ytgoalfiinfkldaa

/- NewReader, and the calls Left, At, Fault, Fail, End and Byte of a reader that NewReader gave. -/
namespace Go.Proofs.Ytgoalfiinfkldaa
open Go.RowKit

/-- behind the append: the new row is stored into the new reader -/
theorem rd_made {w w1 : World} {v : Value} {bs : List UInt8} {o : Array Value}
    (ho : o = #[.slice none 0 0, .int .i64 0, .int .i64 0, .int .i64 0, .bool true])
    (hown : OwnB w1 (w.heap.size + 1) v bs) (hg : (w.alloc (.cells o 97)).grownBy w1 none) :
    Rd (w1.setCell ⟨w.heap.size, 0, none⟩ v) w.heap.size w.heap.size v bs 0 0 0 ∧ Below w.heap.size w (w1.setCell ⟨w.heap.size, 0, none⟩ v) := by
  subst ho
  have hne : v.ownBlock ≠ some w.heap.size := fun e => by have := (hown.lt _ e).1; omega
  have hblk : w1.heap[w.heap.size]? = some (.cells #[.slice none 0 0, .int .i64 0, .int .i64 0, .int .i64 0, .bool true] 97 (0, 0)) :=
    (hg.block w.heap.size (by simp) (by simp)).trans (heap_alloc_new w _)
  refine ⟨⟨Nat.le_refl _, blk_set hblk _, (hown.kept (gb_set _ _ _) (Or.inr hne)).le (by omega), hne, Nat.zero_le _⟩, ?_⟩
  exact (((below_walk w _).grown hg (by simp) (by simp))).setCell (Nat.le_refl _) _

set_option maxHeartbeats 400000 in
theorem newReader_any (v0 : Value) (bs : List UInt8) (w : World) (hs : Src w v0 bs) :
    Calls Try.prog 30 #[v0] w fun e w' => ∃ b v, e = .returned (.pointer (some ⟨b, 0, none⟩)) ∧ Rd w' w.heap.size b v bs 0 0 0 ∧ Below w.heap.size w w' := by
  obtain ⟨i0, hi, hz0, hz1, hz2⟩ := info_parts Try.infoU8
  obtain ⟨hl, ⟨rfl, rfl⟩ | ⟨ad, cap, rfl, h1, h2, hlt, hc⟩⟩ := hs
  · go_enter Try.func30, Try.ntmps30
    go_wp2_with (at_builtin; refine wpList_append_own_none rfl _ _ 30 rfl (w.heap.size + 1) 5 i0 1 Try.underlying30 hi _ _ _ rfl (World.ownsRow_nil _ _ _ _) rfl ?_)
    go_ret
    exact ⟨_, _, rfl, ⟨Nat.le_refl _, heap_alloc_new w _, OwnB.nil _ _, by simp [Value.ownBlock], Nat.le_refl _⟩, below_walk _ _⟩
  · have HC : Hid (∀ j : Nat, j < bs.length → w.cell? (ad.add j) = some (.int .u8 (bs.getD j 0).toNat)) := hc
    clear hc
    have hsrc : ∀ (o : Obj) (j : Nat) (u : Value), (bytesV bs)[j]? = some u → (w.alloc o).cell? (ad.add j) = some u := by
      intro o j u hj
      rw [bytesV_get] at hj
      have hjl : j < bs.length := by
        rcases Nat.lt_or_ge j bs.length with h | h
        · exact h
        · rw [List.getElem?_eq_none h] at hj; cases hj
      rw [(below_walk w o).cell (p := ad.add j) (by rw [addr_block]; exact hlt (by omega)), HC.out j hjl, ← hj]
      simp [List.getElem?_eq_getElem hjl, List.getD_eq_getElem?_getD]
    have HS : Hid (∀ (o : Obj) (j : Nat) (u : Value), (bytesV bs)[j]? = some u → (w.alloc o).cell? (ad.add j) = some u) := hsrc
    clear hsrc
    go_enter Try.func30, Try.ntmps30
    go_wp2_with (at_builtin; refine wpList_append_own _ rfl _ _ 30 rfl (w.heap.size + 1) 5 i0 (.int .u8 0) 1 1 Try.underlying30 hi hz0 hz1 hz2 rfl (by decide) _ _ _ rfl (World.ownsRow_nil _ _ _ _) ad bs.length cap (bytesV bs) rfl (by simp [bytesV]) (HS.out _) (bytesV_one bs) ?c3 ?c4 ?c5 ?_)
    case c3 => unfold maxLen; omega
    case c4 => omega
    case c5 => simp
    intro v' w1 hown' hgrow _
    have hown : OwnB w1 (w.heap.size + 1) v' bs := hown'
    have R := rd_made rfl hown hgrow
    have HR : Hid (Rd (w1.setCell ⟨w.heap.size, 0, none⟩ v') w.heap.size w.heap.size v' bs 0 0 0 ∧ Below w.heap.size w (w1.setCell ⟨w.heap.size, 0, none⟩ v')) := R
    clear R
    have hblk : w1.heap[w.heap.size]? = some (.cells #[.slice none 0 0, .int .i64 0, .int .i64 0, .int .i64 0, .bool true] 97 (0, 0)) :=
      (hgrow.block w.heap.size (by simp) (by simp [Value.ownBlock])).trans (heap_alloc_new w _)
    have hcell : w1.cell? ⟨w.heap.size, 0, none⟩ = some (.slice none 0 0) := by simp [World.cell?, hblk]
    have hfroz : w1.frozen? ⟨w.heap.size, 0, none⟩ = false := by simp [World.frozen?, hblk]
    obtain ⟨a', c', hv'⟩ := hown.shape
    clear hown hown' hgrow hblk HS HC
    subst hv'
    go_wp2
    go_ret
    exact ⟨_, _, rfl, HR.out.1, HR.out.2⟩

section

variable (base b : Nat) (v : Value) (bs : List UInt8) (a : Nat) (why wat : Int) (w : World)


set_option maxHeartbeats 400000 in
theorem rat_any (h : Rd w base b v bs a why wat) :
    Calls Try.prog 33 #[.pointer (some ⟨b, 0, none⟩)] w fun e w' => e = .returned (.int .i64 a) ∧ w' = w := by
  have h4 := h.c4
  have h1 := h.c1
  clear h
  go_enter Try.func33, Try.ntmps33
  go_wp2_with (first
    | (go_at_call 51; refine (own_made _ _ h4).mono ?_; rintro e w' ⟨rfl, rfl⟩)
    | (go_at_call 55; refine (pat_any _ _ _ h1).mono ?_; rintro e w' ⟨rfl, rfl⟩))
  go_ret
  exact ⟨rfl, rfl⟩

set_option maxHeartbeats 400000 in
theorem rfault_any (h : Rd w base b v bs a why wat) :
    Calls Try.prog 32 #[.pointer (some ⟨b, 0, none⟩)] w fun e w' => e = .returned (.agg #[.int .i64 why, .int .i64 wat]) ∧ Below w.heap.size w w' := by
  have hb := h.below (below_walk w (.cells #[.int .i64 0, .int .i64 0] 51))
  have h4 := hb.c4
  have h2 := hb.c2
  have h3 := hb.c3
  clear hb
  have hlt := h.lt
  clear h
  go_enter Try.func32, Try.ntmps32
  go_wp2_with (first
    | (go_at_call 51; refine (own_made _ _ h4).mono ?_; rintro e w' ⟨rfl, rfl⟩))
  exact bodyPost_ret (v := .agg #[.int .i64 why, .int .i64 wat]) (by simp [results, Try.results32, go_sem]) rfl ⟨rfl, below_walk _ _⟩

end

end Go.Proofs.Ytgoalfiinfkldaa

/- The calls Fail, End and Byte of a reader that NewReader gave. -/
namespace Go.Proofs.Ytgoalfiinfkldaa
open Go.RowKit

section

variable (base b : Nat) (v : Value) (bs : List UInt8) (a : Nat) (why wat : Int) (w : World)


/-- fail over a reader: the first error stays -/
theorem wfail_any (n : Int) (h : Rd w base b v bs a why wat) :
    Calls Try.prog 54 #[.pointer (some ⟨b, 0, none⟩), .int .i64 n] w fun e w' => e = .returned (.tuple #[]) ∧
      Rd w' base b v bs a (if why = 0 then n else why) (if why = 0 ∧ n ≠ 0 then a else wat) ∧ w.grownBy w' (some b) := by
  by_cases h1 : why ≠ 0 ∨ n = 0
  · refine (fail_idle b why n w h.c2 h1).mono ?_
    rintro e w' ⟨rfl, rfl⟩
    refine ⟨rfl, ?_, gb_refl _ _⟩
    rcases h1 with h1 | rfl
    · simpa [h1] using h
    · by_cases h0 : why = 0
      · subst h0; simpa using h
      · simpa [h0] using h
  · obtain ⟨h0, hn⟩ : why = 0 ∧ n ≠ 0 := by
      constructor
      · exact Classical.byContradiction fun e => h1 (Or.inl e)
      · exact fun e => h1 (Or.inr e)
    subst h0
    refine (fail_sets b a n w h.c1 h.c2 _ h.c3 (h.fz _) (h.fz _) hn).mono ?_
    rintro e w' ⟨rfl, rfl⟩
    refine ⟨rfl, ?_, gb_trans (gb_set _ _ _) (gb_set _ _ _)⟩
    simpa [hn] using h.setFault n a

set_option maxHeartbeats 400000 in
theorem rfail_any (n : Int) (h : Rd w base b v bs a why wat) :
    Calls Try.prog 72 #[.pointer (some ⟨b, 0, none⟩), .int .i64 n] w fun e w' => e = .returned (.tuple #[]) ∧
      Rd w' base b v bs a (if why = 0 then n else why) (if why = 0 ∧ n ≠ 0 then a else wat) ∧ w.grownBy w' (some b) := by
  have h4 := h.c4
  have HC : Hid _ := (wfail_any _ _ _ _ _ _ _ _ n h)
  clear h
  generalize (if why = 0 then n else why) = why' at *
  generalize (if why = 0 ∧ n ≠ 0 then (a : Int) else wat) = wat' at *
  go_enter Try.func72, Try.ntmps72
  go_wp2_with fail
  refine (own_made _ _ h4).mono ?_
  rintro e w' ⟨rfl, rfl⟩
  go_wp2_with fail
  refine Calls.mono HC.out ?_
  rintro e w' ⟨rfl, hR, hg⟩
  go_wp2
  go_end0
  exact ⟨rfl, hR, hg⟩

set_option maxHeartbeats 400000 in
/-- End where bytes are left and there is no fault -/
theorem rend_more (h : Rd w base b v bs a 0 wat) (hlt : a < bs.length) :
    Calls Try.prog 73 #[.pointer (some ⟨b, 0, none⟩)] w fun e w' => e = .returned (.agg #[.int .i64 6, .int .i64 a]) ∧ Rd w' base b v bs a 6 a ∧ w.grownBy w' (some b) := by
  have hlt' := h.lt
  have HV : Hid (v.ownBlock ≠ some w.heap.size) := fun e => Nat.lt_irrefl _ (h.own.lt _ e).2
  have h := h.below (below_walk w (.cells #[.int .i64 0, .int .i64 0] 51))
  have HH : Hid _ := h
  have h4 := h.c4
  have h0 := h.c0
  have h1 := h.c1
  have hl := h.own.len
  obtain ⟨ad, cap, rfl⟩ := h.own.shape
  clear h
  have hgt : (0 : Int) < (bs.length : Int) - (a : Int) := by omega
  go_enter Try.func73, Try.ntmps73
  go_wp2_with fail
  refine (own_made _ _ h4).mono ?_
  rintro e w' ⟨rfl, rfl⟩
  go_wp2_with fail
  refine (pleft_any _ _ _ _ _ _ hl (by omega) (by omega) h0 h1).mono ?_
  rintro e w' ⟨rfl, k, rfl⟩
  go_wp2_with fail
  refine (wfail_any _ _ _ _ _ _ _ _ _ (HH.out.drewN k)).mono ?_
  rintro e w' ⟨rfl, hR, hg⟩
  have hR : Rd w' base b (.slice ad bs.length cap) bs a 6 a := by simpa using hR
  have c2 := hR.c2
  have c3 := hR.c3
  have hz := hg.size
  have d0 : w'.cell? ⟨w.heap.size, 0, none⟩ = some (.int .i64 0) := by rw [World.cell?_of_block (hg.block w.heap.size (by simp) (by simp; omega))]; simp
  have d1 : w'.cell? ⟨w.heap.size, 1, none⟩ = some (.int .i64 0) := by rw [World.cell?_of_block (hg.block w.heap.size (by simp) (by simp; omega))]; simp
  have e0 : w'.frozen? ⟨w.heap.size, 0, none⟩ = false := by rw [World.frozen?_of_block (hg.block w.heap.size (by simp) (by simp; omega))]; simp
  have e1 : w'.frozen? ⟨w.heap.size, 1, none⟩ = false := by rw [World.frozen?_of_block (hg.block w.heap.size (by simp) (by simp; omega))]; simp
  have HR : Hid _ := hR
  have HG : Hid _ := hg
  clear hR hg
  go_wp2
  have K : w.grownBy ((w'.setCell ⟨w.heap.size, 0, none⟩ (.int .i64 6)).setCell ⟨w.heap.size, 1, none⟩ (.int .i64 a)) (some b) :=
    gb_then (gb_then (gb_trans (gb_trans (gb_alloc _ _ _) (gb_drewN _ _ _)) HG.out) (gb_set _ _ _) (by intro j hj; cases hj; exact Or.inl (Nat.le_refl _))) (gb_set _ _ _) (by intro j hj; cases hj; exact Or.inl (Nat.le_refl _))
  exact bodyPost_ret (v := .agg #[.int .i64 6, .int .i64 a]) (by simp [results, Try.results73, go_sem, d0, d1]) rfl ⟨rfl, (HR.out.grown (gb_set _ _ _) (by simp; omega) (Or.inr HV.out)).grown (gb_set _ _ _) (by simp; omega) (Or.inr HV.out), K⟩

set_option maxHeartbeats 400000 in
/-- End where no bytes are left, or there is a fault -/
theorem rend_idle (h : Rd w base b v bs a why wat) (hidle : why ≠ 0 ∨ a = bs.length) :
    Calls Try.prog 73 #[.pointer (some ⟨b, 0, none⟩)] w fun e w' => e = .returned (.agg #[.int .i64 why, .int .i64 wat]) ∧ Rd w' base b v bs a why wat ∧ w.grownBy w' (some b) := by
  have hlt' := h.lt
  have HV : Hid (v.ownBlock ≠ some w.heap.size) := fun e => Nat.lt_irrefl _ (h.own.lt _ e).2
  have h := h.below (below_walk w (.cells #[.int .i64 0, .int .i64 0] 51))
  have HH : Hid _ := h
  have h4 := h.c4
  have h0 := h.c0
  have h1 := h.c1
  have h2 := h.c2
  have h3 := h.c3
  have hl := h.own.len
  have hle := h.le
  obtain ⟨ad, cap, rfl⟩ := h.own.shape
  clear h
  have HI : Hid (why ≠ 0 ∨ a = bs.length) := hidle
  clear hidle
  by_cases hgt : (0 : Int) < (bs.length : Int) - (a : Int)
  · have HN : Hid (why ≠ 0) := HI.out.elim id (fun e => by omega)
    go_enter Try.func73, Try.ntmps73
    go_wp2_with fail
    refine (own_made _ _ h4).mono ?_
    rintro e w' ⟨rfl, rfl⟩
    go_wp2_with fail
    refine (pleft_any _ _ _ _ _ _ hl (by omega) (by omega) h0 h1).mono ?_
    rintro e w' ⟨rfl, k, rfl⟩
    go_wp2_with fail
    refine (fail_idle _ _ _ _ (by exact h2) (Or.inl HN.out)).mono ?_
    rintro e w' ⟨rfl, rfl⟩
    go_wp2
    have K : w.grownBy ((((w.alloc (.cells #[.int .i64 0, .int .i64 0] 51)).drewN k).setCell ⟨w.heap.size, 0, none⟩ (.int .i64 why)).setCell ⟨w.heap.size, 1, none⟩ (.int .i64 wat)) (some b) :=
      gb_then (gb_then (gb_trans (gb_alloc _ _ _) (gb_drewN _ _ _)) (gb_set _ _ _) (by intro j hj; cases hj; exact Or.inl (Nat.le_refl _))) (gb_set _ _ _) (by intro j hj; cases hj; exact Or.inl (Nat.le_refl _))
    exact bodyPost_ret (v := .agg #[.int .i64 why, .int .i64 wat]) (by simp [results, Try.results73, go_sem]) rfl ⟨rfl, ((HH.out.drewN k).grown (gb_set _ _ _) (by simp; omega) (Or.inr HV.out)).grown (gb_set _ _ _) (by simp; omega) (Or.inr HV.out), K⟩
  · go_enter Try.func73, Try.ntmps73
    go_wp2_with fail
    refine (own_made _ _ h4).mono ?_
    rintro e w' ⟨rfl, rfl⟩
    go_wp2_with fail
    refine (pleft_any _ _ _ _ _ _ hl (by omega) (by omega) h0 h1).mono ?_
    rintro e w' ⟨rfl, k, rfl⟩
    go_wp2
    have K : w.grownBy ((((w.alloc (.cells #[.int .i64 0, .int .i64 0] 51)).drewN k).setCell ⟨w.heap.size, 0, none⟩ (.int .i64 why)).setCell ⟨w.heap.size, 1, none⟩ (.int .i64 wat)) (some b) :=
      gb_then (gb_then (gb_trans (gb_alloc _ _ _) (gb_drewN _ _ _)) (gb_set _ _ _) (by intro j hj; cases hj; exact Or.inl (Nat.le_refl _))) (gb_set _ _ _) (by intro j hj; cases hj; exact Or.inl (Nat.le_refl _))
    exact bodyPost_ret (v := .agg #[.int .i64 why, .int .i64 wat]) (by simp [results, Try.results73, go_sem]) rfl ⟨rfl, ((HH.out.drewN k).grown (gb_set _ _ _) (by simp; omega) (Or.inr HV.out)).grown (gb_set _ _ _) (by simp; omega) (Or.inr HV.out), K⟩

end

end Go.Proofs.Ytgoalfiinfkldaa

/- That a reader of one byte is one: alive answers true, and only makes memory. -/
namespace Go.Proofs.Ytgoalfiinfkldaa
open Go.RowKit

theorem src_one (w : World) (x : UInt8) (n : Int) (hx : n = x.toNat) : Src (w.alloc (.cells #[.int .u8 n] 5)) (.slice (some ⟨w.heap.size, 0, none⟩) 1 1) [x] := by
  subst hx
  refine ⟨by simp, Or.inr ⟨⟨w.heap.size, 0, none⟩, 1, rfl, by simp, by unfold maxLen; omega, fun _ => by simp, fun j hj => ?_⟩⟩
  obtain rfl : j = 0 := by simpa using hj
  simp [Addr.add]

end Go.Proofs.Ytgoalfiinfkldaa

/- Short numbers, texts and lists as bytes: the plain mathematics. Nothing here speaks of the program. -/
namespace Go.Proofs.Ytgoalfiinfkldaa

/-- a short number's bytes, at most f of them -/
def snF : Nat → Nat → List UInt8
  | 0, _ => []
  | f + 1, n => if n < 128 then [n.toUInt8] else (n % 128 + 128).toUInt8 :: snF f (n / 128)
/-- a short number's bytes -/
def sn (n : Nat) : List UInt8 := snF 10 n

theorem snF_succ (f n : Nat) : snF (f + 1) n = if n < 128 then [n.toUInt8] else (n % 128 + 128).toUInt8 :: snF f (n / 128) := rfl

theorem snF_more : ∀ (f n : Nat), n < 128 ^ f → 0 < f → snF (f + 1) n = snF f n
  | 0, _, _, h => absurd h (Nat.lt_irrefl _)
  | f + 1, n, h, _ => by
    rw [snF_succ (f + 1) n, snF_succ f n]
    by_cases hn : n < 128
    · rw [if_pos hn, if_pos hn]
    · rw [if_neg hn, if_neg hn]
      have hd : n / 128 < 128 ^ f := by
        rw [Nat.pow_succ] at h
        exact Nat.div_lt_of_lt_mul (by rw [Nat.mul_comm]; exact h)
      have hf : 0 < f := by
        rcases Nat.eq_zero_or_pos f with rfl | h'
        · simp at hd; omega
        · exact h'
      rw [snF_more f (n / 128) hd hf]

theorem sn_lt {n : Nat} (h : n < 128) : sn n = [n.toUInt8] := by simp [sn, snF, h]
theorem sn_ge {n : Nat} (h : 128 ≤ n) (h2 : n < 18446744073709551616) : sn n = (n % 128 + 128).toUInt8 :: sn (n / 128) := by
  have e : snF 10 (n / 128) = snF 9 (n / 128) := snF_more 9 (n / 128) (by omega) (by omega)
  rw [sn, sn, e, snF_succ 9, if_neg (by omega)]

theorem snF_length : ∀ (f n : Nat), (snF f n).length ≤ f
  | 0, _ => by simp [snF]
  | f + 1, n => by
    rw [snF]
    split
    · simp
    · have := snF_length f (n / 128); simp; omega
theorem sn_length_le (n : Nat) : (sn n).length ≤ 10 := snF_length 10 n
theorem sn_length_pos (n : Nat) : 1 ≤ (sn n).length := by
  rw [sn, snF]
  split <;> simp

/-- how many bits a number has, and how many groups of seven -/
theorem bitLen_pos {x : Nat} (h : x ≠ 0) (hx : x < 2 ^ 64) : 1 ≤ Lib.bitLen x := by rw [Lib.bitLen_half x h hx]; omega
theorem bitLen_seven (n : Nat) (h : 128 ≤ n) (hx : n < 2 ^ 64) : Lib.bitLen n = 7 + Lib.bitLen (n / 128) := Lib.bitLen_shift 7 n h hx

theorem size_sn : ∀ (f n : Nat), f ≤ 10 → n < 128 ^ f → n < 2 ^ 64 → 0 < f → (Lib.bitLen (max n 1) + 6) / 7 = (snF f n).length
  | 0, _, _, _, _, h => absurd h (Nat.lt_irrefl _)
  | f + 1, n, hf10, h, hx, _ => by
    rw [snF]
    by_cases hn : n < 128
    · rw [if_pos hn]
      have h1 : Lib.bitLen (max n 1) ≤ 7 := Lib.bitLen_le _ 7 (by omega) (by omega)
      have h2 : 1 ≤ Lib.bitLen (max n 1) := bitLen_pos (by omega) (by omega)
      simp
      omega
    · rw [if_neg hn]
      have hd : n / 128 < 128 ^ f := by
        rw [Nat.pow_succ] at h
        exact Nat.div_lt_of_lt_mul (by rw [Nat.mul_comm]; exact h)
      have hf : 0 < f := by
        rcases Nat.eq_zero_or_pos f with rfl | h'
        · simp at hd; omega
        · exact h'
      have ih := size_sn f (n / 128) (by omega) hd (by omega) hf
      have e1 : max n 1 = n := by omega
      have e2 : max (n / 128) 1 = n / 128 := by omega
      rw [e1, bitLen_seven n (by omega) hx, List.length_cons, ← ih, e2]
      omega

/-- an odd or even number's bits: the lowest one set changes how many only of nought -/
theorem bitLen_or_one (n : Nat) (hx : n < 2 ^ 64) : Lib.bitLen (n ||| 1) = Lib.bitLen (max n 1) := by
  by_cases h : n = 0
  · subst h; rfl
  · have e : max n 1 = n := by omega
    have h1 : (n ||| 1) ≠ 0 := by
      intro e1
      have := Nat.or_eq_zero_iff.1 e1
      omega
    have h2 : (n ||| 1) < 2 ^ 64 := Nat.or_lt_two_pow hx (by decide)
    have h3 : (n ||| 1) / 2 = n / 2 := by
      have := Nat.or_div_two (a := n) (b := 1)
      simpa using this
    rw [e, Lib.bitLen_half _ h1 h2, Lib.bitLen_half _ h hx, h3]

theorem size_eq (n : Nat) (hx : n < 18446744073709551616) : (Lib.bitLen (n ||| 1) + 6) / 7 = (sn n).length := by
  rw [bitLen_or_one n hx]
  exact size_sn 10 n (by omega) (by omega) hx (by omega)

/-- a text's bytes; texts, one behind the other; a list's -/
def tx (s : ByteArray) : List UInt8 := sn s.size ++ s.data.toList
def txs (l : List ByteArray) : List UInt8 := l.flatMap tx
def ls (l : List ByteArray) : List UInt8 := sn l.length ++ txs l
theorem txs_nil : txs [] = [] := rfl
theorem txs_append (a b : List ByteArray) : txs (a ++ b) = txs a ++ txs b := by simp [txs]
theorem txs_one (s : ByteArray) : txs [s] = tx s := by simp [txs]
theorem tx_length (s : ByteArray) : (tx s).length = (sn s.size).length + s.size := by simp [tx]

/-- the number that stands for a number with a sign -/
def zz (n : Int) : Nat := if n < 0 then (-2 * n - 1).toNat else (2 * n).toNat

end Go.Proofs.Ytgoalfiinfkldaa

/- append of bytes or of a text's bytes behind bytes of the call's own, as one law each; string(bytes). -/
namespace Go.Proofs.Ytgoalfiinfkldaa
open Go.RowKit






set_option maxHeartbeats 400000 in
/-- bytes.Equal of the same bytes -/
theorem equal_true (va vb : Value) (bs : List UInt8) (w : World) (ha : Src w va bs) (hb : Src w vb bs) :
    Calls Try.prog 11 #[va, vb] w fun e w' => e = .returned (.bool true) ∧ w' = w := by
  have h1 := run_str ha
  have h2 := run_str hb
  clear ha hb
  generalize (⟨bs.toArray⟩ : ByteArray) = s at *
  go_enter Try.func11, Try.ntmps11
  go_wp2
  go_ret
  exact ⟨by simp, rfl⟩

end Go.Proofs.Ytgoalfiinfkldaa

/- math/bits.Len64 answers how many bits its number has. -/
namespace Go.Proofs.Ytgoalfiinfkldaa
open Go.RowKit

theorem ret_i64 {a b : Int} (h : a = b) : Ending.returned (.int .i64 a) = .returned (.int .i64 b) := by rw [h]

theorem wrap64_id {a : Int} (h0 : -9223372036854775808 ≤ a) (h1 : a ≤ 9223372036854775807) : wrap64 a = a := by
  unfold wrap64
  omega

/-- one way through: x has k bits more than the byte that is looked up -/
theorem len_way (k : Nat) (x i : Int) (hk : k ≤ 56) (h0 : 0 ≤ x) (h1 : x ≤ 18446744073709551615) (hi0 : 0 ≤ i) (hi1 : i ≤ 255) (he : i.toNat = x.toNat / 2 ^ k) (hx : k = 0 ∨ 2 ^ k ≤ x.toNat) (hb : i.toNat < Lib.len8tab.size) :
    wrap64 ((k : Int) + wrap64 ((Lib.len8tab[i.toNat]'hb).toNat : Int)) = (Lib.bitLen x.toNat : Int) := by
  have e1 : ((Lib.len8tab[i.toNat]'hb).toNat : Int) = Lib.bitLen i.toNat := by
    rw [← Lib.len8_of i hi0 hi1]
    simp [Lib.len8, ByteArray.getElem?_lt' _ _ hb]
  have e2 := Lib.bitLen_le8' i hi0 hi1
  have e3 : Lib.bitLen x.toNat = k + Lib.bitLen i.toNat := by
    rw [he]
    rcases hx with rfl | hx
    · simp
    · exact Lib.bitLen_shift k x.toNat hx (by omega)
  rw [e1, wrap64_id (a := (Lib.bitLen i.toNat : Int)) (by omega) (by omega), wrap64_id (by omega) (by omega), e3]
  omega

theorem len_way0 (x : Int) (h0 : 0 ≤ x) (hi1 : x ≤ 255) (hb : x.toNat < Lib.len8tab.size) :
    wrap64 (wrap64 ((Lib.len8tab[x.toNat]'hb).toNat : Int)) = (Lib.bitLen x.toNat : Int) := by
  have := len_way 0 x x (by omega) h0 (by omega) h0 hi1 (by simp) (Or.inl rfl) hb
  simpa using this

set_option maxHeartbeats 4000000 in
set_option maxRecDepth 100000 in
theorem len64_any (x : Int) (w : World) (h0 : 0 ≤ x) (h1 : x ≤ 18446744073709551615) :
    Calls Try.prog 50 #[.int .u64 x] w fun e w' => e = .returned (.int .i64 (Lib.bitLen x.toNat)) ∧ w' = w := by
  go_enter Try.func50, Try.ntmps50
  go_wp2
  all_goals first
    | (exfalso; rename_i h; exact h ⟨by omega, by rw [Lib.len8tab_size]; omega⟩)
    | (go_ret; refine ⟨ret_i64 ?_, rfl⟩)
  · exact len_way 56 x _ (by omega) h0 h1 (by omega) (by omega) (by omega) (Or.inr (by omega)) _
  · exact len_way 48 x _ (by omega) h0 h1 (by omega) (by omega) (by omega) (Or.inr (by omega)) _
  · exact len_way 40 x _ (by omega) h0 h1 (by omega) (by omega) (by omega) (Or.inr (by omega)) _
  · exact len_way 32 x _ (by omega) h0 h1 (by omega) (by omega) (by omega) (Or.inr (by omega)) _
  · exact len_way 24 x _ (by omega) h0 h1 (by omega) (by omega) (by omega) (Or.inr (by omega)) _
  · exact len_way 16 x _ (by omega) h0 h1 (by omega) (by omega) (by omega) (Or.inr (by omega)) _
  · exact len_way 8 x _ (by omega) h0 h1 (by omega) (by omega) (by omega) (Or.inr (by omega)) _
  · exact len_way0 x h0 (by omega) _

end Go.Proofs.Ytgoalfiinfkldaa

/- withRoom, addUint, Size, folded, and the document's Uint: what each answers. -/
namespace Go.Proofs.Ytgoalfiinfkldaa
open Go.RowKit

set_option maxHeartbeats 400000 in
theorem withRoom_any (v0 : Value) (bs : List UInt8) (m : Nat) (w : World) (hs : Src w v0 bs) (hm : bs.length + m ≤ 70368744177664) :
    Calls Try.prog 63 #[v0, .int .i64 m] w fun e w' => ∃ v, e = .returned v ∧ OwnB w' w.heap.size v bs ∧ Below w.heap.size w w' := by
  have HS : Hid (Src w v0 bs) := hs
  obtain ⟨ao, cap, rfl⟩ : ∃ ao cap, v0 = .slice ao bs.length cap := by
    obtain ⟨_, ⟨rfl, rfl⟩ | ⟨ad, cap, rfl, _⟩⟩ := hs
    · exact ⟨none, 0, rfl⟩
    · exact ⟨_, _, rfl⟩
  clear hs
  go_enter Try.func63, Try.ntmps63
  go_wp2_with (at_make; refine make_own rfl _ _ rfl _ (bs.length + m) rfl rfl ?c1 ?c2 ?_)
  case c1 => omega
  case c2 => omega
  intro v1 w1 hown hb
  have HO : Hid (OwnB w1 w.heap.size v1 []) := hown
  have HB : Hid (Below w.heap.size w w1) := hb
  clear hown hb
  go_wp2_with (at_builtin; refine app_src rfl _ _ rfl w.heap.size _ _ rfl HO.out _ _ rfl (HS.out.below HB.out) ?c1 HB.out.size ?_)
  case c1 => simp; omega
  intro v2 w2 hown2 hg
  have HO2 : Hid (OwnB w2 w.heap.size v2 bs) := (by simpa using hown2 : OwnB w2 w.heap.size v2 bs)
  have HB2 : Hid (Below w.heap.size w w2) := HB.out.grown hg HB.out.size (fun k hk => (HO.out.lt k hk).1)
  clear hown2 hg
  go_wp2
  go_ret
  exact ⟨_, rfl, HO2.out, HB2.out⟩

theorem own_alloc {w : World} {base : Nat} {v : Value} {bs : List UInt8} (h : OwnB w base v bs) (o : Obj) : OwnB (w.alloc o) base v bs := h.below (below_walk _ _)

theorem byte_of (n : Nat) : (n.toUInt8).toNat = n % 256 := by simp
theorem bits_or_128_all : ∀ a : Fin 256, bits BinOp.or IntKind.u8 (a.val : Int) 128 = ((a.val % 128 + 128 : Nat) : Int) := by decide +kernel
theorem bits_or_128 (m : Nat) : bits BinOp.or IntKind.u8 ((m : Int) % 256) 128 = ((m % 128 + 128 : Nat) : Int) := by
  have h := bits_or_128_all ⟨m % 256, Nat.mod_lt _ (by decide)⟩
  have e1 : (((⟨m % 256, Nat.mod_lt _ (by decide)⟩ : Fin 256).val : Nat) : Int) = (m : Int) % 256 := by simp
  rw [e1] at h
  rw [h]
  simp

/-- what a round of a loop that lays a number down keeps -/
structure Lays (w : World) (base : Nat) (bs : List UInt8) (wr : World) (v : Value) (m : Nat) (cs ds : List UInt8) : Prop where
  own : OwnB wr base v cs
  eq : cs ++ sn m = bs ++ ds
  lt : m < 18446744073709551616
  kept : Below base w wr
  size : base ≤ wr.heap.size

theorem Lays.cs_len {w wr : World} {base m : Nat} {bs cs ds : List UInt8} {v : Value} (h : Lays w base bs wr v m cs ds) (hd : ds.length ≤ 10) : cs.length ≤ bs.length + 9 := by
  have e := congrArg List.length h.eq
  simp at e
  have := sn_length_pos m
  omega

theorem Lays.step {w wr w1 : World} {base m : Nat} {bs cs ds : List UInt8} {v v1 : Value} (h : Lays w base bs wr v m cs ds) (hm : 128 ≤ m) (o : Obj)
    (hown : OwnB w1 base v1 (cs ++ [(m % 128 + 128).toUInt8])) (hg : (wr.alloc o).grownBy w1 v.ownBlock) : Lays w base bs w1 v1 (m / 128) (cs ++ [(m % 128 + 128).toUInt8]) ds := by
  have hk : Below base w (wr.alloc o) := h.kept.trans ((Below.refl _ _).alloc (by exact h.size) _)
  refine ⟨hown, ?_, by have := h.lt; omega, hk.grown hg (by have := h.size; simp; omega) (fun k e => (h.own.lt k e).1), ?_⟩
  · rw [← h.eq, sn_ge hm h.lt]; simp
  · have := hg.size; have := h.size; simp at *; omega

theorem Lays.last {w wr w1 : World} {base m : Nat} {bs cs ds : List UInt8} {v v1 : Value} (h : Lays w base bs wr v m cs ds) (hm : m < 128) (o : Obj)
    (hown : OwnB w1 base v1 (cs ++ [m.toUInt8])) (hg : (wr.alloc o).grownBy w1 v.ownBlock) : OwnB w1 base v1 (bs ++ ds) ∧ Below base w w1 := by
  have hk : Below base w (wr.alloc o) := h.kept.trans ((Below.refl _ _).alloc (by exact h.size) _)
  refine ⟨?_, hk.grown hg (by have := h.size; simp; omega) (fun k e => (h.own.lt k e).1)⟩
  rw [← h.eq, sn_lt hm]
  exact hown

set_option maxRecDepth 100000 in
set_option maxHeartbeats 400000 in
/-- the program's number, laid behind bytes of the call's own -/
theorem addUint_any (base : Nat) (v0 : Value) (bs : List UInt8) (n : Nat) (w : World) (hown : OwnB w base v0 bs) (hb : base ≤ w.heap.size) (hn : n < 18446744073709551616) (hl : bs.length ≤ 70368744177664) :
    Calls Try.prog 62 #[v0, .int .u64 n] w fun e w' => ∃ v, e = .returned v ∧ OwnB w' base v (bs ++ sn n) ∧ Below base w w' := by
  have HL : Hid (Lays w base bs w v0 n bs (sn n)) := ⟨hown, rfl, hn, Below.refl _ _, hb⟩
  have HD : Hid ((sn n).length ≤ 10) := sn_length_le n
  clear hown hb
  generalize sn n = ds at *
  go_enter Try.func62, Try.ntmps62
  go_wp2
  go_loopw [0, 1] (fun v x wr => ∃ (m : Nat) (cs : List UInt8), x = .int .u64 m ∧ Lays w base bs wr v m cs ds) (fun _ x _ => (intOf x).toNat)
  case atStart => exact ⟨n, bs, rfl, HL.out⟩
  case round =>
    obtain ⟨m, cs, rfl, hLr⟩ := hrel
    have HR : Hid _ := hLr
    have hm := hLr.lt
    have hcl := hLr.cs_len HD.out
    clear hLr HL
    by_cases hlt : m < 128
    · go_wp2_with (at_builtin; refine app_src rfl _ _ rfl base _ _ rfl (own_alloc HR.out.own _) _ [m.toUInt8] rfl (src_one _ _ _ ?c0) ?c1 ?c2 ?_)
      case c0 => rw [byte_of]; omega
      case c1 => simp; omega
      case c2 => have := HR.out.size; simp; omega
      intro v' w1 hown hg
      have HF := HR.out.last hlt _ hown hg
      have HF : Hid _ := HF
      clear hown hg HR
      go_wp2
      go_ret
      exact ⟨_, rfl, HF.out.1, HF.out.2⟩
    · obtain ⟨c, HC⟩ : ∃ c : UInt8, Hid (c = (m % 128 + 128).toUInt8) := ⟨_, rfl⟩
      go_wp2_with (at_builtin; refine app_src rfl _ _ rfl base _ _ rfl (own_alloc HR.out.own _) _ [c] rfl (src_one _ _ _ ?d0) ?d1 ?d2 ?_)
      case d0 => rw [HC.out, byte_of]; exact (bits_or_128 m).trans (by omega)
      case d1 => simp; omega
      case d2 => have := HR.out.size; simp; omega
      intro v' w1 hown hg
      have HF := HR.out.step (by omega) _ (HC.out ▸ hown) hg
      have HF : Hid _ := HF
      clear hown hg HR
      go_wp2
      go_roundw
      case rel => exact ⟨m / 128, _, by go_num, HF.out⟩
      case measure => simp [intOf]; omega

end Go.Proofs.Ytgoalfiinfkldaa

/- The document's Uint, the program's Size, PutUint, folded, PutInt, PutBool; the document's Int and Bool. -/
namespace Go.Proofs.Ytgoalfiinfkldaa
open Go.RowKit

set_option maxRecDepth 100000 in
set_option maxHeartbeats 400000 in
/-- the document's number -/
theorem refUint_any (n : Nat) (w : World) (hn : n < 18446744073709551616) :
    Calls Try.prog 26 #[.int .u64 n] w fun e w' => ∃ v, e = .returned v ∧ OwnB w' w.heap.size v (sn n) ∧ Below w.heap.size w w' := by
  have HL : Hid (Lays w w.heap.size [] w (.slice none 0 0) n [] (sn n)) := ⟨OwnB.nil _ _, rfl, hn, Below.refl _ _, Nat.le_refl _⟩
  have HD : Hid ((sn n).length ≤ 10) := sn_length_le n
  generalize sn n = ds at *
  go_enter Try.func26, Try.ntmps26
  go_wp2
  go_loopw [0, 3] (fun x v wr => ∃ (m : Nat) (cs : List UInt8), x = .int .u64 m ∧ Lays w w.heap.size [] wr v m cs ds) (fun x _ _ => (intOf x).toNat)
  case atStart => exact ⟨n, [], rfl, HL.out⟩
  case round =>
    obtain ⟨m, cs, rfl, hLr⟩ := hrel
    have HR : Hid _ := hLr
    have hm := hLr.lt
    have hcl := hLr.cs_len HD.out
    simp at hcl
    clear hLr HL
    by_cases hlt : m < 128
    · go_wp2_with (at_builtin; refine app_src rfl _ _ rfl w.heap.size _ _ rfl (own_alloc HR.out.own _) _ [m.toUInt8] rfl (src_one _ _ _ ?c0) ?c1 ?c2 ?_)
      case c0 => rw [byte_of]; omega
      case c1 => simp; omega
      case c2 => have := HR.out.size; simp; omega
      intro v' w1 hown hg
      have HF := HR.out.last hlt _ hown hg
      have HF : Hid _ := HF
      clear hown hg HR
      go_wp2
      go_ret
      exact ⟨_, rfl, by simpa using HF.out.1, HF.out.2⟩
    · obtain ⟨c, HC⟩ : ∃ c : UInt8, Hid (c = (m % 128 + 128).toUInt8) := ⟨_, rfl⟩
      go_wp2_with (at_builtin; refine app_src rfl _ _ rfl w.heap.size _ _ rfl (own_alloc HR.out.own _) _ [c] rfl (src_one _ _ _ ?d0) ?d1 ?d2 ?_)
      case d0 => rw [HC.out, byte_of]; omega
      case d1 => simp; omega
      case d2 => have := HR.out.size; simp; omega
      intro v' w1 hown hg
      have HF := HR.out.step (by omega) _ (HC.out ▸ hown) hg
      have HF : Hid _ := HF
      clear hown hg HR
      go_wp2
      go_roundw
      case rel => exact ⟨m / 128, _, by go_num, HF.out⟩
      case measure => simp [intOf]; omega

theorem bv_u64 (a : Nat) (ha : a < 18446744073709551616) : (BitVec.ofInt 64 (a : Int)).toNat = a := by
  rw [BitVec.ofInt_natCast, BitVec.toNat_ofNat]
  exact Nat.mod_eq_of_lt ha
theorem bits_or_u64 (a b : Nat) (ha : a < 18446744073709551616) (hb : b < 18446744073709551616) : bits BinOp.or IntKind.u64 (a : Int) (b : Int) = ((a ||| b : Nat) : Int) := by
  have hx : (a ||| b) < 18446744073709551616 := Nat.or_lt_two_pow (n := 64) ha hb
  show IntKind.u64.wrap ((BitVec.ofInt 64 (a : Int) ||| BitVec.ofInt 64 (b : Int)).toNat : Int) = _
  rw [BitVec.toNat_or, bv_u64 a ha, bv_u64 b hb, IntKind.wrap_u64]
  omega
theorem bits_or_one (n : Nat) (hn : n < 18446744073709551616) : bits BinOp.or IntKind.u64 (n : Int) 1 = ((n ||| 1 : Nat) : Int) := bits_or_u64 n 1 hn (by decide)

set_option maxHeartbeats 400000 in
theorem size_any (n : Nat) (w : World) (hn : n < 18446744073709551616) :
    Calls Try.prog 28 #[.int .u64 n] w fun e w' => e = .returned (.int .i64 (sn n).length) ∧ w' = w := by
  have hor : (n ||| 1) < 18446744073709551616 := Nat.or_lt_two_pow (n := 64) hn (by decide)
  have HB : Hid _ := bits_or_one n hn
  have HS : Hid _ := size_eq n hn
  have hl := Lib.bitLen_le (n ||| 1) 64 (by omega) hor
  go_enter Try.func28, Try.ntmps28
  go_wp2_with fail
  rw [HB.out]
  refine (len64_any _ _ (by omega) (by omega)).mono ?_
  rintro e w' ⟨rfl, rfl⟩
  rw [Int.toNat_natCast]
  go_wp2
  go_ret
  refine ⟨ret_i64 ?_, rfl⟩
  have := HS.out
  omega

set_option maxHeartbeats 400000 in
theorem putUint_any (v0 : Value) (bs : List UInt8) (n : Nat) (w : World) (hs : Src w v0 bs) (hn : n < 18446744073709551616) (hl : bs.length ≤ 1099511627776) :
    Calls Try.prog 42 #[v0, .int .u64 n] w fun e w' => ∃ v, e = .returned v ∧ OwnB w' w.heap.size v (bs ++ sn n) ∧ Below w.heap.size w w' := by
  have HS : Hid (Src w v0 bs) := hs
  have h10 := sn_length_le n
  clear hs
  go_enter Try.func42, Try.ntmps42
  go_wp2_with fail
  refine (size_any _ _ hn).mono ?_
  rintro e w' ⟨rfl, rfl⟩
  go_wp2_with fail
  refine (withRoom_any _ _ _ _ HS.out (by omega)).mono ?_
  rintro e w1 ⟨v1, rfl, ho, hb⟩
  have HO : Hid _ := ho
  have HB : Hid _ := hb
  clear ho hb
  go_wp2_with fail
  refine (addUint_any _ _ _ _ _ HO.out HB.out.size hn (by omega)).mono ?_
  rintro e w2 ⟨v2, rfl, ho, hb⟩
  go_wp2
  go_ret
  exact ⟨_, rfl, ho, HB.out.trans hb⟩

theorem even_or_one (k : Nat) : (2 * k ||| 1) = 2 * k + 1 := by
  have h1 : (2 * k ||| 1) / 2 = k := by
    have := Nat.or_div_two (a := 2 * k) (b := 1)
    simpa using this
  have h2 : (2 * k ||| 1) % 2 = 1 := Nat.or_mod_two_eq_one.2 (Or.inr rfl)
  omega
theorem bits_xor_max (a : Nat) (ha : a < 18446744073709551616) : bits BinOp.xor IntKind.u64 IntKind.u64.max (a : Int) = ((18446744073709551615 - a : Nat) : Int) := by
  have hx : BitVec.ofInt 64 IntKind.u64.max = BitVec.allOnes 64 := by decide +kernel
  show IntKind.u64.wrap ((BitVec.ofInt 64 IntKind.u64.max ^^^ BitVec.ofInt 64 (a : Int)).toNat : Int) = _
  rw [hx, BitVec.allOnes_xor, BitVec.toNat_not, bv_u64 a ha, IntKind.wrap_u64]
  omega
theorem folded_neg (n : Int) (h0 : -9223372036854775808 ≤ n) (hneg : n < 0) :
    bits BinOp.or IntKind.u64 (IntKind.u64.wrap (bits BinOp.xor IntKind.u64 IntKind.u64.max (IntKind.u64.wrap n) * 2)) 1 = (zz n : Int) := by
  obtain ⟨k, hk⟩ : ∃ k : Nat, n = -(k : Int) - 1 := ⟨(-n - 1).toNat, by omega⟩
  have e1 : IntKind.u64.wrap n = ((18446744073709551615 - k : Nat) : Int) := by rw [IntKind.wrap_u64]; omega
  have e2 : IntKind.u64.wrap (((18446744073709551615 - (18446744073709551615 - k) : Nat) : Int) * 2) = ((2 * k : Nat) : Int) := by rw [IntKind.wrap_u64]; omega
  rw [e1, bits_xor_max _ (by omega), e2, bits_or_one _ (by omega), even_or_one]
  unfold zz
  rw [if_pos hneg]
  omega
theorem zz_pos {n : Int} (h : ¬ n < 0) : (zz n : Int) = 2 * n := by unfold zz; rw [if_neg h]; omega
theorem zz_neg {n : Int} (h : n < 0) : (zz n : Int) = 2 * -(n + 1) + 1 := by unfold zz; rw [if_pos h]; omega
theorem zz_lt {n : Int} (h0 : -9223372036854775808 ≤ n) (h1 : n ≤ 9223372036854775807) : zz n < 18446744073709551616 := by unfold zz; split <;> omega

theorem ret_u64 {a b : Int} (h : a = b) : Ending.returned (.int .u64 a) = .returned (.int .u64 b) := by rw [h]

end Go.Proofs.Ytgoalfiinfkldaa

/- Texts and lists: sizeOfTexts, addTexts, PutText, PutList, and the document's Text, Texts, List. -/
namespace Go.Proofs.Ytgoalfiinfkldaa
open Go.RowKit


/-- v is a slice that holds the texts ss, wherever they lie -/
def WStrs (w : World) (v : Value) (ss : List ByteArray) : Prop :=
  (∃ ao c, v = .slice ao 0 c ∧ ss = []) ∨ ∃ g o c, v = .slice (some ⟨g, o, none⟩) ss.length c ∧ g < w.heap.size ∧ ∀ j, j < ss.length → w.cell? ⟨g, o + j, none⟩ = some (.string (ss.getD j ByteArray.empty))
theorem WStrs.below {w w' : World} {v : Value} {ss : List ByteArray} (h : WStrs w v ss) (hb : Below w.heap.size w w') : WStrs w' v ss := by
  rcases h with h | ⟨g, o, c, hv, hlt, hc⟩
  · exact Or.inl h
  · exact Or.inr ⟨g, o, c, hv, Nat.lt_of_lt_of_le hlt hb.size, fun j hj => by rw [hb.cell (p := ⟨g, o + j, none⟩) hlt]; exact hc j hj⟩
theorem WStrs.shape {w : World} {v : Value} {ss : List ByteArray} (h : WStrs w v ss) : ∃ ao c, v = .slice ao ss.length c := by
  rcases h with ⟨ao, c, hv, rfl⟩ | ⟨g, o, c, hv, _⟩
  · exact ⟨ao, c, hv⟩
  · exact ⟨_, _, hv⟩

theorem take_snoc {α : Type} (l : List α) (d : α) (k : Nat) (h : k < l.length) : l.take (k + 1) = l.take k ++ [l.getD k d] := by
  rw [List.take_succ_eq_append_getElem h]
  simp [List.getD_eq_getElem?_getD, List.getElem?_eq_getElem h]
theorem txs_snoc (ss : List ByteArray) (k : Nat) (h : k < ss.length) : txs (ss.take (k + 1)) = txs (ss.take k) ++ tx (ss.getD k ByteArray.empty) := by
  rw [take_snoc ss ByteArray.empty k h, txs_append, txs_one]
theorem txs_take_le (ss : List ByteArray) (k : Nat) : (txs (ss.take k)).length ≤ (txs ss).length := by
  have e : txs ss = txs (ss.take k) ++ txs (ss.drop k) := by rw [← txs_append, List.take_append_drop]
  rw [e]; simp
theorem txs_count (ss : List ByteArray) : ss.length ≤ (txs ss).length := by
  induction ss with
  | nil => simp
  | cons s r ih =>
    have : (txs (s :: r)).length = (tx s).length + (txs r).length := by simp [txs]
    have h1 := tx_length s
    have h2 := sn_length_pos s.size
    simp only [List.length_cons]
    omega

/-- the round's text: how long it is, and what is there behind it -/
theorem txs_step (ss : List ByteArray) (k : Nat) (h : k < ss.length) :
    (txs (ss.take (k + 1))).length = (txs (ss.take k)).length + ((sn (ss.getD k ByteArray.empty).size).length + (ss.getD k ByteArray.empty).size) := by
  rw [txs_snoc ss k h, List.length_append, tx_length]

set_option maxHeartbeats 400000 in
theorem sizeOfTexts_any (v : Value) (ss : List ByteArray) (w : World) (hs : WStrs w v ss) (hB : (txs ss).length ≤ 1099511627776) :
    Calls Try.prog 108 #[v] w fun e w' => e = .returned (.int .i64 (txs ss).length) ∧ w' = w := by
  have hcnt := txs_count ss
  rcases hs with ⟨ao, c, rfl, rfl⟩ | ⟨g, o, c, rfl, hlt, hc⟩
  · go_enter Try.func108, Try.ntmps108
    go_wp2
    go_loop [3, 8] (fun s i => s = .int .i64 0 ∧ i = .int .i64 0) (fun _ _ => 0)
    case atStart => exact ⟨rfl, rfl⟩
    case round =>
      obtain ⟨rfl, rfl⟩ := hrel
      go_wp2
      go_ret
      exact ⟨rfl, rfl⟩
  · have HC : Hid (∀ j, j < ss.length → w.cell? ⟨g, o + j, none⟩ = some (.string (ss.getD j ByteArray.empty))) := hc
    clear hc
    go_enter Try.func108, Try.ntmps108
    go_wp2
    go_loop [3, 8] (fun s i => ∃ k : Nat, k ≤ ss.length ∧ s = .int .i64 (txs (ss.take k)).length ∧ i = .int .i64 k) (fun _ i => ss.length - (intOf i).toNat)
    case atStart => exact ⟨0, Nat.zero_le _, by simp [txs], rfl⟩
    case round =>
      obtain ⟨k, hk, rfl, rfl⟩ := hrel
      by_cases hkn : k < ss.length
      · have hcell := HC.out k hkn
        have HE := hid (txs_step ss k hkn)
        have hle := txs_take_le ss (k + 1)
        have h3 := txs_take_le ss k
        have hst := txs_step ss k hkn
        have h10 := sn_length_le (ss.getD k ByteArray.empty).size
        generalize ss.getD k ByteArray.empty = s at *
        have hs1 : s.size ≤ 1099511627776 := by omega
        have hT : (txs (ss.take k)).length + ((sn s.size).length + s.size) ≤ 1099511627776 := by omega
        clear hst hle
        generalize (txs (ss.take k)).length = T0 at *
        go_wp2_with (go_at_call 28; refine (size_any _ _ (by omega)).mono ?_; rintro e w' ⟨rfl, rfl⟩)
        go_round
        case rel => exact ⟨k + 1, by omega, by rw [HE.out]; go_num, by go_num⟩
        case measure => simp [intOf]; omega
      · have HE : Hid (ss.take k = ss) := List.take_of_length_le (by omega)
        go_wp2
        go_ret
        exact ⟨ret_i64 (by rw [HE.out]), rfl⟩

set_option maxRecDepth 100000 in
set_option maxHeartbeats 400000 in
theorem addTexts_any (base : Nat) (v0 : Value) (bs : List UInt8) (v : Value) (ss : List ByteArray) (w : World) (hown : OwnB w base v0 bs) (hb : base ≤ w.heap.size)
    (hs : WStrs w v ss) (hold : ∀ ao c, v = .slice ao ss.length c → ss ≠ [] → ∀ a, ao = some a → a.block < base) (hl : bs.length ≤ 1099511627776) (hB : (txs ss).length ≤ 1099511627776) :
    Calls Try.prog 107 #[v0, v] w fun e w' => ∃ v', e = .returned v' ∧ OwnB w' base v' (bs ++ txs ss) ∧ Below base w w' := by
  have hcnt := txs_count ss
  have HO : Hid (OwnB w base v0 bs) := hown
  clear hown
  rcases hs with ⟨ao, c, rfl, rfl⟩ | ⟨g, o, c, rfl, hlt, hc⟩
  · clear hold
    go_enter Try.func107, Try.ntmps107
    go_wp2
    go_loop [0, 9] (fun x i => x = v0 ∧ i = .int .i64 0) (fun _ _ => 0)
    case atStart => exact ⟨rfl, rfl⟩
    case round =>
      obtain ⟨rfl, rfl⟩ := hrel
      go_wp2_with fail
      go_ret
      exact ⟨_, rfl, by simpa [txs] using HO.out, Below.refl _ _⟩
  · have HC : Hid (∀ j, j < ss.length → w.cell? ⟨g, o + j, none⟩ = some (.string (ss.getD j ByteArray.empty))) := hc
    have HOLD : Hid (0 < ss.length → g < base) := fun h => hold _ _ rfl (by intro e; rw [e] at h; simp at h) _ rfl
    clear hc hold
    go_enter Try.func107, Try.ntmps107
    go_wp2
    go_loopw [0, 9] (fun x i wr => ∃ k : Nat, k ≤ ss.length ∧ i = .int .i64 k ∧ OwnB wr base x (bs ++ txs (ss.take k)) ∧ Below base w wr ∧ base ≤ wr.heap.size) (fun _ i _ => ss.length - (intOf i).toNat)
    case atStart => exact ⟨0, Nat.zero_le _, rfl, by simpa [txs] using HO.out, Below.refl _ _, hb⟩
    case round =>
      obtain ⟨k, hk, rfl, ho, hbl, hbs⟩ := hrel
      have HOR := hid (ho)
      have HBL := hid (hbl)
      clear ho hbl
      by_cases hkn : k < ss.length
      · have hcell : wr.cell? ⟨g, o + k, none⟩ = some (.string (ss.getD k ByteArray.empty)) := (HBL.out.cell (p := ⟨g, o + k, none⟩) (HOLD.out (by omega))).trans (HC.out k hkn)
        have HE := hid (txs_snoc ss k hkn)
        have h3 := txs_take_le ss k
        have h4 := txs_take_le ss (k + 1)
        rw [txs_step ss k hkn] at h4
        generalize ss.getD k ByteArray.empty = s at *
        have hs1 : s.size ≤ 1099511627776 := by omega
        clear h4
        go_wp2_with fail
        refine (addUint_any base _ _ s.size _ HOR.out hbs (by omega) (by simp; omega)).mono ?_
        rintro e w1 ⟨v1, rfl, ho1, hb1⟩
        have HO1 := hid (ho1)
        have HB1 := hid (hb1)
        have hbs1 : base ≤ w1.heap.size := Nat.le_trans hbs hb1.size
        have h10 := sn_length_le s.size
        clear ho1 hb1 hcell
        go_wp2_with (at_builtin; refine app_str rfl _ _ rfl base _ _ rfl HO1.out s rfl ?c1 hbs1 ?_)
        case c1 => simp; omega
        intro v2 w2 ho2 hg2
        have HO2 : Hid (OwnB w2 base v2 (bs ++ txs (ss.take (k + 1)))) := (by rw [HE.out]; unfold tx; simpa using ho2 : OwnB w2 base v2 (bs ++ txs (ss.take (k + 1))))
        have HB2 : Hid (Below base w w2 ∧ base ≤ w2.heap.size) := ⟨(HBL.out.trans HB1.out).grown hg2 hbs1 (fun j e => (HO1.out.lt j e).1), Nat.le_trans hbs1 hg2.size⟩
        clear ho2 hg2 h10 h3
        go_wp2
        go_roundw
        case rel => exact ⟨k + 1, by omega, by go_num, HO2.out, HB2.out.1, HB2.out.2⟩
        case measure => simp [intOf]; omega
      · have HE : Hid (ss.take k = ss) := List.take_of_length_le (by omega)
        go_wp2_with fail
        go_ret
        exact ⟨_, rfl, HE.out ▸ HOR.out, HBL.out⟩

theorem WStrs.old {w : World} {v : Value} {ss : List ByteArray} (h : WStrs w v ss) : ∀ ao c, v = .slice ao ss.length c → ss ≠ [] → ∀ a, ao = some a → a.block < w.heap.size := by
  intro ao c hv hne a ha
  rcases h with ⟨_, _, _, rfl⟩ | ⟨g, o, c', hv', hlt, _⟩
  · exact absurd rfl hne
  · rw [hv'] at hv
    simp only [Value.slice.injEq] at hv
    rw [← hv.1, Option.some.injEq] at ha
    rw [← ha]
    exact hlt

set_option maxHeartbeats 400000 in
theorem putText_any (v0 : Value) (bs : List UInt8) (v : Value) (ss : List ByteArray) (w : World) (h0 : Src w v0 bs) (hs : WStrs w v ss) (hl : bs.length ≤ 1099511627776) (hB : (txs ss).length ≤ 1099511627776) :
    Calls Try.prog 102 #[v0, v] w fun e w' => ∃ v', e = .returned v' ∧ OwnB w' w.heap.size v' (bs ++ txs ss) ∧ Below w.heap.size w w' := by
  have HS := hid (hs)
  have H0 := hid (h0)
  clear hs h0
  go_enter Try.func102, Try.ntmps102
  go_wp2_with fail
  refine (sizeOfTexts_any _ _ _ HS.out hB).mono ?_
  rintro e w' ⟨rfl, rfl⟩
  go_wp2_with fail
  refine (withRoom_any _ _ _ _ H0.out (by omega)).mono ?_
  rintro e w1 ⟨v1, rfl, ho, hb⟩
  have HO := hid (ho)
  have HB := hid (hb)
  clear ho hb
  go_wp2_with fail
  refine (addTexts_any _ _ _ _ _ _ HO.out HB.out.size (HS.out.below HB.out) HS.out.old hl hB).mono ?_
  rintro e w2 ⟨v2, rfl, ho, hb⟩
  go_wp2
  go_ret
  exact ⟨_, rfl, ho, HB.out.trans hb⟩

set_option maxHeartbeats 400000 in
theorem putList_any (v0 : Value) (bs : List UInt8) (v : Value) (ss : List ByteArray) (w : World) (h0 : Src w v0 bs) (hs : WStrs w v ss) (hl : bs.length ≤ 549755813888) (hB : (txs ss).length ≤ 549755813888) :
    Calls Try.prog 101 #[v0, v] w fun e w' => ∃ v', e = .returned v' ∧ OwnB w' w.heap.size v' (bs ++ ls ss) ∧ Below w.heap.size w w' := by
  have HS := hid (hs)
  have H0 := hid (h0)
  have hcnt := txs_count ss
  have h10 := sn_length_le ss.length
  obtain ⟨ao, c, rfl⟩ := hs.shape
  clear hs h0
  go_enter Try.func101, Try.ntmps101
  go_wp2_with fail
  refine (size_any _ _ (by omega)).mono ?_
  rintro e w' ⟨rfl, rfl⟩
  go_wp2_with fail
  refine (sizeOfTexts_any _ _ _ HS.out (by omega)).mono ?_
  rintro e w' ⟨rfl, rfl⟩
  go_wp2_with fail
  have e1 : ((sn ss.length).length : Int) + ((txs ss).length : Int) = (((sn ss.length).length + (txs ss).length : Nat) : Int) := by omega
  rw [e1]
  refine (withRoom_any _ _ _ _ H0.out (by omega)).mono ?_
  rintro e w1 ⟨v1, rfl, ho, hb⟩
  have HO := hid (ho)
  have HB := hid (hb)
  clear ho hb e1
  go_wp2_with fail
  refine (addUint_any _ _ _ ss.length _ HO.out HB.out.size (by omega) (by omega)).mono ?_
  rintro e w2 ⟨v2, rfl, ho2, hb2⟩
  have HO2 := hid (ho2)
  have HB2 := hid (HB.out.trans hb2)
  clear ho2 hb2
  go_wp2_with fail
  refine (addTexts_any _ _ _ _ _ _ HO2.out HB2.out.size (HS.out.below HB2.out) HS.out.old (by simp; omega) (by omega)).mono ?_
  rintro e w3 ⟨v3, rfl, ho, hb⟩
  go_wp2
  go_ret
  exact ⟨_, rfl, by unfold ls; simpa using ho, HB2.out.trans hb⟩

set_option maxHeartbeats 400000 in
theorem refText_any (s : ByteArray) (w : World) (hs : s.size ≤ 1099511627776) :
    Calls Try.prog 47 #[.string s] w fun e w' => ∃ v, e = .returned v ∧ OwnB w' w.heap.size v (tx s) ∧ Below w.heap.size w w' := by
  have h10 := sn_length_le s.size
  go_enter Try.func47, Try.ntmps47
  go_wp2_with fail
  refine (refUint_any s.size _ (by omega)).mono ?_
  rintro e w1 ⟨v1, rfl, ho, hb⟩
  have HO := hid (ho)
  have HB := hid (hb)
  clear ho hb
  go_wp2_with (at_builtin; refine app_str rfl _ _ rfl w.heap.size _ _ rfl HO.out s rfl ?c1 HB.out.size ?_)
  case c1 => omega
  intro v2 w2 ho2 hg2
  go_wp2
  go_ret
  exact ⟨_, rfl, ho2, HB.out.grown hg2 HB.out.size (fun j e => (HO.out.lt j e).1)⟩

set_option maxRecDepth 100000 in
set_option maxHeartbeats 400000 in
theorem refTexts_any (v : Value) (ss : List ByteArray) (w : World) (hs : WStrs w v ss) (hB : (txs ss).length ≤ 1099511627776) :
    Calls Try.prog 66 #[v] w fun e w' => ∃ v', e = .returned v' ∧ OwnB w' w.heap.size v' (txs ss) ∧ Below w.heap.size w w' := by
  have hcnt := txs_count ss
  rcases hs with ⟨ao, c, rfl, rfl⟩ | ⟨g, o, c, rfl, hlt, hc⟩
  · go_enter Try.func66, Try.ntmps66
    go_wp2
    go_loop [3, 4] (fun x i => x = .slice none 0 0 ∧ i = .int .i64 0) (fun _ _ => 0)
    case atStart => exact ⟨rfl, rfl⟩
    case round =>
      obtain ⟨rfl, rfl⟩ := hrel
      go_wp2_with fail
      go_ret
      exact ⟨_, rfl, OwnB.nil _ _, Below.refl _ _⟩
  · have HC : Hid (∀ j, j < ss.length → w.cell? ⟨g, o + j, none⟩ = some (.string (ss.getD j ByteArray.empty))) := hc
    clear hc
    go_enter Try.func66, Try.ntmps66
    go_wp2
    go_loopw [3, 4] (fun x i wr => ∃ k : Nat, k ≤ ss.length ∧ i = .int .i64 k ∧ OwnB wr w.heap.size x (txs (ss.take k)) ∧ Below w.heap.size w wr) (fun _ i _ => ss.length - (intOf i).toNat)
    case atStart => exact ⟨0, Nat.zero_le _, rfl, OwnB.nil _ _, Below.refl _ _⟩
    case round =>
      obtain ⟨k, hk, rfl, ho, hbl⟩ := hrel
      have HOR := hid (ho)
      have HBL := hid (hbl)
      have hbs := hbl.size
      clear ho hbl
      by_cases hkn : k < ss.length
      · have hcell : wr.cell? ⟨g, o + k, none⟩ = some (.string (ss.getD k ByteArray.empty)) := (HBL.out.cell (p := ⟨g, o + k, none⟩) hlt).trans (HC.out k hkn)
        have HE := hid (txs_snoc ss k hkn)
        have h3 := txs_take_le ss k
        have h4 := txs_take_le ss (k + 1)
        rw [txs_step ss k hkn] at h4
        generalize ss.getD k ByteArray.empty = s at *
        have hs1 : s.size ≤ 1099511627776 := by omega
        have ht : (tx s).length ≤ 1099511627776 := by rw [tx_length]; omega
        clear h4
        go_wp2_with fail
        refine (refText_any s _ hs1).mono ?_
        rintro e w1 ⟨v1, rfl, ho1, hb1⟩
        have HO1 := hid (ho1)
        have HB1 := hid (hb1)
        have hbs1 : w.heap.size ≤ w1.heap.size := Nat.le_trans hbs hb1.size
        clear ho1 hb1 hcell
        go_wp2_with (at_builtin; refine app_src rfl _ _ rfl w.heap.size _ _ rfl (HOR.out.below HB1.out) _ _ rfl (HO1.out.src (by omega)) ?c1 hbs1 ?_)
        case c1 => omega
        intro v2 w2 ho2 hg2
        have HO2 : Hid (OwnB w2 w.heap.size v2 (txs (ss.take (k + 1)))) := (by rw [HE.out]; exact ho2 : OwnB w2 w.heap.size v2 (txs (ss.take (k + 1))))
        have HB2 : Hid (Below w.heap.size w w2) := (HBL.out.trans (HB1.out.mono hbs)).grown hg2 hbs1 (fun j e => (HOR.out.lt j e).1)
        clear ho2 hg2 h3
        go_wp2
        go_roundw
        case rel => exact ⟨k + 1, by omega, by go_num, HO2.out, HB2.out⟩
        case measure => simp [intOf]; omega
      · have HE : Hid (ss.take k = ss) := List.take_of_length_le (by omega)
        go_wp2_with fail
        go_ret
        exact ⟨_, rfl, HE.out ▸ HOR.out, HBL.out⟩

set_option maxHeartbeats 400000 in
theorem refList_any (v : Value) (ss : List ByteArray) (w : World) (hs : WStrs w v ss) (hB : (txs ss).length ≤ 549755813888) :
    Calls Try.prog 46 #[v] w fun e w' => ∃ v', e = .returned v' ∧ OwnB w' w.heap.size v' (ls ss) ∧ Below w.heap.size w w' := by
  have HS := hid (hs)
  have hcnt := txs_count ss
  have h10 := sn_length_le ss.length
  obtain ⟨ao, c, rfl⟩ := hs.shape
  clear hs
  go_enter Try.func46, Try.ntmps46
  go_wp2_with fail
  refine (refUint_any ss.length _ (by omega)).mono ?_
  rintro e w1 ⟨v1, rfl, ho1, hb1⟩
  have HO1 := hid (ho1)
  have HB1 := hid (hb1)
  clear ho1 hb1
  go_wp2_with fail
  refine (refTexts_any _ _ _ (HS.out.below HB1.out) (by omega)).mono ?_
  rintro e w2 ⟨v2, rfl, ho2, hb2⟩
  have HO2 := hid (ho2)
  have HB2 := hid (hb2)
  have hsz : w.heap.size ≤ w2.heap.size := Nat.le_trans HB1.out.size hb2.size
  clear ho2 hb2
  go_wp2_with (at_builtin; refine app_src rfl _ _ rfl w.heap.size _ _ rfl (HO1.out.below HB2.out) _ _ rfl (HO2.out.src (by omega)) ?c1 hsz ?_)
  case c1 => omega
  intro v3 w3 ho3 hg3
  go_wp2
  go_ret
  exact ⟨_, rfl, ho3, (HB1.out.trans (HB2.out.mono HB1.out.size)).grown hg3 hsz (fun j e => (HO1.out.lt j e).1)⟩

end Go.Proofs.Ytgoalfiinfkldaa

/- lay and told of the statements: what the program lays behind bytes, and what the document says, are the same bytes. -/
namespace Go.Proofs.Ytgoalfiinfkldaa
open Go.RowKit

/-- which of five -/
def five (K : Int) : Int := (wrap64 (K.tmod 5 + 5)).tmod 5
/-- the bytes of one thing laid down -/
def putB (K : Int) (U : Nat) (I : Int) (ss : List ByteArray) : List UInt8 :=
  if (five K == 0) = true then sn U else if (five K == 1) = true then sn (zz I) else if (five K == 2) = true then [if (((U : Int) % 2) == 1) = true then 1 else 0] else if (five K == 3) = true then txs ss else ls ss

theorem putB_len (K : Int) (U : Nat) (I : Int) (ss : List ByteArray) : (putB K U I ss).length ≤ (txs ss).length + 10 := by
  have h1 := sn_length_le U
  have h2 := sn_length_le (zz I)
  have h3 := sn_length_le ss.length
  unfold putB ls
  split
  · omega
  · split
    · omega
    · split
      · simp
      · split
        · omega
        · simp; omega

/-- what is asked of one thing laid down -/
structure PutOk (w : World) (U : Nat) (I : Int) (tv : Value) (ss : List ByteArray) : Prop where
  u : U < 18446744073709551616
  i0 : -9223372036854775808 ≤ I
  i1 : I ≤ 9223372036854775807
  strs : WStrs w tv ss
  len : (txs ss).length ≤ 549755813888

theorem PutOk.below {w w' : World} {U : Nat} {I : Int} {tv : Value} {ss : List ByteArray} (h : PutOk w U I tv ss) (hb : Below w.heap.size w w') : PutOk w' U I tv ss := ⟨h.u, h.i0, h.i1, h.strs.below hb, h.len⟩

theorem putB0 {K : Int} {U : Nat} {I : Int} {ss : List ByteArray}  (h0 : ((wrap64 (K.tmod 5 + 5)).tmod 5 == 0) = true) : putB K U I ss = sn U := by
  unfold putB five
  rw [if_pos h0]
theorem putB1 {K : Int} {U : Nat} {I : Int} {ss : List ByteArray} (h0 : ((wrap64 (K.tmod 5 + 5)).tmod 5 == 0) = false) (h1 : ((wrap64 (K.tmod 5 + 5)).tmod 5 == 1) = true) : putB K U I ss = sn (zz I) := by
  unfold putB five
  rw [if_neg (by rw [h0]; decide), if_pos h1]
theorem putB2 {K : Int} {U : Nat} {I : Int} {ss : List ByteArray} (h0 : ((wrap64 (K.tmod 5 + 5)).tmod 5 == 0) = false) (h1 : ((wrap64 (K.tmod 5 + 5)).tmod 5 == 1) = false) (h2 : ((wrap64 (K.tmod 5 + 5)).tmod 5 == 2) = true) : putB K U I ss = [if (((U : Int) % 2) == 1) = true then 1 else 0] := by
  unfold putB five
  rw [if_neg (by rw [h0]; decide), if_neg (by rw [h1]; decide), if_pos h2]
theorem putB3 {K : Int} {U : Nat} {I : Int} {ss : List ByteArray} (h0 : ((wrap64 (K.tmod 5 + 5)).tmod 5 == 0) = false) (h1 : ((wrap64 (K.tmod 5 + 5)).tmod 5 == 1) = false) (h2 : ((wrap64 (K.tmod 5 + 5)).tmod 5 == 2) = false) (h3 : ((wrap64 (K.tmod 5 + 5)).tmod 5 == 3) = true) : putB K U I ss = txs ss := by
  unfold putB five
  rw [if_neg (by rw [h0]; decide), if_neg (by rw [h1]; decide), if_neg (by rw [h2]; decide), if_pos h3]
theorem putB4 {K : Int} {U : Nat} {I : Int} {ss : List ByteArray} (h0 : ((wrap64 (K.tmod 5 + 5)).tmod 5 == 0) = false) (h1 : ((wrap64 (K.tmod 5 + 5)).tmod 5 == 1) = false) (h2 : ((wrap64 (K.tmod 5 + 5)).tmod 5 == 2) = false) (h3 : ((wrap64 (K.tmod 5 + 5)).tmod 5 == 3) = false) : putB K U I ss = ls ss := by
  unfold putB five
  rw [if_neg (by rw [h0]; decide), if_neg (by rw [h1]; decide), if_neg (by rw [h2]; decide), if_neg (by rw [h3]; decide)]

end Go.Proofs.Ytgoalfiinfkldaa

/- The law WirePuts, walked: it answers true, and only makes memory. -/
namespace Go.Proofs.Ytgoalfiinfkldaa
open Go.RowKit

/-- one thing laid down, as it is read -/
structure PutD where
  k : Int
  u : Nat
  i : Int
  tv : Value
  ss : List ByteArray
def PutD.bytes (d : PutD) : List UInt8 := putB d.k d.u d.i d.ss
def allB (ps : List PutD) : List UInt8 := ps.flatMap PutD.bytes
/-- v is a slice that holds the things ps, wherever they lie -/
def PutsAt (w : World) (v : Value) (ps : List PutD) : Prop :=
  (∃ ao c, v = .slice ao 0 c ∧ ps = []) ∨ ∃ g o c, v = .slice (some ⟨g, o, none⟩) ps.length c ∧ g < w.heap.size ∧ ∀ j d, ps[j]? = some d →
    w.cell? ⟨g, o + j * 4, none⟩ = some (.int .i64 d.k) ∧ w.cell? ⟨g, o + j * 4 + 1, none⟩ = some (.int .u64 d.u) ∧ w.cell? ⟨g, o + j * 4 + 2, none⟩ = some (.int .i64 d.i) ∧ w.cell? ⟨g, o + j * 4 + 3, none⟩ = some d.tv ∧ PutOk w d.u d.i d.tv d.ss

theorem allB_snoc {ps : List PutD} {k : Nat} {d : PutD} (h : ps[k]? = some d) : allB (ps.take (k + 1)) = allB (ps.take k) ++ d.bytes := by
  obtain ⟨hk, he⟩ := List.getElem?_eq_some_iff.1 h
  rw [List.take_succ_eq_append_getElem hk, he]
  simp [allB]
theorem allB_append (a b : List PutD) : allB (a ++ b) = allB a ++ allB b := by simp [allB]
theorem allB_take_le (ps : List PutD) (k : Nat) : (allB (ps.take k)).length ≤ (allB ps).length := by
  have e := allB_append (ps.take k) (ps.drop k)
  rw [List.take_append_drop] at e
  rw [e]; simp

theorem OwnB.far {w w' : World} {base : Nat} {v : Value} {bs : List UInt8} {row : Option Nat} (h : OwnB w base v bs) (hg : w.grownBy w' row) (hr : ∀ j, row = some j → j < base) : OwnB w' base v bs := by
  refine h.kept hg ?_
  cases e : v.ownBlock with
  | none => exact Or.inl rfl
  | some j =>
    refine Or.inr (fun e2 => ?_)
    have h1 := (h.lt j e).1
    have h2 := hr j e2.symm
    omega

theorem refUint_len (n : Nat) (w : World) (hn : n < 18446744073709551616) :
    Calls Try.prog 26 #[.int .u64 n] w fun e w' => ∃ ao c, e = .returned (.slice ao (sn n).length c) ∧ Below w.heap.size w w' := by
  refine (refUint_any n w hn).mono ?_
  rintro e w' ⟨v, rfl, ho, hb⟩
  obtain ⟨ao, c, rfl⟩ := ho.shape
  exact ⟨ao, c, rfl, hb⟩

theorem sn_300 : sn 300 = [172, 2] := by decide
theorem size_300 (w : World) : Calls Try.prog 28 #[.int .u64 300] w fun e w' => e = .returned (.int .i64 2) ∧ w' = w := by
  have h := size_any 300 w (by omega)
  rw [sn_300] at h
  exact h
theorem put_300 (v0 : Value) (w : World) (hs : Src w v0 [7]) : Calls Try.prog 42 #[v0, .int .u64 300] w fun e w' => ∃ v, e = .returned v ∧ OwnB w' w.heap.size v [7, 172, 2] ∧ Below w.heap.size w w' := by
  have h := putUint_any v0 [7] 300 w hs (by omega) (by simp)
  rw [sn_300] at h
  exact h

theorem own_three (w : World) : OwnB (w.alloc (.cells #[.int .u8 7, .int .u8 172, .int .u8 2] 5)) w.heap.size (.slice (some ⟨w.heap.size, 0, none⟩) 3 3) [7, 172, 2] :=
  ⟨rfl, Or.inr ⟨w.heap.size, 3, #[.int .u8 7, .int .u8 172, .int .u8 2], rfl, Nat.le_refl _, heap_alloc_new w _, Nat.le_refl _, by unfold maxLen; omega, rfl, rfl⟩⟩

end Go.Proofs.Ytgoalfiinfkldaa

/- Short numbers read: the plain mathematics. Nothing here speaks of the program. -/
namespace Go.Proofs.Ytgoalfiinfkldaa

/-- the number that stands there, behind i bytes that made acc: the error (0: none), the number, how many bytes it has -/
def dec : List UInt8 → Nat → Nat → Nat × Nat × Nat
  | [], _, _ => (4, 0, 0)
  | c :: r, i, acc => if i = 9 ∧ 1 < c.toNat then (10, 0, 0) else if 0 < i ∧ c.toNat = 0 then (5, 0, 0) else if c.toNat < 128 then (0, acc + c.toNat * 128 ^ i, i + 1) else dec r (i + 1) (acc + (c.toNat - 128) * 128 ^ i)

theorem dec_cons (c : UInt8) (r : List UInt8) (i acc : Nat) : dec (c :: r) i acc = if i = 9 ∧ 1 < c.toNat then (10, 0, 0) else if 0 < i ∧ c.toNat = 0 then (5, 0, 0) else if c.toNat < 128 then (0, acc + c.toNat * 128 ^ i, i + 1) else dec r (i + 1) (acc + (c.toNat - 128) * 128 ^ i) := rfl

theorem pow_mono {i : Nat} (h : i ≤ 9) : 128 ^ i ≤ 9223372036854775808 := by
  have : (128 : Nat) ^ i ≤ 128 ^ 9 := Nat.pow_le_pow_right (by decide) h
  omega
theorem pow_step {i : Nat} (h : i < 9) : 128 ^ i ≤ 72057594037927936 := by
  have : (128 : Nat) ^ i ≤ 128 ^ 8 := Nat.pow_le_pow_right (by decide) (by omega)
  omega

theorem dec_err : ∀ (l : List UInt8) (i acc : Nat), (dec l i acc).1 ≠ 0 → (dec l i acc).2 = (0, 0)
  | [], _, _, _ => rfl
  | c :: r, i, acc, h => by
    rw [dec_cons] at h ⊢
    split
    · rfl
    · split
      · rfl
      · split
        · rename_i h1 h2 h3
          rw [if_neg h1, if_neg h2, if_pos h3] at h
          exact absurd rfl h
        · rename_i h1 h2 h3
          rw [if_neg h1, if_neg h2, if_neg h3] at h
          exact dec_err r (i + 1) _ h

theorem dec_cases : ∀ (l : List UInt8) (i acc : Nat), (dec l i acc).1 = 0 ∨ (dec l i acc).1 = 4 ∨ (dec l i acc).1 = 5 ∨ (dec l i acc).1 = 10
  | [], _, _ => Or.inr (Or.inl rfl)
  | c :: r, i, acc => by
    rw [dec_cons]
    split
    · exact Or.inr (Or.inr (Or.inr rfl))
    · split
      · exact Or.inr (Or.inr (Or.inl rfl))
      · split
        · exact Or.inl rfl
        · exact dec_cases r (i + 1) _

/-- what is read is below 2^64, has that many bytes, and they are its own -/
theorem dec_sound : ∀ (l : List UInt8) (i acc n k : Nat), i ≤ 9 → acc < 128 ^ i → dec l i acc = (0, n, k) →
    i < k ∧ k ≤ i + l.length ∧ n < 18446744073709551616 ∧ ∃ m, n = acc + m * 128 ^ i ∧ l.take (k - i) = sn m ∧ (0 < i → 0 < m) ∧ m < 18446744073709551616
  | [], i, acc, n, k, _, _, h => by simp [dec] at h
  | c :: r, i, acc, n, k, hi, ha, h => by
    rw [dec_cons] at h
    have hc := UInt8.toNat_lt c
    have hp := pow_mono hi
    split at h
    · simp at h
    · rename_i h1
      split at h
      · simp at h
      · rename_i h2
        split at h
        · rename_i h3
          simp only [Prod.mk.injEq, true_and] at h
          obtain ⟨rfl, rfl⟩ := h
          refine ⟨by omega, by simp, ?_, c.toNat, rfl, ?_, by omega, by omega⟩
          · rcases Nat.lt_or_ge i 9 with h9 | h9
            · have := pow_step h9
              have h4 : c.toNat * 128 ^ i ≤ 127 * 72057594037927936 := Nat.mul_le_mul (by omega) this
              omega
            · obtain rfl : i = 9 := by omega
              have h5 : c.toNat ≤ 1 := by omega
              have h4 : c.toNat * 128 ^ 9 ≤ 1 * 128 ^ 9 := Nat.mul_le_mul_right _ h5
              omega
          · rw [sn_lt h3]
            have : i + 1 - i = 1 := by omega
            rw [this]
            simp
        · rename_i h3
          have hi9 : i < 9 := by
            rcases Nat.lt_or_ge i 9 with h9 | h9
            · exact h9
            · exact absurd ⟨by omega, by omega⟩ h1
          have hps : 128 ^ (i + 1) = 128 ^ i * 128 := Nat.pow_succ _ _
          have hacc : acc + (c.toNat - 128) * 128 ^ i < 128 ^ (i + 1) := by
            have : (c.toNat - 128) * 128 ^ i ≤ 127 * 128 ^ i := Nat.mul_le_mul_right _ (by omega)
            rw [hps]; omega
          obtain ⟨h4, h5, h6, m, h7, h8, h9, h10⟩ := dec_sound r (i + 1) _ n k (by omega) hacc h
          refine ⟨by omega, by simp; omega, h6, m * 128 + (c.toNat - 128), ?_, ?_, by have := h9 (by omega); omega, ?_⟩
          · rw [h7, hps, Nat.add_mul, Nat.mul_assoc m 128, Nat.mul_comm 128]; omega
          · have hm := h9 (by omega)
            have hlt : m * 128 + (c.toNat - 128) < 18446744073709551616 := by
              have hpp : 1 ≤ 128 ^ i := Nat.pow_pos (by decide)
              have : m * 128 * 1 ≤ m * 128 * 128 ^ i := Nat.mul_le_mul_left _ hpp
              have h11 : (c.toNat - 128) * 1 ≤ (c.toNat - 128) * 128 ^ i := Nat.mul_le_mul_left _ hpp
              rw [h7, hps] at h6
              have : m * (128 ^ i * 128) = m * 128 * 128 ^ i := by rw [Nat.mul_comm (128 ^ i), Nat.mul_assoc]
              omega
            rw [sn_ge (by omega) hlt]
            have e1 : (m * 128 + (c.toNat - 128)) % 128 + 128 = c.toNat := by omega
            have e2 : (m * 128 + (c.toNat - 128)) / 128 = m := by omega
            have e3 : k - i = (k - (i + 1)) + 1 := by omega
            rw [e1, e2, e3, List.take_succ_cons, h8]
            simp
          · have hpp : 1 ≤ 128 ^ i := Nat.pow_pos (by decide)
            have : m * 128 * 1 ≤ m * 128 * 128 ^ i := Nat.mul_le_mul_left _ hpp
            have h11 : (c.toNat - 128) * 1 ≤ (c.toNat - 128) * 128 ^ i := Nat.mul_le_mul_left _ hpp
            rw [h7, hps] at h6
            have : m * (128 ^ i * 128) = m * 128 * 128 ^ i := by rw [Nat.mul_comm (128 ^ i), Nat.mul_assoc]
            omega

/-- what was laid down is read back, with whatever behind it -/
theorem dec_snF : ∀ (f m i acc : Nat) (r : List UInt8), 0 < f → m < 128 ^ f → i ≤ 9 → m * 128 ^ i < 18446744073709551616 → (0 < i → 0 < m) → dec (snF f m ++ r) i acc = (0, acc + m * 128 ^ i, i + (snF f m).length)
  | 0, _, _, _, _, h, _, _, _, _ => absurd h (Nat.lt_irrefl _)
  | f + 1, m, i, acc, r, _, hm, hi, hlt, hpos => by
    rw [snF_succ]
    by_cases h : m < 128
    · rw [if_pos h]
      have e : (m.toUInt8).toNat = m := by simp; omega
      have h1 : ¬ (i = 9 ∧ 1 < (m.toUInt8).toNat) := by
        rw [e]
        rintro ⟨rfl, h2⟩
        have : 2 * 128 ^ 9 ≤ m * 128 ^ 9 := Nat.mul_le_mul_right _ h2
        omega
      have h2 : ¬ (0 < i ∧ (m.toUInt8).toNat = 0) := by
        rw [e]
        rintro ⟨h3, h4⟩
        have := hpos h3
        omega
      show dec (m.toUInt8 :: r) i acc = _
      rw [dec_cons, if_neg h1, if_neg h2, if_pos (by rw [e]; exact h), e]
      rfl
    · rw [if_neg h]
      have e : ((m % 128 + 128).toUInt8).toNat = m % 128 + 128 := by simp; omega
      have hi9 : i < 9 := by
        rcases Nat.lt_or_ge i 9 with h9 | h9
        · exact h9
        · obtain rfl : i = 9 := by omega
          have : 128 * 128 ^ 9 ≤ m * 128 ^ 9 := Nat.mul_le_mul_right _ (by omega)
          omega
      have hd : m / 128 < 128 ^ f := by
        rw [Nat.pow_succ] at hm
        exact Nat.div_lt_of_lt_mul (by rw [Nat.mul_comm]; exact hm)
      have hf : 0 < f := by
        rcases Nat.eq_zero_or_pos f with rfl | h'
        · simp at hd; omega
        · exact h'
      have hps : 128 ^ (i + 1) = 128 ^ i * 128 := Nat.pow_succ _ _
      have hmul : m / 128 * 128 ^ (i + 1) + m % 128 * 128 ^ i = m * 128 ^ i := by
        rw [hps, ← Nat.mul_assoc, Nat.mul_right_comm, ← Nat.add_mul, Nat.div_add_mod']
      show dec ((m % 128 + 128).toUInt8 :: (snF f (m / 128) ++ r)) i acc = _
      rw [dec_cons, if_neg (by omega), if_neg (by omega), if_neg (by omega), e, dec_snF f (m / 128) (i + 1) _ r hf hd (by omega) (by omega) (by omega)]
      simp only [List.length_cons, Prod.mk.injEq, true_and]
      constructor
      · have : m % 128 + 128 - 128 = m % 128 := by omega
        rw [this]; omega
      · omega
theorem dec_sn (n : Nat) (r : List UInt8) (hn : n < 18446744073709551616) : dec (sn n ++ r) 0 0 = (0, n, (sn n).length) := by
  have := dec_snF 10 n 0 0 r (by omega) (by omega) (by omega) (by omega) (by omega)
  unfold sn
  simpa using this

/-- a beginning: the same, or bytes are missing -/
theorem dec_begin : ∀ (l : List UInt8) (j i acc : Nat), dec (l.take j) i acc = dec l i acc ∨ dec (l.take j) i acc = (4, 0, 0)
  | [], _, _, _ => by simp
  | c :: r, 0, i, acc => Or.inr rfl
  | c :: r, j + 1, i, acc => by
    rw [List.take_succ_cons, dec_cons, dec_cons]
    split
    · exact Or.inl rfl
    · split
      · exact Or.inl rfl
      · split
        · exact Or.inl rfl
        · exact dec_begin r j _ _

theorem dec_ok {l : List UInt8} {n k : Nat} (h : dec l 0 0 = (0, n, k)) : 0 < k ∧ k ≤ l.length ∧ n < 18446744073709551616 ∧ l.take k = sn n := by
  obtain ⟨h1, h2, h3, m, h4, h5, _, _⟩ := dec_sound l 0 0 n k (by omega) (by simp) h
  have e : n = m := by simpa using h4
  subst e
  exact ⟨h1, by omega, h3, by simpa using h5⟩
theorem dec_ok_len {l : List UInt8} {n k : Nat} (h : dec l 0 0 = (0, n, k)) : k = (sn n).length := by
  obtain ⟨_, h2, _, h4⟩ := dec_ok h
  rw [← h4]; simp; omega
theorem dec_le (l : List UInt8) {e n k : Nat} (h : dec l 0 0 = (e, n, k)) : k ≤ l.length ∧ n < 18446744073709551616 ∧ e < 16 ∧ (e ≠ 0 → n = 0 ∧ k = 0) := by
  by_cases he : e = 0
  · subst he
    obtain ⟨_, h2, h3, _⟩ := dec_ok h
    exact ⟨h2, h3, by omega, fun h' => absurd rfl h'⟩
  · have h1 := dec_err l 0 0 (by rw [h]; exact he)
    rw [h] at h1
    simp at h1
    refine ⟨by omega, by omega, ?_, fun _ => h1⟩
    have := dec_cases l 0 0
    rw [h] at this
    simp at this
    omega

end Go.Proofs.Ytgoalfiinfkldaa

/- place.number over a reader that NewReader gave: it reads the short number that stands there, or tells why there is none. -/
namespace Go.Proofs.Ytgoalfiinfkldaa
open Go.RowKit

theorem drop_cons {bs : List UInt8} {j : Nat} (h : j < bs.length) : bs.drop j = bs.getD j 0 :: bs.drop (j + 1) := by
  rw [List.drop_eq_getElem_cons h]
  simp [List.getD_eq_getElem?_getD, List.getElem?_eq_getElem h]

theorem bits_and_127_all : ∀ a : Fin 256, bits BinOp.and IntKind.u8 (a.val : Int) 127 = ((a.val % 128 : Nat) : Int) := by decide +kernel
theorem bits_and_127 (c : Nat) (h : c < 256) : bits BinOp.and IntKind.u8 (c : Int) 127 = ((c % 128 : Nat) : Int) := bits_and_127_all ⟨c, h⟩
theorem seven_pow (j : Nat) : (2 : Nat) ^ (7 * j) = 128 ^ j := by rw [Nat.pow_mul]
theorem group_lt {c j : Nat} (hj : j ≤ 9) (h9 : j = 9 → c ≤ 1) : c % 128 * 128 ^ j < 18446744073709551616 := by
  rcases Nat.lt_or_ge j 9 with h | h
  · have h1 := pow_step h
    have : c % 128 * 128 ^ j ≤ 127 * 72057594037927936 := Nat.mul_le_mul (by omega) h1
    omega
  · obtain rfl : j = 9 := by omega
    have h1 := h9 rfl
    have : c % 128 * 128 ^ 9 ≤ 1 * 128 ^ 9 := Nat.mul_le_mul_right _ (by omega)
    omega
/-- one group more -/
theorem num_step {acc c j : Nat} (hj : j ≤ 9) (ha : acc < 128 ^ j) (hc : c < 256) (h9 : j = 9 → c ≤ 1) :
    bits BinOp.or IntKind.u64 (acc : Int) (IntKind.u64.wrap (IntKind.u64.wrap (bits BinOp.and IntKind.u8 (c : Int) 127) * 2 ^ (7 * j))) = ((acc + c % 128 * 128 ^ j : Nat) : Int) := by
  have hg := group_lt hj h9
  have hp := pow_mono hj
  have e1 : IntKind.u64.wrap (bits BinOp.and IntKind.u8 (c : Int) 127) = ((c % 128 : Nat) : Int) := by rw [bits_and_127 c hc, IntKind.wrap_u64]; omega
  have e2 : ((c % 128 : Nat) : Int) * 2 ^ (7 * j) = ((c % 128 * 128 ^ j : Nat) : Int) := by rw [← seven_pow j]; simp
  have e3 : IntKind.u64.wrap ((c % 128 * 128 ^ j : Nat) : Int) = ((c % 128 * 128 ^ j : Nat) : Int) := by rw [IntKind.wrap_u64]; omega
  rw [e1, e2, e3, bits_or_u64 _ _ (by omega) hg]
  have e4 := Nat.two_pow_add_eq_or_of_lt (i := 7 * j) (b := acc) (by rw [seven_pow]; exact ha) (c % 128)
  rw [seven_pow] at e4
  rw [Nat.or_comm, Nat.mul_comm (c % 128), ← e4]
  omega
theorem num_step9 {acc c : Nat} (ha : acc < 128 ^ 9) (h9 : c ≤ 1) :
    bits BinOp.or IntKind.u64 (acc : Int) (IntKind.u64.wrap (IntKind.u64.wrap (bits BinOp.and IntKind.u8 (c : Int) 127) * 9223372036854775808)) = ((acc + c % 128 * 128 ^ 9 : Nat) : Int) :=
  num_step (j := 9) (by omega) ha (by omega) (fun _ => h9)

theorem ret_num {x y : Int} (h : x = y) : Ending.returned (.tuple #[.int .u64 x, .int .i64 0]) = .returned (.tuple #[.int .u64 y, .int .i64 0]) := by rw [h]

section
variable {er n k j c acc : Nat} {r : List UInt8}
theorem end_wide (H : (er, n, k) = if j = 9 ∧ 1 < c then (10, 0, 0) else if 0 < j ∧ c = 0 then (5, 0, 0) else if c < 128 then (0, acc + c * 128 ^ j, j + 1) else dec r (j + 1) (acc + (c - 128) * 128 ^ j)) (h1 : j = 9) (h2 : 1 < c) : er = 10 ∧ n = 0 ∧ k = 0 := by
  rw [if_pos ⟨h1, h2⟩] at H; simpa using H
theorem end_form (H : (er, n, k) = if j = 9 ∧ 1 < c then (10, 0, 0) else if 0 < j ∧ c = 0 then (5, 0, 0) else if c < 128 then (0, acc + c * 128 ^ j, j + 1) else dec r (j + 1) (acc + (c - 128) * 128 ^ j)) (h1 : ¬ (j = 9 ∧ 1 < c)) (h2 : 0 < j) (h3 : c = 0) : er = 5 ∧ n = 0 ∧ k = 0 := by
  rw [if_neg h1, if_pos ⟨h2, h3⟩] at H; simpa using H
theorem end_done (H : (er, n, k) = if j = 9 ∧ 1 < c then (10, 0, 0) else if 0 < j ∧ c = 0 then (5, 0, 0) else if c < 128 then (0, acc + c * 128 ^ j, j + 1) else dec r (j + 1) (acc + (c - 128) * 128 ^ j)) (h1 : ¬ (j = 9 ∧ 1 < c)) (h2 : ¬ (0 < j ∧ c = 0)) (h3 : c < 128) : er = 0 ∧ n = acc + c * 128 ^ j ∧ k = j + 1 := by
  rw [if_neg h1, if_neg h2, if_pos h3] at H; simpa using H
theorem end_more (H : (er, n, k) = if j = 9 ∧ 1 < c then (10, 0, 0) else if 0 < j ∧ c = 0 then (5, 0, 0) else if c < 128 then (0, acc + c * 128 ^ j, j + 1) else dec r (j + 1) (acc + (c - 128) * 128 ^ j)) (h1 : ¬ j = 9) (h2 : 128 ≤ c) : dec r (j + 1) (acc + (c - 128) * 128 ^ j) = (er, n, k) := by
  rw [if_neg (by omega), if_neg (by omega), if_neg (by omega)] at H; exact H.symm
end

set_option maxRecDepth 100000 in
set_option maxHeartbeats 1000000 in
theorem number_any (base b : Nat) (v : Value) (bs : List UInt8) (a : Nat) (why wat : Int) (w : World) (h : Rd w base b v bs a why wat) (er n k : Nat) (hdec : dec (bs.drop a) 0 0 = (er, n, k)) :
    Calls Try.prog 53 #[.pointer (some ⟨b, 0, none⟩)] w fun e w' => e = .returned (.tuple #[.int .u64 n, .int .i64 er]) ∧ Rd w' base b v bs (a + k) why wat ∧ w.grownBy w' (some b) := by
  have HD := hid hdec
  have HR := hid h
  have h0 := h.c0
  have h1 := h.c1
  have f1 := h.fz 1
  have hl := h.own.len
  have hle := h.le
  have HF := hid h.own.forms
  obtain ⟨ad, cap, rfl⟩ := h.own.shape
  clear h hdec
  have hl' := hl
  unfold maxLen at hl'
  go_enter Try.func53, Try.ntmps53
  go_wp2_with fail
  go_loopw [4, 5] (fun x i wr => ∃ (j acc q : Nat), j ≤ 9 ∧ a + j ≤ bs.length ∧ acc < 128 ^ j ∧ dec (bs.drop (a + j)) j acc = (er, n, k) ∧ x = .int .u64 acc ∧ i = .int .i64 j ∧ wr = w.drewN q) (fun _ i _ => 10 - (intOf i).toNat)
  case atStart => exact ⟨0, 0, 0, by omega, by omega, by simp, HD.out, rfl, rfl, rfl⟩
  case round =>
    obtain ⟨j, acc, q, hj, haj, hacc, hd, rfl, rfl, rfl⟩ := hrel
    have HDR := hid hd
    have HAC := hid hacc
    clear hd hacc HD
    by_cases hlt : a + j < bs.length
    · obtain ⟨g, hadr, hbyte⟩ : ∃ g, ad = some ⟨g, 0, none⟩ ∧ w.cell? ⟨g, a + j, none⟩ = some (.int .u8 (bs.getD (a + j) 0).toNat) := by
        rcases HF.out with ⟨_, rfl⟩ | ⟨g, cp, hv, _, _, _, _, _, hc⟩
        · simp at hlt
        · simp only [Value.slice.injEq] at hv
          exact ⟨g, hv.1, hc _ hlt⟩
      subst hadr
      have HDR2 := hid (by rw [← HDR.out, drop_cons hlt, dec_cons] : (er, n, k) = _)
      have hcl := UInt8.toNat_lt (bs.getD (a + j) 0)
      generalize (bs.getD (a + j) 0).toNat = c at *
      have hbd : (a : Int) + (j : Int) < (bs.length : Int) := by omega
      have hbd0 : 0 ≤ (a : Int) + (j : Int) := by omega
      have hte : ((a : Int) + (j : Int)).toNat = a + j := by omega
      go_wp2_with (go_at_call 69; go_must (refine (pleft_any _ _ _ (a : Int) _ _ hl (by omega) (by omega) (by exact h0) (by exact h1)).mono ?_); rintro e w' ⟨rfl, q2, rfl⟩)
      go_quiet (fail)
      by_cases h9 : (j : Int) = 9
      · have HJ := hid (by omega : j = 9)
        go_wp2_with fail
        · go_ret2
          have hc1 : (1 : Int) < (c : Int) := by assumption
          obtain ⟨rfl, rfl, rfl⟩ := end_wide HDR2.out HJ.out (by omega)
          exact ⟨rfl, HR.out.drewN _, gb_drewN _ _ _⟩
        · go_ret2
          have hz : ((c : Int) == 0) = true := by assumption
          have hz' : c = 0 := by simpa using hz
          obtain ⟨rfl, rfl, rfl⟩ := end_form HDR2.out (by omega) (by have := HJ.out; omega) hz'
          exact ⟨rfl, HR.out.drewN _, gb_drewN _ _ _⟩
        · have hz : ((c : Int) == 0) = false := by assumption
          have hz' : c ≠ 0 := by simpa using hz
          have hc1 : (c : Int) ≤ 1 := by assumption
          go_ret2
          have e0 := end_done HDR2.out (by omega) (by omega) (by omega)
          have R := (HR.out.drewN (q + q2 + nq)).setAt (a + (j + 1)) (by omega)
          have e1 : c % 128 = c := by omega
          have e2 : (a : Int) + 10 = ((a + (j + 1) : Nat) : Int) := by omega
          rw [e2]
          obtain ⟨rfl, rfl, rfl⟩ := e0
          exact ⟨ret_num (by rw [num_step9 (HJ.out ▸ HAC.out) (by omega), e1, HJ.out]), R, gb_trans (gb_drewN _ _ _) (gb_set _ _ _)⟩
      · have HJ9 := hid (by omega : ¬ j = 9)
        by_cases h0 : 0 < j
        · go_wp2_with fail
          · go_ret2
            have hz : ((c : Int) == 0) = true := by assumption
            have hz' : c = 0 := by simpa using hz
            obtain ⟨rfl, rfl, rfl⟩ := end_form HDR2.out (by omega) h0 hz'
            exact ⟨rfl, HR.out.drewN _, gb_drewN _ _ _⟩
          · have hz : ((c : Int) == 0) = false := by assumption
            have hz' : c ≠ 0 := by simpa using hz
            have hc1 : (c : Int) < 128 := by assumption
            go_ret2
            have e0 := end_done HDR2.out (by omega) (by omega) (by omega)
            have R := (HR.out.drewN (q + q2 + nq)).setAt (a + (j + 1)) (by omega)
            have e1 : c % 128 = c := by omega
            have e2 : (a : Int) + ((j : Int) + 1) = ((a + (j + 1) : Nat) : Int) := by omega
            rw [e2]
            obtain ⟨rfl, rfl, rfl⟩ := e0
            exact ⟨ret_num (by rw [num_step (by omega) HAC.out hcl (fun e => absurd e HJ9.out), e1]), R, gb_trans (gb_drewN _ _ _) (gb_set _ _ _)⟩
          · have hz : ((c : Int) == 0) = false := by assumption
            have hc128 : (128 : Int) ≤ (c : Int) := by assumption
            have e0 := end_more HDR2.out HJ9.out (by omega)
            have e1 : c % 128 = c - 128 := by omega
            have hps : 128 ^ (j + 1) = 128 ^ j * 128 := Nat.pow_succ _ _
            have hmul : (c - 128) * 128 ^ j ≤ 127 * 128 ^ j := Nat.mul_le_mul_right _ (by omega)
            have hac := HAC.out
            refine ⟨⟨j + 1, acc + (c - 128) * 128 ^ j, q + q2 + nq, by omega, by omega, by rw [hps]; omega, by rw [← Nat.add_assoc]; exact e0, ?_, by go_num, rfl⟩, by simp [intOf]; omega⟩
            rw [num_step (by omega) HAC.out hcl (fun e => absurd e HJ9.out), e1]
        · go_wp2_with fail
          · have hc1 : (c : Int) < 128 := by assumption
            go_ret2
            have e0 := end_done HDR2.out (by omega) (by omega) (by omega)
            have R := (HR.out.drewN (q + q2 + nq)).setAt (a + (j + 1)) (by omega)
            have e1 : c % 128 = c := by omega
            have e2 : (a : Int) + ((j : Int) + 1) = ((a + (j + 1) : Nat) : Int) := by omega
            rw [e2]
            obtain ⟨rfl, rfl, rfl⟩ := e0
            exact ⟨ret_num (by rw [num_step (by omega) HAC.out hcl (fun e => absurd e HJ9.out), e1]), R, gb_trans (gb_drewN _ _ _) (gb_set _ _ _)⟩
          · have hc128 : (128 : Int) ≤ (c : Int) := by assumption
            have e0 := end_more HDR2.out HJ9.out (by omega)
            have e1 : c % 128 = c - 128 := by omega
            have hps : 128 ^ (j + 1) = 128 ^ j * 128 := Nat.pow_succ _ _
            have hmul : (c - 128) * 128 ^ j ≤ 127 * 128 ^ j := Nat.mul_le_mul_right _ (by omega)
            have hac := HAC.out
            refine ⟨⟨j + 1, acc + (c - 128) * 128 ^ j, q + q2 + nq, by omega, by omega, by rw [hps]; omega, by rw [← Nat.add_assoc]; exact e0, ?_, by go_num, rfl⟩, by simp [intOf]; omega⟩
            rw [num_step (by omega) HAC.out hcl (fun e => absurd e HJ9.out), e1]
    · have hnl : ¬ ((j : Int) < (bs.length : Int) - (a : Int)) := by omega
      have HN := hid (by rw [← HDR.out, List.drop_eq_nil_of_le (by omega)]; rfl : (er, n, k) = (4, 0, 0))
      go_wp2_with (go_at_call 69; go_must (refine (pleft_any _ _ _ (a : Int) _ _ hl (by omega) (by omega) (by exact h0) (by exact h1)).mono ?_); rintro e w' ⟨rfl, q2, rfl⟩)
      go_ret2
      have e1 := HN.out
      simp only [Prod.mk.injEq] at e1
      obtain ⟨rfl, rfl, rfl⟩ := e1
      exact ⟨rfl, HR.out.drewN _, gb_drewN _ _ _⟩

end Go.Proofs.Ytgoalfiinfkldaa

/- numberUpTo, truth, text and raw over a reader that NewReader gave. -/
namespace Go.Proofs.Ytgoalfiinfkldaa
open Go.RowKit

/-- a number of at most so much: the error, it, how many bytes it has -/
def upTo (l : List UInt8) (most t : Nat) : Nat × Nat × Nat :=
  if (dec l 0 0).1 ≠ 0 then dec l 0 0 else if most < (dec l 0 0).2.1 then (t, 0, 0) else dec l 0 0
/-- a text of at most so many bytes: the error, its bytes, how many bytes it takes -/
def wtxt (l : List UInt8) (most : Nat) : Nat × List UInt8 × Nat :=
  if (upTo l most 3).1 ≠ 0 then ((upTo l most 3).1, [], 0) else if l.length < (upTo l most 3).2.2 + (upTo l most 3).2.1 then (4, [], 0) else (0, (l.drop (upTo l most 3).2.2).take (upTo l most 3).2.1, (upTo l most 3).2.2 + (upTo l most 3).2.1)

theorem upTo_le {l : List UInt8} {most t er n k : Nat} (h : upTo l most t = (er, n, k)) : k ≤ l.length ∧ n ≤ most ∧ (er ≠ 0 → n = 0 ∧ k = 0) := by
  unfold upTo at h
  split at h
  · rename_i h1
    have h2 := dec_err l 0 0 h1
    rw [h] at h2
    simp at h2
    exact ⟨by omega, by omega, fun _ => h2⟩
  · rename_i h1
    split at h
    · simp at h
      obtain ⟨rfl, rfl, rfl⟩ := h
      exact ⟨by omega, by omega, fun _ => ⟨rfl, rfl⟩⟩
    · rename_i h2
      obtain ⟨a1, a2, a3, a4⟩ := dec_le l h
      rw [h] at h2
      simp at h2
      exact ⟨a1, h2, a4⟩
theorem txt_le {l : List UInt8} {most er k : Nat} {s : List UInt8} (h : wtxt l most = (er, s, k)) : k ≤ l.length ∧ s.length ≤ most ∧ (er ≠ 0 → s = [] ∧ k = 0) := by
  unfold wtxt at h
  split at h
  · simp at h
    obtain ⟨_, rfl, rfl⟩ := h
    exact ⟨by omega, by simp, fun _ => ⟨rfl, rfl⟩⟩
  · split at h
    · simp at h
      obtain ⟨_, rfl, rfl⟩ := h
      exact ⟨by omega, by simp, fun _ => ⟨rfl, rfl⟩⟩
    · rename_i h1 h2
      simp only [Prod.mk.injEq] at h
      obtain ⟨rfl, rfl, rfl⟩ := h
      obtain ⟨a1, a2, _⟩ := upTo_le (l := l) (most := most) (t := 3) (er := (upTo l most 3).1) (n := (upTo l most 3).2.1) (k := (upTo l most 3).2.2) rfl
      exact ⟨by omega, by simp; omega, fun h' => absurd rfl h'⟩

theorem ret_ie {x y : Int} {e f : Int} (h : x = y) (h2 : e = f) : Ending.returned (.tuple #[.int .i64 x, .int .i64 e]) = .returned (.tuple #[.int .i64 y, .int .i64 f]) := by rw [h, h2]

section
variable (base b : Nat) (v : Value) (bs : List UInt8) (a : Nat) (why wat : Int) (w : World)

set_option maxRecDepth 100000 in
set_option maxHeartbeats 1000000 in
theorem numberUpTo_any (most t : Nat) (h : Rd w base b v bs a why wat) (hm : most ≤ 9223372036854775807) (ht : t ≠ 0) (er n k : Nat) (hup : upTo (bs.drop a) most t = (er, n, k)) :
    Calls Try.prog 97 #[.pointer (some ⟨b, 0, none⟩), .int .i64 most, .int .i64 t] w fun e w' => e = .returned (.tuple #[.int .i64 n, .int .i64 er]) ∧ Rd w' base b v bs (a + k) why wat ∧ w.grownBy w' (some b) := by
  obtain ⟨er0, n0, k0, hd⟩ : ∃ er0 n0 k0, dec (bs.drop a) 0 0 = (er0, n0, k0) := ⟨_, _, _, rfl⟩
  have HC := hid (number_any base b v bs a why wat w h er0 n0 k0 hd)
  have h1 := h.c1
  have hlt := h.lt
  have HR := hid h
  obtain ⟨d1, d2, d3, d4⟩ := dec_le _ hd
  have HU := hid hup
  unfold upTo at hup
  rw [hd] at hup
  simp only at hup
  have HUP := hid hup
  clear hup h
  have HDL := hid d4
  clear d4
  by_cases he : er0 = 0
  · subst he
    have hsimp := HUP.out
    rw [if_neg (by simp)] at hsimp
    by_cases hgt : most < n0
    · rw [if_pos hgt] at hsimp
      simp only [Prod.mk.injEq] at hsimp
      have HE := hid hsimp
      clear hsimp
      have htb : (((t : Int)) != 0) = true := by simp; omega
      have hgti : (most : Int) < (n0 : Int) := by omega
      go_enter Try.func97, Try.ntmps97
      go_wp2_with fail
      refine Calls.mono HC.out ?_
      rintro e w1 ⟨rfl, hR1, hg1⟩
      have HR1 := hid hR1
      have HG1 := hid hg1
      have g1 := hR1.c1
      have f1 := hR1.fz 1
      clear hR1 hg1 HC
      go_wp2
      go_ret2
      obtain ⟨rfl, rfl, rfl⟩ := HE.out
      exact ⟨ret_ie rfl rfl, HR1.out.setAt a HR.out.le, gb_trans HG1.out (gb_set _ _ _)⟩
    · rw [if_neg hgt] at hsimp
      simp only [Prod.mk.injEq] at hsimp
      have HE := hid hsimp
      clear hsimp
      have hgti : ¬ ((most : Int) < (n0 : Int)) := by omega
      go_enter Try.func97, Try.ntmps97
      go_wp2_with fail
      refine Calls.mono HC.out ?_
      rintro e w1 ⟨rfl, hR1, hg1⟩
      have HR1 := hid hR1
      have HG1 := hid hg1
      clear hR1 hg1 HC
      go_wp2
      go_ret2
      obtain ⟨rfl, rfl, rfl⟩ := HE.out
      exact ⟨ret_ie rfl rfl, HR1.out, HG1.out⟩
  · have hsimp := HUP.out
    rw [if_pos (by simpa using he)] at hsimp
    simp only [Prod.mk.injEq] at hsimp
    have HE := hid hsimp
    have hz := HDL.out he
    have HZ := hid hz
    clear hsimp hz
    have heb : ((er0 : Int) == 0) = false := by simp; omega
    have heb2 : ((er0 : Int) != 0) = true := by simp; omega
    go_enter Try.func97, Try.ntmps97
    go_wp2_with fail
    refine Calls.mono HC.out ?_
    rintro e w1 ⟨rfl, hR1, hg1⟩
    have HR1 := hid hR1
    have HG1 := hid hg1
    clear hR1 hg1 HC
    go_wp2
    go_ret2
    have e1 := HE.out
    have e2 := HZ.out
    obtain ⟨rfl, rfl, rfl⟩ := e1
    obtain ⟨rfl, rfl⟩ := e2
    exact ⟨ret_ie rfl rfl, HR1.out, HG1.out⟩
end

end Go.Proofs.Ytgoalfiinfkldaa

/- truth, text and raw over a reader that NewReader gave. -/
namespace Go.Proofs.Ytgoalfiinfkldaa
open Go.RowKit

theorem ret_se {x y : ByteArray} {e f : Int} (h : x = y) (h2 : e = f) : Ending.returned (.tuple #[.string x, .int .i64 e]) = .returned (.tuple #[.string y, .int .i64 f]) := by rw [h, h2]

/-- a part of bytes of the call's own -/
theorem OwnB.part {w : World} {base : Nat} {v : Value} {bs : List UInt8} (h : OwnB w base v bs) (g cap lo n : Nat) (hv : v = .slice (some ⟨g, 0, none⟩) bs.length cap) (hn : lo + n ≤ bs.length) (hl : bs.length ≤ 140737488355327) :
    Src w (.slice (some ⟨g, lo, none⟩) n (cap - lo)) ((bs.drop lo).take n) := by
  rcases h.forms with ⟨h1, _⟩ | ⟨g', cap', hv', _, hlt, h1, h2, _, hc⟩
  · rw [hv] at h1; simp at h1
  · rw [hv] at hv'
    simp only [Value.slice.injEq, Option.some.injEq, Addr.mk.injEq, and_true, true_and] at hv'
    obtain ⟨rfl, rfl⟩ := hv'
    have hlen : ((bs.drop lo).take n).length = n := by simp; omega
    refine ⟨by rw [hlen]; omega, Or.inr ⟨⟨g, lo, none⟩, cap - lo, by rw [hlen], by rw [hlen]; omega, by omega, fun _ => hlt, fun j hj => ?_⟩⟩
    rw [hlen] at hj
    have e : (⟨g, lo, none⟩ : Addr).add j = ⟨g, lo + j, none⟩ := by
      by_cases h : j = 0
      · subst h; simp [Addr.add]
      · simp [Addr.add, h]
    rw [e, hc _ (by omega)]
    simp [List.getD_eq_getElem?_getD, hj]

theorem upTo_pos {l : List UInt8} {most t n k : Nat} (ht : t ≠ 0) (h : upTo l most t = (0, n, k)) : 0 < k := by
  unfold upTo at h
  split at h
  · rename_i h1
    rw [h] at h1
    exact absurd rfl h1
  · split at h
    · simp at h; exact absurd h.1 ht
    · exact (dec_ok h).1

theorem src_empty {w : World} (g : Nat) (hg : g < w.heap.size) : Src w (.slice (some ⟨g, 0, none⟩) 0 0) [] :=
  ⟨by simp, Or.inr ⟨⟨g, 0, none⟩, 0, rfl, by simp, by simp, fun _ => hg, fun j hj => by simp at hj⟩⟩

section

variable (base b : Nat) (v : Value) (bs : List UInt8) (a : Nat) (why wat : Int) (w : World)


set_option maxRecDepth 100000 in
set_option maxHeartbeats 1000000 in
theorem text_any (most : Nat) (h : Rd w base b v bs a why wat) (hbl : bs.length ≤ 140737488355327) (hm : most ≤ 9223372036854775807) (er k : Nat) (s : List UInt8) (ht : wtxt (bs.drop a) most = (er, s, k)) :
    Calls Try.prog 110 #[.pointer (some ⟨b, 0, none⟩), .int .i64 most] w fun e w' => e = .returned (.tuple #[.string ⟨s.toArray⟩, .int .i64 er]) ∧ Rd w' base b v bs (a + k) why wat ∧ w.grownBy w' (some b) := by
  obtain ⟨er0, n0, k0, hd⟩ : ∃ er0 n0 k0, upTo (bs.drop a) most 3 = (er0, n0, k0) := ⟨_, _, _, rfl⟩
  have HC := hid (numberUpTo_any base b v bs a why wat w most 3 h hm (by omega) er0 n0 k0 hd)
  have h1 := h.c1
  have HR := hid h
  have hle := h.le
  obtain ⟨d1, d2, d4⟩ := upTo_le hd
  have hdl : (bs.drop a).length = bs.length - a := by simp
  unfold wtxt at ht
  rw [hd] at ht
  simp only at ht
  rw [hdl] at ht d1
  have HT := hid ht
  have HDL := hid d4
  have HK := hid (fun e => upTo_pos (by omega : (3 : Nat) ≠ 0) (e ▸ hd) : er0 = 0 → 0 < k0)
  clear ht d4 hd h hdl
  by_cases he : er0 = 0
  · subst he
    have hsimp := HT.out
    rw [if_neg (by simp)] at hsimp
    by_cases hgt : bs.length - a < k0 + n0
    · rw [if_pos hgt] at hsimp
      simp only [Prod.mk.injEq] at hsimp
      have HE := hid hsimp
      clear hsimp
      have hgti : (bs.length : Int) - ((a + k0 : Nat) : Int) < (n0 : Int) := by omega
      go_enter Try.func110, Try.ntmps110
      go_wp2_with fail
      refine Calls.mono HC.out ?_
      rintro e w1 ⟨rfl, hR1, hg1⟩
      have HR1 := hid hR1
      have HG1 := hid hg1
      have g0 := hR1.c0
      have g1 := hR1.c1
      have f1 := hR1.fz 1
      have hl := hR1.own.len
      obtain ⟨ad, cap, rfl⟩ := hR1.own.shape
      clear hR1 hg1 HC
      go_wp2_with fail
      refine (pleft_any _ _ _ ((a + k0 : Nat) : Int) _ _ hl (by omega) (by omega) g0 g1).mono ?_
      rintro e w2 ⟨rfl, q, rfl⟩
      go_wp2
      go_ret2
      obtain ⟨rfl, rfl, rfl⟩ := HE.out
      exact ⟨ret_se rfl rfl, (HR1.out.drewN q).setAt a HR.out.le, gb_trans (gb_trans HG1.out (gb_drewN _ _ _)) (gb_set _ _ _)⟩
    · rw [if_neg hgt] at hsimp
      simp only [Prod.mk.injEq] at hsimp
      have HE := hid hsimp
      have HX := hid (by have := HK.out rfl; omega : 0 < bs.length)
      clear hsimp
      have hgti : ¬ ((bs.length : Int) - ((a + k0 : Nat) : Int) < (n0 : Int)) := by omega
      go_enter Try.func110, Try.ntmps110
      go_wp2_with fail
      refine Calls.mono HC.out ?_
      rintro e w1 ⟨rfl, hR1, hg1⟩
      have HR1 := hid hR1
      have HG1 := hid hg1
      have g0 := hR1.c0
      have g1 := hR1.c1
      have f1 := hR1.fz 1
      have hl := hR1.own.len
      obtain ⟨ad, cap, rfl⟩ := hR1.own.shape
      clear hR1 hg1 HC
      go_wp2_with fail
      refine (pleft_any _ _ _ ((a + k0 : Nat) : Int) _ _ hl (by omega) (by omega) g0 g1).mono ?_
      rintro e w2 ⟨rfl, q, rfl⟩
      go_wp2_with fail
      have hA : ((a : Int) + (k0 : Int) + (n0 : Int)) = ((a + (k0 + n0) : Nat) : Int) := by omega
      rw [hA]
      have R3 := (HR1.out.drewN q).setAt (a + (k0 + n0)) (by omega)
      have HR3 := hid R3
      have HG3 := hid (gb_trans (gb_trans HG1.out (gb_drewN _ q _)) (gb_set _ ⟨b, 1, none⟩ (.int .i64 ((a + (k0 + n0) : Nat) : Int))))
      clear R3 g0 g1 f1 HR1 HG1 hA h1
      generalize ((w1.drewN q).setCell ⟨b, 1, none⟩ (.int .i64 ((a + (k0 + n0) : Nat) : Int))) = W3 at *
      obtain ⟨g, hg, hcap⟩ : ∃ g, ad = some ⟨g, 0, none⟩ ∧ bs.length ≤ cap := by
        rcases HR3.out.own.forms with ⟨_, h2⟩ | ⟨g, cp, hv, _, _, h3, _⟩
        · have := HX.out; rw [h2] at this; simp at this
        · simp only [Value.slice.injEq] at hv
          exact ⟨g, hv.1, hv.2.2 ▸ h3⟩
      subst hg
      have HG := hid ((HR3.out.own.lt g rfl).2)
      have HP := hid (fun q => run_str ((HR3.out.drewN q).own.part g cap (a + k0) n0 rfl (by omega) hbl) : ∀ q, (convert 30 9 (.slice (some ⟨g, a + k0, none⟩) n0 (cap - (a + k0)))).run Try.prog (W3.drewN q) = .ok (.string ⟨((bs.drop (a + k0)).take n0).toArray⟩) (W3.drewN q))
      have HZ := hid (fun q => run_str (src_empty (w := W3.drewN q) g HG.out) : ∀ q, (convert 30 9 (.slice (some ⟨g, 0, none⟩) 0 0)).run Try.prog (W3.drewN q) = .ok (.string ⟨([] : List UInt8).toArray⟩) (W3.drewN q))
      have HST := hid (by simp : (List.drop k0 (bs.drop a)).take n0 = (bs.drop (a + k0)).take n0)
      have c0 := HR3.out.c0
      have HC1 := hid HR3.out.c1
      generalize hAe : a + (k0 + n0) = A at *
      generalize hLe : a + k0 = lo at *
      have hA1 : lo + n0 = A := by omega
      have hA2 : lo ≤ A := by omega
      have hA3 : A ≤ cap := by omega
      have hA4 : A ≤ bs.length := by omega
      have hA6 : n0 = A - lo := by omega
      have HN := hid hA6
      have HP2 := hid (by rw [← HN.out]; exact HP.out : ∀ q, (convert 30 9 (.slice (some ⟨g, lo, none⟩) (A - lo) (cap - lo))).run Try.prog (W3.drewN q) = .ok (.string ⟨((bs.drop lo).take n0).toArray⟩) (W3.drewN q))
      have HAE := hid hAe
      have HLE := hid hLe
      have c1 := HC1.out
      have hw : IntKind.i64.wrap ((A : Int) - (n0 : Int)) = (lo : Int) := by rw [IntKind.wrap_i64]; omega
      clear hA1 hAe hLe hA6
      by_cases hcl : cap = lo
      · have hAl : A = lo := by omega
        have HN0 := hid (by have := HN.out; omega : n0 = 0)
        subst hcl
        subst hAl
        have hcv := HZ.out
        go_quiet (fail)
        clear hcv hw
        go_wp2
        go_ret2
        obtain ⟨rfl, rfl, rfl⟩ := HE.out
        exact ⟨ret_se (by rw [HN0.out]; simp) rfl, by rw [HAE.out]; exact HR3.out.drewN _, gb_trans HG3.out (gb_drewN _ _ _)⟩
      · have hcv := HP2.out
        generalize hS : ((bs.drop lo).take n0).toArray = S at *
        have HS := hid hS
        clear hS
        go_quiet (fail)
        clear hcv hw
        go_wp2
        go_ret2
        obtain ⟨rfl, rfl, rfl⟩ := HE.out
        exact ⟨ret_se (by rw [HST.out, ← HS.out]) rfl, by rw [HAE.out]; exact HR3.out.drewN _, gb_trans HG3.out (gb_drewN _ _ _)⟩
  · have hsimp := HT.out
    rw [if_pos (by simpa using he)] at hsimp
    simp only [Prod.mk.injEq] at hsimp
    have HE := hid hsimp
    have hz := HDL.out he
    have HZ := hid hz
    clear hsimp hz
    have heb2 : ((er0 : Int) != 0) = true := by simp; omega
    go_enter Try.func110, Try.ntmps110
    go_wp2_with fail
    refine Calls.mono HC.out ?_
    rintro e w1 ⟨rfl, hR1, hg1⟩
    have HR1 := hid hR1
    have HG1 := hid hg1
    clear hR1 hg1 HC
    go_wp2
    go_ret2
    have e1 := HE.out
    have e2 := HZ.out
    obtain ⟨rfl, rfl, rfl⟩ := e1
    obtain ⟨rfl, rfl⟩ := e2
    exact ⟨ret_se rfl rfl, HR1.out, HG1.out⟩

end

end Go.Proofs.Ytgoalfiinfkldaa

/- raw over a reader that NewReader gave: so many bytes, in new memory. -/
namespace Go.Proofs.Ytgoalfiinfkldaa
open Go.RowKit

/-- append(nil, bytes...) as one step of a region that draws its order -/
theorem step_app_nil {ops : Array Oper} {o : Oper} {a : Act} {w : World} {K : Act → World → Prop} {Q : Exit → Act → World → Prop} {E : Prop}
    (hg : o.guard = none) (s x : Operand) (ho : o.op = Op.call { callee := Callee.builtin Builtin.append, args := #[s, x], argTypes := #[30, 30] })
    (hs : a.eval s = .slice none 0 0) (vx : Value) (cs : List UInt8) (hx : a.eval x = vx) (hsrc : Src w vx cs)
    (hK : ∀ v' w', OwnB w' w.heap.size v' cs → Below w.heap.size w w' → K (a.put o.dst v') w') :
    if Region.wanted o (yielded ops a.tmps) = true then Oper.wp Try.prog o a w K Q else E := by
  have hw : Region.wanted o (yielded ops a.tmps) = true := by simp [Region.wanted, hg]
  rw [if_pos hw]
  obtain ⟨i0, hi, hz0, hz1, hz2⟩ := info_parts Try.infoU8
  obtain ⟨hl, ⟨rfl, rfl⟩ | ⟨ad, cap, rfl, h1, h2, hlt, hc⟩⟩ := hsrc
  · have hrun := run_append_owned_none (P := Try.prog) (w := w) w.heap.size 30 o.type 5 i0 1 Try.underlying30 hi (.slice none 0 0) 0 [] (World.ownsRow_nil _ _ _ _)
    unfold Oper.wp
    simp [execOp, ho, resolve, invoke, builtin, hs, hx, hrun, Result.andThen]
    exact hK _ _ (OwnB.nil _ _) (Below.refl _ _)
  · obtain ⟨v', w', hr, h3, h4, h5⟩ := run_append_own (P := Try.prog) w w.heap.size 30 o.type 5 i0 (.int .u8 0) 1 1 Try.underlying30 hi hz0 hz1 hz2 rfl (by decide) (.slice none 0 0) 0 [] (World.ownsRow_nil _ _ _ _) ad cs.length cap (bytesV cs) (by simp [bytesV]) (src_cells hc) (bytesV_one cs) (by unfold maxLen; omega) (by omega) (Nat.le_refl _)
    unfold Oper.wp
    simp [execOp, ho, resolve, invoke, builtin, hs, hx, hr, Result.andThen]
    exact hK v' w' (by unfold OwnB; simpa using h3) (gb_below h4)

section
variable (base b : Nat) (v : Value) (bs : List UInt8) (a : Nat) (why wat : Int) (w : World)

/-- what is cut out of a reader's bytes -/
theorem cut_out (n : Nat) (ad : Option Addr) (cap : Nat) (h : OwnB w base (.slice ad bs.length cap) bs) (hbl : bs.length ≤ 140737488355327) (hgt : a + n ≤ bs.length) :
    ∃ vx, Src w vx ((bs.drop a).take n) ∧ (∀ W, (Instr.slice 30 (.slice ad bs.length cap) (some (.int .i64 (a : Int))) (some (.int .i64 ((a + n : Nat) : Int))) none).run Try.prog W = .ok vx W) := by
  rcases h.forms with ⟨h1, rfl⟩ | ⟨g, cp, hv, _, hlt, h1, h2, _, _⟩
  · simp only [Value.slice.injEq] at h1
    obtain ⟨rfl, _, rfl⟩ := h1
    have ha : a = 0 := by simp at hgt; omega
    have hn : n = 0 := by simp at hgt; omega
    subst ha hn
    refine ⟨.slice none 0 0, ⟨by simp, Or.inl ⟨rfl, by simp⟩⟩, fun W => ?_⟩
    go_simp
  · simp only [Value.slice.injEq] at hv
    obtain ⟨rfl, _, rfl⟩ := hv
    by_cases hc : cap = a
    · have hn : n = 0 := by omega
      subst hn
      refine ⟨.slice (some ⟨g, 0, none⟩) 0 0, by simpa using src_empty g hlt, fun W => ?_⟩
      subst hc
      go_simp
    · refine ⟨.slice (some ⟨g, a, none⟩) n (cap - a), h.part g cap a n rfl hgt hbl, fun W => ?_⟩
      have hi1 : (a : Int) ≤ ((a + n : Nat) : Int) := by omega
      have hi2 : ((a + n : Nat) : Int) ≤ (cap : Int) := by omega
      generalize hA : a + n = A at *
      have hA1 : n = A - a := by omega
      subst hA1
      clear hA
      go_simp

set_option maxRecDepth 100000 in
set_option maxHeartbeats 1000000 in
theorem raw_short (n : Nat) (h : Rd w base b v bs a why wat) (hgt : bs.length - a < n) :
    Calls Try.prog 105 #[.pointer (some ⟨b, 0, none⟩), .int .i64 n] w fun e w' => e = .returned (.tuple #[.slice none 0 0, .int .i64 4]) ∧ Rd w' base b v bs a why wat ∧ w.grownBy w' (some b) := by
  have HR := hid h
  have h0 := h.c0
  have h1 := h.c1
  have hl := h.own.len
  have hle := h.le
  obtain ⟨ad, cap, rfl⟩ := h.own.shape
  clear h
  have hd : (bs.length : Int) - (a : Int) < (n : Int) := by omega
  go_enter Try.func105, Try.ntmps105
  go_wp2_with fail
  refine (pleft_any _ _ _ (a : Int) _ _ hl (by omega) (by omega) h0 h1).mono ?_
  rintro e w2 ⟨rfl, q, rfl⟩
  go_wp2
  go_ret2
  exact ⟨rfl, HR.out.drewN q, gb_drewN _ _ _⟩

set_option maxRecDepth 100000 in
set_option maxHeartbeats 1000000 in
theorem raw_ok (n : Nat) (h : Rd w base b v bs a why wat) (hbl : bs.length ≤ 140737488355327) (hgt : a + n ≤ bs.length) :
    Calls Try.prog 105 #[.pointer (some ⟨b, 0, none⟩), .int .i64 n] w fun e w' => ∃ v', e = .returned (.tuple #[v', .int .i64 0]) ∧ OwnB w' w.heap.size v' ((bs.drop a).take n) ∧ Rd w' base b v bs (a + n) why wat ∧ w.grownBy w' (some b) := by
  have HR := hid h
  have h0 := h.c0
  have h1 := h.c1
  have f1 := h.fz 1
  have hl := h.own.len
  have hle := h.le
  obtain ⟨ad, cap, rfl⟩ := h.own.shape
  clear h
  have hl' := hl
  unfold maxLen at hl'
  have hd : ¬ ((bs.length : Int) - (a : Int) < (n : Int)) := by omega
  go_enter Try.func105, Try.ntmps105
  go_wp2_with fail
  refine (pleft_any _ _ _ (a : Int) _ _ hl (by omega) (by omega) h0 h1).mono ?_
  rintro e w2 ⟨rfl, q, rfl⟩
  go_wp2_with fail
  have hA : ((a : Int) + (n : Int)) = ((a + n : Nat) : Int) := by omega
  rw [hA]
  have R3 := (HR.out.drewN q).setAt (a + n) hgt
  have HR3 := hid R3
  have HG3 := hid (gb_trans (gb_drewN w q (some b)) (gb_set _ ⟨b, 1, none⟩ (.int .i64 ((a + n : Nat) : Int))))
  have HSZ := hid (by simp : ((w.drewN q).setCell ⟨b, 1, none⟩ (.int .i64 ((a + n : Nat) : Int))).heap.size = w.heap.size)
  clear R3 hA h0 h1 f1
  generalize ((w.drewN q).setCell ⟨b, 1, none⟩ (.int .i64 ((a + n : Nat) : Int))) = W3 at *
  have c0 := HR3.out.c0
  have HC1 := hid HR3.out.c1
  -- what is cut out
  have HCUT := hid (cut_out base bs a W3.drew n ad cap HR3.out.drew.own hbl hgt)
  obtain ⟨vx, hsx, hrx⟩ := HCUT.out
  have HSX := hid hsx
  clear hsx HCUT
  generalize hAe : a + n = A at *
  have c1 := HC1.out
  have hw : IntKind.i64.wrap ((A : Int) - (n : Int)) = (a : Int) := by rw [IntKind.wrap_i64]; omega
  have HAE := hid hAe
  clear hAe
  go_region_law (refine step_app_nil rfl _ _ rfl rfl _ _ rfl HSX.out ?_; intro v9 w9 ho9 hb9; have HO9 := hid ho9; have HB9 := hid hb9; clear ho9 hb9)
  all_goals
    go_wp2
    go_ret2
    have HF := hid (((Below.refl W3.heap.size W3).drew).trans HB9.out : Below W3.heap.size W3 w9)
    refine ⟨_, rfl, ?_, ?_, ?_⟩
    · rw [← HSZ.out]; exact HO9.out
    · rw [HAE.out]; exact HR3.out.below HF.out
    · exact gb_trans HG3.out (below_gb HF.out _)
end

end Go.Proofs.Ytgoalfiinfkldaa

/- The calls Uint, Int, Count, Bool, Text and Raw of a reader that NewReader gave. -/
namespace Go.Proofs.Ytgoalfiinfkldaa
open Go.RowKit

theorem ret_u8 {a b : Int} (h : a = b) : Ending.returned (.int .u8 a) = .returned (.int .u8 b) := by rw [h]
theorem ret_str {a b : ByteArray} (h : a = b) : Ending.returned (.string a) = .returned (.string b) := by rw [h]
/-- the number with a sign that a number stands for -/
def uz (n : Nat) : Int := if n % 2 = 1 then -((n / 2 : Nat) : Int) - 1 else ((n / 2 : Nat) : Int)

theorem bits_and_one (n : Nat) (hn : n < 18446744073709551616) : bits BinOp.and IntKind.u64 (n : Int) 1 = ((n % 2 : Nat) : Int) := by
  show IntKind.u64.wrap ((BitVec.ofInt 64 (n : Int) &&& BitVec.ofInt 64 ((1 : Nat) : Int)).toNat : Int) = _
  rw [BitVec.toNat_and, bv_u64 n hn, bv_u64 1 (by decide), Nat.and_one_is_mod, IntKind.wrap_u64]
  omega

theorem one_bound (w : World) (n : Int) : ∀ i : Nat, i < 1 → (w.alloc (.cells #[.int .i64 n] 3)).cell? ⟨w.heap.size, i, none⟩ = some (.int .i64 ((fun _ => n) i)) := by
  intro i hi
  obtain rfl : i = 0 := by omega
  simp

section

variable (base b : Nat) (v : Value) (bs : List UInt8) (a : Nat) (why wat : Int) (w : World)


/-- where the fault is, behind a read -/
def watOf (er a : Nat) (wat : Int) : Int := if er ≠ 0 then (a : Int) else wat
/-- the state behind a read: its error is the fault, at the place -/
theorem Rd.after {w : World} {base b : Nat} {v : Value} {bs : List UInt8} {a k er : Nat} {wat : Int} (hk : er ≠ 0 → k = 0)
    (h : Rd w base b v bs (a + k) (if (0 : Int) = 0 then (er : Int) else 0) (if (0 : Int) = 0 ∧ (er : Int) ≠ 0 then ((a + k : Nat) : Int) else wat)) : Rd w base b v bs (a + k) er (watOf er a wat) := by
  unfold watOf
  by_cases he : er = 0
  · subst he; simpa using h
  · have := hk he
    subst this
    simpa [he] using h

set_option maxHeartbeats 400000 in
theorem uint_over (h : Rd w base b v bs a why wat) (hw : why ≠ 0) :
    Calls Try.prog 31 #[.pointer (some ⟨b, 0, none⟩)] w fun e w' => e = .returned (.int .u64 0) ∧ w' = w := by
  have h4 := h.c4
  have h2 := h.c2
  have hb : (why != 0) = true := by simpa using hw
  clear h hw
  go_enter Try.func31, Try.ntmps31
  go_wp2_with (first
    | (go_at_call 51; refine (own_made _ _ h4).mono ?_; rintro e w' ⟨rfl, rfl⟩)
    | (go_at_call 52; refine (may_none _ _ _ h2).mono ?_; rintro e w' ⟨rfl, rfl⟩))
  go_ret
  exact ⟨rfl, rfl⟩

set_option maxHeartbeats 400000 in
theorem uint_go (h : Rd w base b v bs a 0 wat) (er n k : Nat) (hdec : dec (bs.drop a) 0 0 = (er, n, k)) :
    Calls Try.prog 31 #[.pointer (some ⟨b, 0, none⟩)] w fun e w' => e = .returned (.int .u64 n) ∧ Rd w' base b v bs (a + k) er (watOf er a wat) ∧ w.grownBy w' (some b) := by
  have HD := hid hdec
  have HK := hid (fun e => ((dec_le _ hdec).2.2.2 e).2 : er ≠ 0 → k = 0)
  clear hdec
  have h4 := h.c4
  have h2 := h.c2
  have HH := hid h
  clear h
  go_enter Try.func31, Try.ntmps31
  go_wp2_with fail
  refine (own_made _ _ h4).mono ?_
  rintro e w' ⟨rfl, rfl⟩
  go_wp2_with fail
  refine (may_none _ _ _ h2).mono ?_
  rintro e w' ⟨rfl, rfl⟩
  go_wp2_with fail
  refine (number_any _ _ _ _ _ _ _ _ HH.out _ _ _ HD.out).mono ?_
  rintro e w1 ⟨rfl, hR, hg⟩
  have HR := hid hR
  have HG := hid hg
  clear hR hg
  go_wp2_with fail
  refine (wfail_any _ _ _ _ _ _ _ _ _ HR.out).mono ?_
  rintro e w2 ⟨rfl, hR2, hg2⟩
  have HR2 := hid (Rd.after HK.out hR2)
  have HG2 := hid (gb_trans HG.out hg2)
  clear hR2 hg2
  go_wp2
  go_ret
  exact ⟨rfl, HR2.out, HG2.out⟩

set_option maxHeartbeats 400000 in
theorem count_over (m : Int) (h : Rd w base b v bs a why wat) (hw : why ≠ 0) :
    Calls Try.prog 71 #[.pointer (some ⟨b, 0, none⟩), .int .i64 m] w fun e w' => e = .returned (.int .i64 0) ∧ Rd w' base b v bs a why wat ∧ w.grownBy w' (some b) := by
  have h4 := h.c4
  have HH := hid (h.below (below_walk w (.cells #[.int .i64 m] 3)))
  have HW := hid hw
  have hb : (why != 0) = true := by simpa using hw
  clear h hw
  go_enter Try.func71, Try.ntmps71
  go_wp2_with fail
  refine (own_made _ _ h4).mono ?_
  rintro e w' ⟨rfl, rfl⟩
  go_wp2_with fail
  refine (may_ok _ _ 1 why (fun _ => m) _ (by omega) HH.out.c2 (one_bound _ _) (Or.inl HW.out)).mono ?_
  rintro e w1 ⟨rfl, rfl⟩
  go_wp2
  go_ret
  exact ⟨rfl, HH.out, gb_alloc _ _ _⟩

set_option maxHeartbeats 400000 in
theorem count_arg (m : Int) (h : Rd w base b v bs a 0 wat) (hm : m < 0) :
    Calls Try.prog 71 #[.pointer (some ⟨b, 0, none⟩), .int .i64 m] w fun e w' => e = .returned (.int .i64 0) ∧ Rd w' base b v bs a 1 a ∧ w.grownBy w' (some b) := by
  have h4 := h.c4
  have hlt := h.lt
  have H0 := hid h
  have HH := hid (h.below (below_walk w (.cells #[.int .i64 m] 3)))
  have HM := hid hm
  clear h hm
  go_enter Try.func71, Try.ntmps71
  go_wp2_with fail
  refine (own_made _ _ h4).mono ?_
  rintro e w' ⟨rfl, rfl⟩
  go_wp2_with fail
  refine (may_bad _ _ 1 a (fun _ => m) _ _ (by omega) (by omega) HH.out.c1 HH.out.c2 HH.out.c3 (HH.out.fz _) (HH.out.fz _) (one_bound _ _) ⟨0, by omega, HM.out⟩).mono ?_
  rintro e w1 ⟨rfl, rfl⟩
  go_wp2
  go_ret
  exact ⟨rfl, (H0.out.setFault 1 a).below (below_walk _ _), gb_trans (gb_trans (gb_set _ _ _) (gb_set _ _ _)) (gb_alloc _ _ _)⟩

set_option maxHeartbeats 400000 in
theorem count_go (m : Nat) (hm : m ≤ 9223372036854775807) (h : Rd w base b v bs a 0 wat) (er n k : Nat) (hup : upTo (bs.drop a) m 11 = (er, n, k)) :
    Calls Try.prog 71 #[.pointer (some ⟨b, 0, none⟩), .int .i64 m] w fun e w' => e = .returned (.int .i64 n) ∧ Rd w' base b v bs (a + k) er (watOf er a wat) ∧ w.grownBy w' (some b) := by
  have HU := hid hup
  have HK := hid (fun e => ((upTo_le hup).2.2 e).2 : er ≠ 0 → k = 0)
  clear hup
  have h4 := h.c4
  have HH := hid (h.below (below_walk w (.cells #[.int .i64 (m : Int)] 3)))
  clear h
  go_enter Try.func71, Try.ntmps71
  go_wp2_with fail
  refine (own_made _ _ h4).mono ?_
  rintro e w' ⟨rfl, rfl⟩
  go_wp2_with fail
  refine (may_ok _ _ 1 0 (fun _ => (m : Int)) _ (by omega) HH.out.c2 (one_bound _ _) (Or.inr (fun _ _ => by omega))).mono ?_
  rintro e w1 ⟨rfl, rfl⟩
  go_wp2_with fail
  refine (numberUpTo_any _ _ _ _ _ _ _ _ m 11 HH.out hm (by omega) _ _ _ HU.out).mono ?_
  rintro e w1 ⟨rfl, hR, hg⟩
  have HR := hid hR
  have HG := hid hg
  clear hR hg
  go_wp2_with fail
  refine (wfail_any _ _ _ _ _ _ _ _ _ HR.out).mono ?_
  rintro e w2 ⟨rfl, hR2, hg2⟩
  have HR2 := hid (Rd.after HK.out hR2)
  have HG2 := hid (gb_trans (gb_trans (gb_alloc _ _ _) HG.out) hg2)
  clear hR2 hg2
  go_wp2
  go_ret
  exact ⟨rfl, HR2.out, HG2.out⟩

set_option maxHeartbeats 400000 in
theorem textr_over (m : Int) (h : Rd w base b v bs a why wat) (hw : why ≠ 0) :
    Calls Try.prog 104 #[.pointer (some ⟨b, 0, none⟩), .int .i64 m] w fun e w' => e = .returned (.string ⟨#[]⟩) ∧ Rd w' base b v bs a why wat ∧ w.grownBy w' (some b) := by
  have h4 := h.c4
  have HH := hid (h.below (below_walk w (.cells #[.int .i64 m] 3)))
  have HW := hid hw
  have hb : (why != 0) = true := by simpa using hw
  clear h hw
  go_enter Try.func104, Try.ntmps104
  go_wp2_with fail
  refine (own_made _ _ h4).mono ?_
  rintro e w' ⟨rfl, rfl⟩
  go_wp2_with fail
  refine (may_ok _ _ 1 why (fun _ => m) _ (by omega) HH.out.c2 (one_bound _ _) (Or.inl HW.out)).mono ?_
  rintro e w1 ⟨rfl, rfl⟩
  go_wp2
  go_ret
  exact ⟨rfl, HH.out, gb_alloc _ _ _⟩

set_option maxHeartbeats 400000 in
theorem textr_arg (m : Int) (h : Rd w base b v bs a 0 wat) (hm : m < 0) :
    Calls Try.prog 104 #[.pointer (some ⟨b, 0, none⟩), .int .i64 m] w fun e w' => e = .returned (.string ⟨#[]⟩) ∧ Rd w' base b v bs a 1 a ∧ w.grownBy w' (some b) := by
  have h4 := h.c4
  have hlt := h.lt
  have H0 := hid h
  have HH := hid (h.below (below_walk w (.cells #[.int .i64 m] 3)))
  have HM := hid hm
  clear h hm
  go_enter Try.func104, Try.ntmps104
  go_wp2_with fail
  refine (own_made _ _ h4).mono ?_
  rintro e w' ⟨rfl, rfl⟩
  go_wp2_with fail
  refine (may_bad _ _ 1 a (fun _ => m) _ _ (by omega) (by omega) HH.out.c1 HH.out.c2 HH.out.c3 (HH.out.fz _) (HH.out.fz _) (one_bound _ _) ⟨0, by omega, HM.out⟩).mono ?_
  rintro e w1 ⟨rfl, rfl⟩
  go_wp2
  go_ret
  exact ⟨rfl, (H0.out.setFault 1 a).below (below_walk _ _), gb_trans (gb_trans (gb_set _ _ _) (gb_set _ _ _)) (gb_alloc _ _ _)⟩

set_option maxHeartbeats 400000 in
theorem textr_go (m : Nat) (hm : m ≤ 9223372036854775807) (h : Rd w base b v bs a 0 wat) (hbl : bs.length ≤ 140737488355327) (er k : Nat) (s : List UInt8) (ht : wtxt (bs.drop a) m = (er, s, k)) :
    Calls Try.prog 104 #[.pointer (some ⟨b, 0, none⟩), .int .i64 m] w fun e w' => e = .returned (.string ⟨s.toArray⟩) ∧ Rd w' base b v bs (a + k) er (watOf er a wat) ∧ w.grownBy w' (some b) := by
  have HU := hid ht
  have HK := hid (fun e => ((txt_le ht).2.2 e).2 : er ≠ 0 → k = 0)
  clear ht
  have h4 := h.c4
  have HH := hid (h.below (below_walk w (.cells #[.int .i64 (m : Int)] 3)))
  clear h
  go_enter Try.func104, Try.ntmps104
  go_wp2_with fail
  refine (own_made _ _ h4).mono ?_
  rintro e w' ⟨rfl, rfl⟩
  go_wp2_with fail
  refine (may_ok _ _ 1 0 (fun _ => (m : Int)) _ (by omega) HH.out.c2 (one_bound _ _) (Or.inr (fun _ _ => by omega))).mono ?_
  rintro e w1 ⟨rfl, rfl⟩
  go_wp2_with fail
  refine (text_any _ _ _ _ _ _ _ _ m HH.out hbl hm _ _ _ HU.out).mono ?_
  rintro e w1 ⟨rfl, hR, hg⟩
  have HR := hid hR
  have HG := hid hg
  clear hR hg
  go_wp2_with fail
  refine (wfail_any _ _ _ _ _ _ _ _ _ HR.out).mono ?_
  rintro e w2 ⟨rfl, hR2, hg2⟩
  have HR2 := hid (Rd.after HK.out hR2)
  have HG2 := hid (gb_trans (gb_trans (gb_alloc _ _ _) HG.out) hg2)
  clear hR2 hg2
  go_wp2
  go_ret
  exact ⟨rfl, HR2.out, HG2.out⟩

set_option maxHeartbeats 400000 in
theorem rawr_over (m : Int) (h : Rd w base b v bs a why wat) (hw : why ≠ 0) :
    Calls Try.prog 98 #[.pointer (some ⟨b, 0, none⟩), .int .i64 m] w fun e w' => e = .returned (.slice none 0 0) ∧ Rd w' base b v bs a why wat ∧ w.grownBy w' (some b) := by
  have h4 := h.c4
  have HH := hid (h.below (below_walk w (.cells #[.int .i64 m] 3)))
  have HW := hid hw
  have hb : (why != 0) = true := by simpa using hw
  clear h hw
  go_enter Try.func98, Try.ntmps98
  go_wp2_with fail
  refine (own_made _ _ h4).mono ?_
  rintro e w' ⟨rfl, rfl⟩
  go_wp2_with fail
  refine (may_ok _ _ 1 why (fun _ => m) _ (by omega) HH.out.c2 (one_bound _ _) (Or.inl HW.out)).mono ?_
  rintro e w1 ⟨rfl, rfl⟩
  go_wp2
  go_ret
  exact ⟨rfl, HH.out, gb_alloc _ _ _⟩

set_option maxHeartbeats 400000 in
theorem rawr_arg (m : Int) (h : Rd w base b v bs a 0 wat) (hm : m < 0) :
    Calls Try.prog 98 #[.pointer (some ⟨b, 0, none⟩), .int .i64 m] w fun e w' => e = .returned (.slice none 0 0) ∧ Rd w' base b v bs a 1 a ∧ w.grownBy w' (some b) := by
  have h4 := h.c4
  have hlt := h.lt
  have H0 := hid h
  have HH := hid (h.below (below_walk w (.cells #[.int .i64 m] 3)))
  have HM := hid hm
  clear h hm
  go_enter Try.func98, Try.ntmps98
  go_wp2_with fail
  refine (own_made _ _ h4).mono ?_
  rintro e w' ⟨rfl, rfl⟩
  go_wp2_with fail
  refine (may_bad _ _ 1 a (fun _ => m) _ _ (by omega) (by omega) HH.out.c1 HH.out.c2 HH.out.c3 (HH.out.fz _) (HH.out.fz _) (one_bound _ _) ⟨0, by omega, HM.out⟩).mono ?_
  rintro e w1 ⟨rfl, rfl⟩
  go_wp2
  go_ret
  exact ⟨rfl, (H0.out.setFault 1 a).below (below_walk _ _), gb_trans (gb_trans (gb_set _ _ _) (gb_set _ _ _)) (gb_alloc _ _ _)⟩

set_option maxHeartbeats 400000 in
theorem rawr_short (m : Nat) (h : Rd w base b v bs a 0 wat) (hgt : bs.length - a < m) :
    Calls Try.prog 98 #[.pointer (some ⟨b, 0, none⟩), .int .i64 m] w fun e w' => e = .returned (.slice none 0 0) ∧ Rd w' base b v bs a 4 a ∧ w.grownBy w' (some b) := by
  have h4 := h.c4
  have HH := hid (h.below (below_walk w (.cells #[.int .i64 (m : Int)] 3)))
  clear h
  go_enter Try.func98, Try.ntmps98
  go_wp2_with fail
  refine (own_made _ _ h4).mono ?_
  rintro e w' ⟨rfl, rfl⟩
  go_wp2_with fail
  refine (may_ok _ _ 1 0 (fun _ => (m : Int)) _ (by omega) HH.out.c2 (one_bound _ _) (Or.inr (fun _ _ => by omega))).mono ?_
  rintro e w1 ⟨rfl, rfl⟩
  go_wp2_with fail
  refine (raw_short _ _ _ _ _ _ _ _ m HH.out hgt).mono ?_
  rintro e w1 ⟨rfl, hR, hg⟩
  have HR := hid hR
  have HG := hid hg
  clear hR hg
  go_wp2_with fail
  refine (wfail_any _ _ _ _ _ _ _ _ _ HR.out).mono ?_
  rintro e w2 ⟨rfl, hR2, hg2⟩
  have HR2 := hid hR2
  have HG2 := hid (gb_trans (gb_trans (gb_alloc _ _ _) HG.out) hg2)
  clear hR2 hg2
  go_wp2
  go_ret
  exact ⟨rfl, by simpa using HR2.out, HG2.out⟩

set_option maxHeartbeats 400000 in
theorem rawr_ok (m : Nat) (h : Rd w base b v bs a 0 wat) (hbl : bs.length ≤ 140737488355327) (hgt : a + m ≤ bs.length) :
    Calls Try.prog 98 #[.pointer (some ⟨b, 0, none⟩), .int .i64 m] w fun e w' => ∃ v', e = .returned v' ∧ OwnB w' w.heap.size v' ((bs.drop a).take m) ∧ Rd w' base b v bs (a + m) 0 wat ∧ w.grownBy w' (some b) := by
  have hlt := h.lt
  have h4 := h.c4
  have HH := hid (h.below (below_walk w (.cells #[.int .i64 (m : Int)] 3)))
  clear h
  go_enter Try.func98, Try.ntmps98
  go_wp2_with fail
  refine (own_made _ _ h4).mono ?_
  rintro e w' ⟨rfl, rfl⟩
  go_wp2_with fail
  refine (may_ok _ _ 1 0 (fun _ => (m : Int)) _ (by omega) HH.out.c2 (one_bound _ _) (Or.inr (fun _ _ => by omega))).mono ?_
  rintro e w1 ⟨rfl, rfl⟩
  go_wp2_with fail
  refine (raw_ok _ _ _ _ _ _ _ _ m HH.out hbl hgt).mono ?_
  rintro e w1 ⟨v1, rfl, hO, hR, hg⟩
  have HR := hid hR
  have HG := hid hg
  have HO := hid hO
  clear hR hg hO
  go_wp2_with fail
  refine (wfail_any _ _ _ _ _ _ _ _ _ HR.out).mono ?_
  rintro e w2 ⟨rfl, hR2, hg2⟩
  have HR2 := hid hR2
  have HG2 := hid (gb_trans (gb_trans (gb_alloc _ _ _) HG.out) hg2)
  have HO2 := hid (HO.out.far hg2 (fun j e => by cases e; simp; omega))
  clear hR2 hg2
  go_wp2
  go_ret
  exact ⟨_, rfl, HO2.out.le (by simp), by simpa using HR2.out, HG2.out⟩

end

end Go.Proofs.Ytgoalfiinfkldaa
