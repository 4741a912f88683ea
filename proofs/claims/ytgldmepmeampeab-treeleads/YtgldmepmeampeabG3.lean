/- Contracts and pure facts that the proof needs, joined. -/
import Derived.Test.YtgldmepmeampeabG1
import Derived.Test.YtgldmepmeampeabG2
import Derived.Deep.MidRow

/- Slices of changes in memory, of one's own or wherever they lie. -/
namespace Go.Proofs.Ytgldmepmeampeab
open Go.RowKit

def chgV (c : Chg) : List Value := [.string (mk c.1), .string (mk c.2.1.1), .int .i64 c.2.1.2.1, .string (mk c.2.1.2.2), .string (mk c.2.2.1), .int .i64 c.2.2.2.1, .string (mk c.2.2.2.2)]
def chgsV (cs : List Chg) : List Value := cs.flatMap chgV
theorem chgsV_cons (c : Chg) (cs : List Chg) : chgsV (c :: cs) = chgV c ++ chgsV cs := rfl
theorem chgsV_app (a b : List Chg) : chgsV (a ++ b) = chgsV a ++ chgsV b := by simp [chgsV]
theorem chgsV_length (cs : List Chg) : (chgsV cs).length = cs.length * 7 := by
  induction cs with
  | nil => rfl
  | cons c cs ih => rw [chgsV_cons, List.length_append, ih, List.length_cons]; simp [chgV]; omega
theorem chgsV_one (cs : List Chg) : ∀ u ∈ chgsV cs, u.oneCell' = true := by
  intro u hu
  simp only [chgsV, List.mem_flatMap] at hu
  obtain ⟨e, _, hu⟩ := hu
  simp only [chgV, List.mem_cons, List.not_mem_nil, or_false] at hu
  rcases hu with rfl | rfl | rfl | rfl | rfl | rfl | rfl <;> rfl
theorem Try.infoChg : (Try.prog.info? 58).map (fun i => (i.zero, i.size, i.bytes)) = some (some (.agg #[.string ⟨#[]⟩, .string ⟨#[]⟩, .int .i64 0, .string ⟨#[]⟩, .string ⟨#[]⟩, .int .i64 0, .string ⟨#[]⟩]), 7, 96) := by kernel_rfl

/-- v is a slice that holds the changes cs, wherever they lie -/
def Chgs (w : World) (v : Value) (cs : List Chg) : Prop :=
  (∃ ao c, v = .slice ao 0 c ∧ cs = [] ∧ (ao = none → c = 0)) ∨ ∃ g o c, v = .slice (some ⟨g, o, none⟩) cs.length c ∧ g < w.heap.size ∧ cs.length ≤ c ∧ ∀ j u, (chgsV cs)[j]? = some u → w.cell? ⟨g, o + j, none⟩ = some u
theorem Chgs.below {w w' : World} {v : Value} {cs : List Chg} (h : Chgs w v cs) (hb : Below w.heap.size w w') : Chgs w' v cs := by
  rcases h with h | ⟨g, o, c, hv, hlt, h1, hc⟩
  · exact Or.inl h
  · exact Or.inr ⟨g, o, c, hv, Nat.lt_of_lt_of_le hlt hb.size, h1, fun j u hj => (hb.cell (p := ⟨g, o + j, none⟩) hlt).trans (hc j u hj)⟩
theorem Chgs.shape {w : World} {v : Value} {cs : List Chg} (h : Chgs w v cs) : ∃ ao c, v = .slice ao cs.length c := by
  rcases h with ⟨ao, c, hv, rfl, _⟩ | ⟨g, o, c, hv, _⟩
  · exact ⟨ao, c, hv⟩
  · exact ⟨_, _, hv⟩
theorem Chgs.nil (w : World) : Chgs w (.slice none 0 0) [] := Or.inl ⟨_, _, rfl, rfl, fun _ => rfl⟩
def zC : Chg := ([], zE, zE)
theorem chgsV_get (cs : List Chg) (j i : Nat) (hj : j < cs.length) (hi : i < 7) : (chgsV cs)[j * 7 + i]? = (chgV (cs.getD j zC))[i]? := by
  induction cs generalizing j with
  | nil => simp at hj
  | cons c cs ih =>
    have hl : (chgV c).length = 7 := rfl
    cases j with
    | zero => rw [chgsV_cons, List.getElem?_append_left (by omega), Nat.zero_mul, Nat.zero_add]; rfl
    | succ j =>
      rw [chgsV_cons, List.getElem?_append_right (by omega), hl, show (j + 1) * 7 + i - 7 = j * 7 + i by omega, ih j (by simpa using hj)]
      rfl
/-- the cells of one change -/
theorem Chgs.at {w : World} {ao : Option Addr} {n c : Nat} {cs : List Chg} (h : Chgs w (.slice ao n c) cs) (k : Nat) (hk : k < cs.length) :
    ∃ g o, ao = some ⟨g, o, none⟩ ∧ g < w.heap.size ∧ ∀ i u, (chgV (cs.getD k zC))[i]? = some u → w.cell? ⟨g, o + k * 7 + i, none⟩ = some u := by
  rcases h with ⟨_, _, _, h0, _⟩ | ⟨g, o, c, hv, hlt, _, hc⟩
  · rw [h0] at hk; simp at hk
  · injection hv with h1 _ _
    refine ⟨g, o, h1, hlt, fun i u hu => ?_⟩
    have hi : i < 7 := (List.getElem?_eq_some_iff.1 hu).1
    rw [Nat.add_assoc]
    exact hc _ u (by rw [chgsV_get cs k i hk hi]; exact hu)
/-- one change in a block of its own -/
theorem chgs_one (w : World) (c : Chg) : Chgs (w.alloc (.cells (chgV c).toArray 58)) (.slice (some ⟨w.heap.size, 0, none⟩) 1 1) [c] := by
  refine Or.inr ⟨w.heap.size, 0, 1, rfl, by simp, by simp, fun j u hu => ?_⟩
  have hu : (chgV c)[j]? = some u := by simpa [chgsV] using hu
  have hn := hp_new w (.cells (chgV c).toArray 58)
  rw [Nat.zero_add]
  simp only [World.cell?, hn]
  simpa using hu

/-- v owns the changes cs, in memory from block 'base' on -/
def OwnC (w : World) (base : Nat) (v : Value) (cs : List Chg) : Prop := w.ownsRow base 58 7 v cs.length (chgsV cs)
theorem OwnC.nil (w : World) (base : Nat) : OwnC w base (.slice none 0 0) [] := World.ownsRow_nil _ _ _ _
theorem OwnC.lt {w : World} {base : Nat} {v : Value} {cs : List Chg} (h : OwnC w base v cs) : ∀ k, v.ownBlock = some k → base ≤ k ∧ k < w.heap.size := World.ownsRow.lt h
theorem OwnC.kept {w w' : World} {base : Nat} {v : Value} {cs : List Chg} {row : Option Nat} (h : OwnC w base v cs) (hg : w.grownBy w' row) (hne : v.ownBlock = none ∨ v.ownBlock ≠ row) : OwnC w' base v cs := World.ownsRow.kept h hg hne
theorem OwnC.below {w w' : World} {base : Nat} {v : Value} {cs : List Chg} (h : OwnC w base v cs) (hb : Below w.heap.size w w') : OwnC w' base v cs :=
  World.ownsRow.kept h (below_gb hb none) (by cases e : v.ownBlock <;> simp)
theorem OwnC.le {w : World} {base base' : Nat} {v : Value} {cs : List Chg} (h : OwnC w base v cs) (hb : base' ≤ base) : OwnC w base' v cs :=
  ⟨h.1, h.2.elim Or.inl (fun ⟨g, cap, cur, hv, hg, r⟩ => Or.inr ⟨g, cap, cur, hv, Nat.le_trans hb hg, r⟩)⟩
theorem OwnC.chgs {w : World} {base : Nat} {v : Value} {cs : List Chg} (h : OwnC w base v cs) : Chgs w v cs := by
  have h' := h
  rcases h.2 with ⟨h0, h1⟩ | ⟨g, cap, cur, hv, hb, hh, h1, h2, _, _⟩
  · have : cs = [] := List.length_eq_zero_iff.1 h1
    subst this
    exact Or.inl ⟨_, _, h0, rfl, fun _ => rfl⟩
  · refine Or.inr ⟨g, 0, cap, hv, (World.ownsRow.lt h' g (by rw [hv]; rfl)).2, h1, fun j u hj => ?_⟩
    have c0 := World.ownsRow.cells h' (g := g) (by rw [hv]; rfl) _ _ hj
    rw [addr_add] at c0
    rw [Nat.zero_add]
    exact c0

/-- append(own, changes...) -/
theorem app_chg {w : World} {ops : Array Oper} {rest : List Oper} {o : Oper} {a : Act} {Q : Exit → Act → World → Prop} (hgd : o.guard = none) (s x : Operand)
    (ho : o.op = .call { callee := .builtin .append, args := #[s, x], argTypes := #[26, 26] })
    (base : Nat) (v : Value) (ts : List Chg) (hs : a.eval s = v) (hown : OwnC w base v ts) (us : List Chg) (vx : Value) (hx : a.eval x = vx) (hc : Chgs w vx us)
    (hlen : ts.length + us.length ≤ 1099511627776) (hbase : base ≤ w.heap.size)
    (h : ∀ v' w', OwnC w' base v' (ts ++ us) → w.grownBy w' v.ownBlock → (v'.ownBlock = v.ownBlock ∨ v'.ownBlock = some w.heap.size) → wpList Try.prog ops Q rest (a.put o.dst v') w') : wpList Try.prog ops Q (o :: rest) a w := by
  obtain ⟨i0, hi, hz0, hz1, hz2⟩ := info_parts Try.infoChg
  have fin : ∀ (ad : Addr) (m c : Nat) (news : List Value), news = chgsV us → vx = .slice (some ad) m c → m = us.length → (∀ j u, news[j]? = some u → w.cell? (ad.add j) = some u) → wpList Try.prog ops Q (o :: rest) a w := by
    intro ad m c news hn hv hm hcl
    subst hn hv hm
    refine wpList_plain hgd fun K hK => ?_
    have hl : (chgsV us).length = us.length * 7 := chgsV_length us
    obtain ⟨v', w', hr, h2, h3, _⟩ := run_append_own (P := Try.prog) w base 26 o.type 58 i0 (.agg #[.string ⟨#[]⟩, .string ⟨#[]⟩, .int .i64 0, .string ⟨#[]⟩, .string ⟨#[]⟩, .int .i64 0, .string ⟨#[]⟩]) 7 96 Try.underlying26 hi hz0 hz1 hz2 rfl (by decide) v ts.length (chgsV ts) hown ad us.length c (chgsV us) hl hcl (chgsV_one us) (by unfold maxLen; omega) (by omega) hbase
    have hp := app_place (P := Try.prog) w base 26 o.type 58 i0 (.agg #[.string ⟨#[]⟩, .string ⟨#[]⟩, .int .i64 0, .string ⟨#[]⟩, .string ⟨#[]⟩, .int .i64 0, .string ⟨#[]⟩]) 7 96 Try.underlying26 hi hz0 hz1 hz2 v ts.length (chgsV ts) hown ad us.length c (chgsV us) hl hcl (chgsV_one us) (by unfold maxLen; omega) (by omega) v' w' hr
    unfold Oper.wp execOp
    simp only [ho, resolve, invoke, builtin, Sem.run_bind, Sem.run_pure, Result.andThen_ok, List.map_toArray, List.map_cons, List.map_nil, hs, hx, hr]
    refine hK _ _ (h v' w' ?_ h3 hp)
    unfold OwnC
    rw [List.length_append, chgsV_app]
    exact h2
  rcases hc with ⟨ao, c, rfl, rfl, h0⟩ | ⟨g, off, c, rfl, hlt, h1, h2⟩
  · cases ao with
    | none =>
      obtain rfl := h0 rfl
      refine wpList_append_own_none hgd s x 26 ho base 58 i0 7 Try.underlying26 hi v ts.length _ hs hown hx ?_
      exact h v w (by simpa using hown) (gb_refl _ _) (Or.inl rfl)
    | some ad => exact fin ad 0 c [] rfl rfl rfl (fun j u hj => by simp at hj)
  · refine fin ⟨g, off, none⟩ _ c _ rfl rfl rfl ?_
    intro i u hi
    rw [show (⟨g, off, none⟩ : Addr).add i = ⟨g, off + i, none⟩ by by_cases h0 : i = 0 <;> simp [Addr.add, h0]]
    exact h2 i u hi

end Go.Proofs.Ytgldmepmeampeab

/- Changes are compared. -/
namespace Go.Proofs.Ytgldmepmeampeab
open Go.RowKit

theorem chgG : Try.prog.eqGuardType Try.prog.depth 58 = false := by kernel_rfl
theorem eqc_run (p q s1 s2 d1 d2 s3 s4 d3 d4 : ByteArray) (k1 k2 k3 k4 : Int) (w : World) : (Op.equalIn 10000 58 (.agg #[.string p, .string s1, .int .i64 k1, .string d1, .string s3, .int .i64 k3, .string d3]) (.agg #[.string q, .string s2, .int .i64 k2, .string d2, .string s4, .int .i64 k4, .string d4])).run Try.prog w
    = .ok (p.toList == q.toList && (s1.toList == s2.toList && k1 == k2 && d1.toList == d2.toList) && (s3.toList == s4.toList && k3 == k4 && d3.toList == d4.toList)) w := by
  have hS : Try.prog.underlying 58 = some (.struct (Try.prog.fieldsOf 58)) := by kernel_rfl
  have hp : Try.prog.stoodInHeld 58 = false := by kernel_rfl
  have u9 := Try.underlying9
  have a9 := Try.isAgg9
  have z9 := Try.sizeOf9
  have u36 := Try.underlying35
  have a36 := Try.isAgg35
  have z36 := Try.sizeOf35
  have u3 := Try.underlying3
  have a3 := Try.isAgg3
  have z3 := Try.sizeOf3
  rw [show (10000 : Nat) = 9999 + 1 from rfl, run_equalIn_agg w 9999 58 _ _ hS hp]
  simp only [Program.fieldsOf, Try.underlying58]
  go_simp
  by_cases h1 : p.toList = q.toList <;> simp [h1]
  by_cases h2 : s1.toList = s2.toList <;> simp [h2]
  by_cases h3 : k1 = k2 <;> simp [h3]
  by_cases h4 : d1.toList = d2.toList <;> simp [h4]
  by_cases h5 : s3.toList = s4.toList <;> simp [h5]
  by_cases h6 : k3 = k4 <;> simp [h6]
  by_cases h7 : d3.toList = d4.toList <;> simp [h7]
/-- a change as it is loaded -/
def chgA (c : Chg) : Value := .agg #[.string (mk c.1), .string (mk c.2.1.1), .int .i64 c.2.1.2.1, .string (mk c.2.1.2.2), .string (mk c.2.2.1), .int .i64 c.2.2.2.1, .string (mk c.2.2.2.2)]
theorem eqb_chg (a b : Chg) : ((mk a.1).toList == (mk b.1).toList && ((mk a.2.1.1).toList == (mk b.2.1.1).toList && a.2.1.2.1 == b.2.1.2.1 && (mk a.2.1.2.2).toList == (mk b.2.1.2.2).toList) && ((mk a.2.2.1).toList == (mk b.2.2.1).toList && a.2.2.2.1 == b.2.2.2.1 && (mk a.2.2.2.2).toList == (mk b.2.2.2.2).toList)) = decide (a = b) := by
  rw [eqb_ent, eqb_ent]
  have e1 : ∀ l, (mk l).toList = l := bl_mk
  rw [e1, e1, Bool.eq_iff_iff]
  obtain ⟨p, x, y⟩ := a
  obtain ⟨p', x', y'⟩ := b
  simp [and_assoc]
theorem neq_chg (a b : Chg) (w : World) : (binOp .neq 58 (chgA a) (chgA b)).run Try.prog w = .ok (.bool (!decide (a = b))) w := by
  unfold chgA
  rw [run_neq_struct, eqc_run, eqb_chg]
  rfl

end Go.Proofs.Ytgldmepmeampeab

/- A change in a block of its own. -/
namespace Go.Proofs.Ytgldmepmeampeab
open Go.RowKit

/-- block b holds the change c -/
def Cb (w : World) (b : Nat) (c : Chg) : Prop := w.heap[b]? = some (.cells (chgV c).toArray 58 (0, 0))
theorem Cb.lt {w : World} {b : Nat} {c : Chg} (h : Cb w b c) : b < w.heap.size := (Array.getElem?_eq_some_iff.1 h).1
theorem Cb.range {w : World} {b : Nat} {c : Chg} (h : Cb w b c) : w.rangeAt b 0 (chgV c) := by
  intro j v hv
  unfold Cb at h
  simp only [World.cell?, h, Nat.zero_add]
  simpa using hv
theorem Cb.there {w : World} {b : Nat} {c : Chg} (h : Cb w b c) : w.there b 0 7 := by
  intro j hj
  unfold Cb at h
  constructor
  · simp only [World.cell?, h, Nat.zero_add]
    simp [chgV]
    omega
  · simp [World.frozen?, h]
theorem Cb.at {w : World} {b : Nat} {c : Chg} (h : Cb w b c) :
    w.cell? ⟨b, 0, none⟩ = some (.string (mk c.1)) ∧ w.cell? ⟨b, 1, none⟩ = some (.string (mk c.2.1.1)) ∧ w.cell? ⟨b, 2, none⟩ = some (.int .i64 c.2.1.2.1) ∧ w.cell? ⟨b, 3, none⟩ = some (.string (mk c.2.1.2.2)) ∧
      w.cell? ⟨b, 4, none⟩ = some (.string (mk c.2.2.1)) ∧ w.cell? ⟨b, 5, none⟩ = some (.int .i64 c.2.2.2.1) ∧ w.cell? ⟨b, 6, none⟩ = some (.string (mk c.2.2.2.2)) := by
  have hr := h.range
  exact ⟨hr 0 _ rfl, hr 1 _ rfl, hr 2 _ rfl, hr 3 _ rfl, hr 4 _ rfl, hr 5 _ rfl, hr 6 _ rfl⟩
theorem Cb.fz {w : World} {b : Nat} {c : Chg} (h : Cb w b c) (i : Nat) : w.frozen? ⟨b, i, none⟩ = false := by
  unfold Cb at h
  simp [World.frozen?, h]
theorem Cb.below {w w' : World} {b : Nat} {c : Chg} (h : Cb w b c) (hb : Below w.heap.size w w') : Cb w' b c := (hb.block b h.lt).trans h
theorem Cb.new (w : World) (c : Chg) : Cb (w.alloc (.cells (chgV c).toArray 58)) w.heap.size c := hp_new _ _
theorem Cb.one {w : World} {b : Nat} {c : Chg} (h : Cb w b c) (i : Nat) (v : Value) (c' : Chg) (hc : (chgV c).toArray.setIfInBounds i v = (chgV c').toArray) : Cb (w.setCell ⟨b, i, none⟩ v) b c' := by
  unfold Cb
  rw [blk_set h, hc]
theorem Cb.other {w : World} {b d i : Nat} {c : Chg} (h : Cb w b c) (hd : b ≠ d) (v : Value) : Cb (w.setCell ⟨d, i, none⟩ v) b c := (Below.heap_setCell w _ v b (by simpa using hd)).trans h
theorem Cb.all {w : World} {b : Nat} {c : Chg} (h : Cb w b c) (c' : Chg) : Cb (w.setCells b 0 (chgV c')) b c' := by
  unfold Cb chgV World.setCells World.setCells World.setCells World.setCells World.setCells World.setCells World.setCells World.setCells
  rw [blk_set (blk_set (blk_set (blk_set (blk_set (blk_set (blk_set h _) _) _) _) _) _) _]
  rfl
theorem belowCs {B g : Nat} {a : World} (hg : B ≤ g) : ∀ (vs : List Value) (o : Nat) (w : World), Below B a w → Below B a (w.setCells g o vs)
  | [], _, _, h => h
  | v :: vs, o, _, h => belowCs hg vs (o + 1) _ (h.setCell (p := ⟨g, o, none⟩) hg v)
theorem info_chg7 (c : Chg) : (Try.prog.info? 58).map (·.size) = some (chgV c).toArray.size := by
  obtain ⟨i0, hi, _, hz1, _⟩ := info_parts Try.infoChg
  rw [hi]
  simp [hz1, chgV]
theorem one_chg7 (c : Chg) : (chgV c).toArray.all (·.oneCell') = true := all_oneCell_toArray (fun v hv => chgsV_one [c] v (by simpa [chgsV] using hv))

end Go.Proofs.Ytgldmepmeampeab

/- Where a path stands, and changes applied, plainly: the changes between two trees lead from the one to the other. -/
namespace Go.Proofs.Ytgldmepmeampeab

/-- where a path stands in a rising row, or would -/
def plP (t : List Ent) (p : List UInt8) : Nat := (t.takeWhile (fun e => decide (cmpL (nms e.1) (nms p) < 0))).length
def thP (t : List Ent) (p : List UInt8) : Bool := (fdP t p).isSome
/-- what stands at a path; the zero entry, if nothing does -/
def stP (t : List Ent) (p : List UInt8) : Ent := (fdP t p).getD zE
structure Plc (t : List Ent) (p : List UInt8) (i : Nat) : Prop where
  le : i ≤ t.length
  lo : ∀ j, j < i → cmpL (nms (t.getD j zE).1) (nms p) < 0
  hi : ∀ j, i ≤ j → j < t.length → ¬ cmpL (nms (t.getD j zE).1) (nms p) < 0
theorem plP_lt {x : Ent} {t : List Ent} {p : List UInt8} (h : cmpL (nms x.1) (nms p) < 0) : plP (x :: t) p = plP t p + 1 := by
  unfold plP
  rw [List.takeWhile_cons, if_pos (by simpa using h)]
  rfl
theorem plP_ge {x : Ent} {t : List Ent} {p : List UInt8} (h : ¬ cmpL (nms x.1) (nms p) < 0) : plP (x :: t) p = 0 := by
  unfold plP
  rw [List.takeWhile_cons, if_neg (by simpa using h)]
  rfl
theorem Plc.eq : ∀ {t : List Ent} {p : List UInt8} {i : Nat}, Plc t p i → i = plP t p
  | [], p, i, h => by have := h.le; simp at this; subst this; rfl
  | x :: t, p, i, h => by
    by_cases hx : cmpL (nms x.1) (nms p) < 0
    · rw [plP_lt hx]
      cases i with
      | zero => exact absurd hx (h.hi 0 (Nat.le_refl _) (by simp))
      | succ i =>
        have : Plc t p i := ⟨by have := h.le; simpa using this, fun j hj => by have := h.lo (j + 1) (by omega); simpa using this, fun j h1 h2 => by have := h.hi (j + 1) (by omega) (by simpa using h2); simpa using this⟩
        rw [← this.eq]
    · rw [plP_ge hx]
      cases i with
      | zero => rfl
      | succ i => exact absurd (h.lo 0 (by omega)) hx
theorem plP_le (t : List Ent) (p : List UInt8) : plP t p ≤ t.length := by
  unfold plP
  exact (List.takeWhile_sublist _).length_le
theorem fdP_cons_ne {x : Ent} {t : List Ent} {p : List UInt8} (h : x.1 ≠ p) : fdP (x :: t) p = fdP t p := by
  unfold fdP
  rw [List.find?_cons, decide_eq_false h]
theorem fdP_cons_eq {x : Ent} {t : List Ent} : fdP (x :: t) x.1 = some x := by
  unfold fdP
  rw [List.find?_cons, decide_eq_true rfl]
theorem cmp_ne {a b : List UInt8} (h : cmpL (nms a) (nms b) < 0) : a ≠ b := fun e => by rw [e, cmpL_self] at h; omega
/-- the place that was found: whether the path stands there -/
theorem Plc.there {t : List Ent} {p : List UInt8} {i : Nat} (_ : Plc t p i) (ht : t.Pairwise ltE) (hi : i < t.length) (h0 : cmpL (nms (t.getD i zE).1) (nms p) = 0) : fdP t p = some (t.getD i zE) := by
  have := fdP_mem ht (getD_mem hi)
  rw [nms_inj (cmpL_zero h0)] at this
  exact this
theorem Plc.lacks {t : List Ent} {p : List UInt8} {i : Nat} (h : Plc t p i) (ht : t.Pairwise ltE) (h0 : i < t.length → cmpL (nms (t.getD i zE).1) (nms p) ≠ 0) : fdP t p = none := by
  rw [fdP_none]
  intro e he hp
  obtain ⟨k, hk, rfl⟩ := List.getElem_of_mem he
  have hg : t.getD k zE = t[k] := by simp [List.getD_eq_getElem?_getD, hk]
  rcases Nat.lt_or_ge k i with h1 | h1
  · exact cmp_ne (h.lo k h1) (by rw [hg]; exact hp)
  · rcases Nat.lt_or_ge i k with h2 | h2
    · have h3 := pair_at ht h2 hk
      unfold ltE at h3
      rw [hg, hp] at h3
      exact h.hi i (Nat.le_refl _) (by omega) h3
    · obtain rfl : k = i := by omega
      exact h0 hk (by rw [hg, hp, cmpL_self])

/-- changes that are made -/
def chgd : List Ent → List Chg → List Ent
  | t, [] => t
  | t, c :: l => t.take (plP t c.1) ++ ((if c.2.2.2.1 = 0 then [] else [c.2.2]) ++ chgd (t.drop (plP t c.1 + (if thP t c.1 then 1 else 0))) l)
/-- may one side of a change be? -/
def sidP (e : Ent) (p : List UInt8) : Bool := decide (e = zE) || (decide (e.1 = p) && mayP e)
def okC (c : Chg) : Bool := !(decide (c.2.1 = zE) && decide (c.2.2 = zE)) && sidP c.2.1 c.1 && sidP c.2.2 c.1
/-- may changes be, behind a path? -/
def mayC : List UInt8 → List Chg → Bool
  | _, [] => true
  | last, c :: l => okC c && decide (cmpL (nms last) (nms c.1) < 0) && mayC c.1 l
/-- what Apply answers -/
def apP (t : List Ent) (l : List Chg) : Except Int (List Ent) :=
  if (chkP t).2 ≠ 0 then .error (chkP t).2 else if mayC [] l = false then .error 1 else if l.any (fun c => decide (stP t c.1 ≠ c.2.1)) = true then .error 8
  else if (chkP (chgd t l)).2 ≠ 0 then .error (chkP (chgd t l)).2 else .ok (chgd t l)
theorem dif_mem : ∀ (n : Nat) (a b : List Ent), a.length + b.length ≤ n → ∀ c ∈ difP a b, ∃ e ∈ a ++ b, c.1 = e.1
  | n, [], [], _, c, hc => by rw [difP] at hc; simp at hc
  | 0, x :: a, b, h, _, _ => by simp at h
  | 0, [], y :: b, h, _, _ => by simp at h
  | n + 1, x :: a, [], h, c, hc => by
    rw [difP, List.mem_cons] at hc
    rcases hc with rfl | hc
    · exact ⟨x, by simp, rfl⟩
    · obtain ⟨e, he, h1⟩ := dif_mem n a [] (by simp at h ⊢; omega) c hc
      exact ⟨e, by simp at he ⊢; exact Or.inr he, h1⟩
  | n + 1, [], y :: b, h, c, hc => by
    rw [difP, List.mem_cons] at hc
    rcases hc with rfl | hc
    · exact ⟨y, by simp, rfl⟩
    · obtain ⟨e, he, h1⟩ := dif_mem n [] b (by simp at h ⊢; omega) c hc
      exact ⟨e, by simp at he ⊢; exact Or.inr he, h1⟩
  | n + 1, x :: a, y :: b, h, c, hc => by
    rw [difP] at hc
    split at hc
    · rw [List.mem_cons] at hc
      rcases hc with rfl | hc
      · exact ⟨x, by simp, rfl⟩
      · obtain ⟨e, he, h1⟩ := dif_mem n a (y :: b) (by simp at h ⊢; omega) c hc
        exact ⟨e, by rw [List.cons_append]; exact List.mem_cons_of_mem _ he, h1⟩
    · split at hc
      · rw [List.mem_append] at hc
        rcases hc with hc | hc
        · split at hc
          · simp at hc
          · rw [List.mem_singleton] at hc
            subst hc
            exact ⟨x, by simp, rfl⟩
        · obtain ⟨e, he, h1⟩ := dif_mem n a b (by simp at h ⊢; omega) c hc
          refine ⟨e, ?_, h1⟩
          rw [List.mem_append] at he ⊢
          exact he.imp (List.mem_cons_of_mem _) (List.mem_cons_of_mem _)
      · rw [List.mem_cons] at hc
        rcases hc with rfl | hc
        · exact ⟨y, by simp, rfl⟩
        · obtain ⟨e, he, h1⟩ := dif_mem n (x :: a) b (by simp at h ⊢; omega) c hc
          refine ⟨e, ?_, h1⟩
          rw [List.mem_append] at he ⊢
          exact he.imp id (List.mem_cons_of_mem _)
/-- all changes lie behind what lies ahead of both -/
theorem dif_behind {a b : List Ent} {p : List UInt8} (ha : ∀ e ∈ a, cmpL (nms p) (nms e.1) < 0) (hb : ∀ e ∈ b, cmpL (nms p) (nms e.1) < 0) : ∀ c ∈ difP a b, cmpL (nms p) (nms c.1) < 0 := by
  intro c hc
  obtain ⟨e, he, h1⟩ := dif_mem _ a b (Nat.le_refl _) c hc
  rw [h1]
  rw [List.mem_append] at he
  exact he.elim (ha e) (hb e)
theorem chgd_skip {x : Ent} {t : List Ent} {l : List Chg} (h : ∀ c ∈ l, cmpL (nms x.1) (nms c.1) < 0) : chgd (x :: t) l = x :: chgd t l := by
  cases l with
  | nil => rfl
  | cons c l =>
    have hc := h c (by simp)
    have e1 : thP (x :: t) c.1 = thP t c.1 := by unfold thP; rw [fdP_cons_ne (cmp_ne hc)]
    rw [chgd, chgd, plP_lt hc, e1, List.take_succ_cons, show plP t c.1 + 1 + (if thP t c.1 = true then 1 else 0) = (plP t c.1 + (if thP t c.1 = true then 1 else 0)) + 1 by omega, List.drop_succ_cons]
    rfl
theorem stP_skip {x : Ent} {t : List Ent} {p : List UInt8} (h : cmpL (nms x.1) (nms p) < 0) : stP (x :: t) p = stP t p := by
  unfold stP
  rw [fdP_cons_ne (cmp_ne h)]
theorem stP_none {t : List Ent} {p : List UInt8} (h : ∀ e ∈ t, cmpL (nms p) (nms e.1) < 0) : fdP t p = none := by
  rw [fdP_none]
  exact fun e he hp => cmp_ne (h e he) hp.symm
theorem pairL {x : Ent} {t : List Ent} (h : (x :: t).Pairwise ltE) : (∀ e ∈ t, cmpL (nms x.1) (nms e.1) < 0) ∧ t.Pairwise ltE := by
  rw [List.pairwise_cons] at h
  exact ⟨fun e he => h.1 e he, h.2⟩
/-- what Diff tells leads from the one to the other, and fits what stands -/
theorem dif_leads : ∀ (n : Nat) (a b : List Ent), a.length + b.length ≤ n → a.Pairwise ltE → b.Pairwise ltE → (∀ e ∈ a, mayP e = true) → (∀ e ∈ b, mayP e = true) →
    chgd a (difP a b) = b ∧ (∀ c ∈ difP a b, stP a c.1 = c.2.1) ∧ ∀ p, (∀ e ∈ a, cmpL (nms p) (nms e.1) < 0) → (∀ e ∈ b, cmpL (nms p) (nms e.1) < 0) → mayC p (difP a b) = true
  | n, [], [], _, _, _, _, _ => by
    rw [difP]
    exact ⟨rfl, fun c hc => by simp at hc, fun _ _ _ => rfl⟩
  | 0, x :: a, b, h, _, _, _, _ => by simp at h
  | 0, [], y :: b, h, _, _, _, _ => by simp at h
  | n + 1, x :: a, [], h, pa, pb, ma, mb => by
    obtain ⟨i1, i2, i3⟩ := dif_leads n a [] (by simp at h ⊢; omega) (pairL pa).2 pb (fun e he => ma e (by simp [he])) mb
    have hx := ma x (by simp)
    rw [difP]
    refine ⟨?_, ?_, ?_⟩
    · have e1 : thP (x :: a) x.1 = true := by unfold thP; rw [fdP_cons_eq]; rfl
      rw [chgd]
      dsimp only
      rw [plP_ge (by rw [cmpL_self]; omega), e1, if_pos (show zE.2.1 = 0 from rfl), if_pos rfl]
      exact i1
    · intro c hc
      rw [List.mem_cons] at hc
      rcases hc with rfl | hc
      · unfold stP
        rw [fdP_cons_eq]
        rfl
      · rw [stP_skip (dif_behind (pairL pa).1 (fun e he => by simp at he) c hc)]
        exact i2 c hc
    · intro p h1 _
      have e1 : okC (x.1, x, zE) = true := by unfold okC sidP; simp [hx, may_zero hx]
      rw [mayC, e1, i3 x.1 (pairL pa).1 (fun e he => by simp at he), decide_eq_true (h1 x (by simp))]
      rfl
  | n + 1, [], y :: b, h, pa, pb, ma, mb => by
    obtain ⟨i1, i2, i3⟩ := dif_leads n [] b (by simp at h ⊢; omega) pa (pairL pb).2 ma (fun e he => mb e (by simp [he]))
    have hy := mb y (by simp)
    rw [difP]
    refine ⟨?_, ?_, ?_⟩
    · rw [chgd]
      dsimp only
      rw [if_neg (may_kind hy)]
      simp only [List.take_nil, List.drop_nil, List.nil_append]
      rw [i1]
      rfl
    · intro c hc
      rw [List.mem_cons] at hc
      rcases hc with rfl | hc
      · rfl
      · exact i2 c hc
    · intro p _ h2
      have e1 : okC (y.1, zE, y) = true := by unfold okC sidP; simp [hy, may_zero hy]
      rw [mayC, e1, i3 y.1 (fun e he => by simp at he) (pairL pb).1, decide_eq_true (h2 y (by simp))]
      rfl
  | n + 1, x :: a, y :: b, h, pa, pb, ma, mb => by
    have hx := ma x (by simp)
    have hy := mb y (by simp)
    have ta : ∀ {p : List UInt8}, cmpL (nms p) (nms x.1) < 0 → ∀ e ∈ x :: a, cmpL (nms p) (nms e.1) < 0 := by
      intro p hp e he
      rw [List.mem_cons] at he
      rcases he with rfl | he
      · exact hp
      · exact cmpL_lt_trans hp ((pairL pa).1 e he)
    have tb : ∀ {p : List UInt8}, cmpL (nms p) (nms y.1) < 0 → ∀ e ∈ y :: b, cmpL (nms p) (nms e.1) < 0 := by
      intro p hp e he
      rw [List.mem_cons] at he
      rcases he with rfl | he
      · exact hp
      · exact cmpL_lt_trans hp ((pairL pb).1 e he)
    rw [difP]
    split
    · rename_i hlt
      obtain ⟨i1, i2, i3⟩ := dif_leads n a (y :: b) (by simp at h ⊢; omega) (pairL pa).2 pb (fun e he => ma e (by simp [he])) mb
      have hbh := dif_behind (pairL pa).1 (tb hlt)
      refine ⟨?_, ?_, ?_⟩
      · have e1 : thP (x :: a) x.1 = true := by unfold thP; rw [fdP_cons_eq]; rfl
        rw [chgd]
        dsimp only
        rw [plP_ge (by rw [cmpL_self]; omega), e1, if_pos (show zE.2.1 = 0 from rfl), if_pos rfl]
        exact i1
      · intro c hc
        rw [List.mem_cons] at hc
        rcases hc with rfl | hc
        · unfold stP
          rw [fdP_cons_eq]
          rfl
        · rw [stP_skip (hbh c hc)]
          exact i2 c hc
      · intro p h1 _
        have e1 : okC (x.1, x, zE) = true := by unfold okC sidP; simp [hx, may_zero hx]
        rw [mayC, e1, i3 x.1 (pairL pa).1 (tb hlt), decide_eq_true (h1 x (by simp))]
        rfl
    · rename_i hlt
      split
      · rename_i heq
        have hp : x.1 = y.1 := nms_inj (cmpL_zero heq)
        obtain ⟨i1, i2, i3⟩ := dif_leads n a b (by simp at h ⊢; omega) (pairL pa).2 (pairL pb).2 (fun e he => ma e (by simp [he])) (fun e he => mb e (by simp [he]))
        have hbh := dif_behind (pairL pa).1 (fun e he => by rw [hp]; exact (pairL pb).1 e he)
        by_cases hxy : x = y
        · subst hxy
          rw [if_pos rfl, List.nil_append]
          refine ⟨by rw [chgd_skip hbh, i1], fun c hc => by rw [stP_skip (hbh c hc)]; exact i2 c hc, fun p h1 h2 => i3 p (fun e he => h1 e (by simp [he])) (fun e he => h2 e (by simp [he]))⟩
        · rw [if_neg hxy, List.singleton_append]
          refine ⟨?_, ?_, ?_⟩
          · have e1 : thP (x :: a) x.1 = true := by unfold thP; rw [fdP_cons_eq]; rfl
            rw [chgd]
            dsimp only
            rw [plP_ge (by rw [cmpL_self]; omega), e1, if_neg (may_kind hy), if_pos rfl]
            simp only [List.take_zero, List.nil_append, Nat.zero_add, List.drop_succ_cons, List.drop_zero, List.singleton_append]
            rw [i1]
          · intro c hc
            rw [List.mem_cons] at hc
            rcases hc with rfl | hc
            · unfold stP
              rw [fdP_cons_eq]
              rfl
            · rw [stP_skip (hbh c hc)]
              exact i2 c hc
          · intro p h1 _
            have e1 : okC (x.1, x, y) = true := by unfold okC sidP; simp [hx, hy, may_zero hx, hp]
            rw [mayC, e1, i3 x.1 (pairL pa).1 (fun e he => by rw [hp]; exact (pairL pb).1 e he), decide_eq_true (h1 x (by simp))]
            rfl
      · rename_i hne
        have hgt : cmpL (nms y.1) (nms x.1) < 0 := by have := cmpL_anti (nms x.1) (nms y.1); omega
        obtain ⟨i1, i2, i3⟩ := dif_leads n (x :: a) b (by simp at h ⊢; omega) pa (pairL pb).2 ma (fun e he => mb e (by simp [he]))
        have hf : fdP (x :: a) y.1 = none := stP_none (ta hgt)
        refine ⟨?_, ?_, ?_⟩
        · have e1 : thP (x :: a) y.1 = false := by unfold thP; rw [hf]; rfl
          rw [chgd]
          dsimp only
          rw [plP_ge (by omega), e1, if_neg (may_kind hy)]
          simp only [List.take_zero, List.nil_append, Nat.zero_add, List.singleton_append, Bool.false_eq_true, if_false, List.drop_zero]
          rw [i1]
        · intro c hc
          rw [List.mem_cons] at hc
          rcases hc with rfl | hc
          · unfold stP
            rw [hf]
            rfl
          · exact i2 c hc
        · intro p _ h2
          have e1 : okC (y.1, zE, y) = true := by unfold okC sidP; simp [hy, may_zero hy]
          rw [mayC, e1, i3 y.1 (ta hgt) (pairL pb).1, decide_eq_true (h2 y (by simp))]
          rfl
theorem ahead_all {t : List Ent} (h : ∀ e ∈ t, mayP e = true) : ∀ e ∈ t, cmpL (nms []) (nms e.1) < 0 := by
  intro e he
  rw [nms_e, cmpL_nil (mayP_nms (h e he))]
  omega
theorem apP_dif {a b : List Ent} (ha : Rgt a) (hb : Rgt b) : apP a (difP a b) = .ok b := by
  obtain ⟨h1, h2, h3⟩ := dif_leads _ a b (Nat.le_refl _) ha.up hb.up ha.may hb.may
  unfold apP
  rw [h1, h3 [] (ahead_all ha.may) (ahead_all hb.may), if_neg (by simpa using rgt_iff.2 ha), if_neg (by simp), if_neg ?_, if_neg (by simpa using rgt_iff.2 hb)]
  rw [List.any_eq_true]
  rintro ⟨c, hc, hd⟩
  simp only [decide_eq_true_eq] at hd
  exact hd (h2 c hc)
/-- no changes just where both are one -/
theorem dif_none {a b : List Ent} (ha : Rgt a) (hb : Rgt b) : difP a b = [] ↔ a = b := by
  obtain ⟨h1, _, _⟩ := dif_leads _ a b (Nat.le_refl _) ha.up hb.up ha.may hb.may
  constructor
  · intro h
    rw [h] at h1
    exact h1
  · rintro rfl
    have : ∀ t : List Ent, difP t t = [] := by
      intro t
      induction t with
      | nil => rw [difP]
      | cons x t ih => rw [difP, cmpL_self, if_neg (by omega), if_pos rfl, if_pos rfl, ih]; rfl
    exact this a

end Go.Proofs.Ytgldmepmeampeab

/- What place compares by. -/
namespace Go.Proofs.Ytgldmepmeampeab
open Go.RowKit Go.BigFrame

set_option maxRecDepth 100000 in
set_option maxHeartbeats 1000000 in
theorem placeCmp_any (e : Ent) (p : List UInt8) (w : World) (he : e.1.length ≤ 9223372036854775807) (hp : p.length ≤ 9223372036854775807) :
    Calls Try.prog 56 #[entA e, .string (mk p)] w fun r w' => r = .returned (.int .i64 (cmP e.1 p)) ∧ Below w.heap.size w w' := by
  have HC := hid (compare_any (mk e.1) (mk p) · (by rw [bl_mk]; exact he) (by rw [bl_mk]; exact hp))
  simp only [bl_mk] at HC
  have HB := hid (below_walk w (.cells #[.string (mk e.1), .int .i64 e.2.1, .string (mk e.2.2)] 35))
  unfold entA
  generalize cmP e.1 p = C at *
  generalize pN e.1 p = D at *
  generalize mk e.1 = s1 at *
  generalize mk e.2.2 = s2 at *
  generalize mk p = s3 at *
  clear he hp
  go_enter Try.func56, Try.ntmps56
  go_wp2_with (go_at_call 33; refine (HC.out _).mono ?_; rintro r w1 ⟨rfl, hb1⟩; have HB1 := hid (below_then HB.out hb1); clear hb1)
  go_ret
  exact ⟨rfl, HB1.out⟩

theorem cmP_ok {a b : List UInt8} (ha : okP a = true) (hb : okP b = true) : cmP a b = cmpL (nms a) (nms b) := by unfold cmP; rw [if_pos ⟨ha, hb⟩]

end Go.Proofs.Ytgldmepmeampeab

/- The program's firstOf. -/
namespace Go.Proofs.Ytgldmepmeampeab
open Go.RowKit Go.BigFrame

theorem below_dr {B : Nat} {w W : World} (h : Below B w W) : Below B w W.drew := ⟨h.os, h.tape, h.output, h.size, h.block⟩
theorem firP_lt {x y : Ent} {a b : List Ent} (h : cmpL (nms x.1) (nms y.1) < 0) : firP (x :: a) (y :: b) = (x.1, x, zE) := by unfold firP; dsimp only; rw [if_pos h]
theorem firP_eq {x y : Ent} {a b : List Ent} (h : cmpL (nms x.1) (nms y.1) = 0) : firP (x :: a) (y :: b) = (y.1, x, y) := by unfold firP; dsimp only; rw [if_neg (by omega), if_pos h]
theorem firP_gt {x y : Ent} {a b : List Ent} (h : 0 < cmpL (nms x.1) (nms y.1)) : firP (x :: a) (y :: b) = (y.1, zE, y) := by unfold firP; dsimp only; rw [if_neg (by omega), if_neg (by omega)]

set_option maxRecDepth 100000 in
set_option maxHeartbeats 4000000 in
theorem firstOf_any (va vb : Value) (a b : List Ent) (w : World) (ha : Ents w va a) (hb : Ents w vb b) (hma : ∀ e ∈ a, mayP e = true) (hmb : ∀ e ∈ b, mayP e = true) (hne : a ≠ [] ∨ b ≠ []) :
    Calls Try.prog 21 #[va, vb] w fun r w' => r = .returned (chgA (firP a b)) ∧ Below w.heap.size w w' := by
  obtain ⟨ao, ca, rfl⟩ := ha.shape
  obtain ⟨bo, cb, rfl⟩ := hb.shape
  have HU := hid Try.underlying58
  have HI := hid info_chg7
  have HO := hid one_chg7
  match a, b with
  | [], [] => exact absurd rfl (hne.elim id id)
  | [], y :: b =>
    obtain ⟨g2, o2, rfl, hg2, hx2⟩ := hb.at 0 (by simp)
    rw [show (y :: b).getD 0 zE = y from rfl, Nat.zero_mul, Nat.add_zero] at hx2
    obtain ⟨n2, HN2⟩ : ∃ n : Nat, Hid ((y :: b).length = n) := ⟨_, rfl⟩
    rw [HN2.out]
    have p2 : 0 < n2 := by rw [← HN2.out]; simp
    have q2 : (0 : Int) < (n2 : Int) := by omega
    have r2 : ((n2 : Int) == 0) = false := by simp; omega
    have s2 : ¬ ((n2 : Int) = 0) := by omega
    have t2 : ¬ (n2 = 0) := by omega
    have HX2 := hid hx2
    have HG2 := hid hg2
    clear hx2 hg2
    have HFP : Hid (firP [] (y :: b) = (y.1, zE, y)) := rfl
    have HCB0 := hid (Cb.new w zC)
    have HB0 := hid (below_walk w (.cells #[.string ⟨#[]⟩, .string ⟨#[]⟩, .int .i64 0, .string ⟨#[]⟩, .string ⟨#[]⟩, .int .i64 0, .string ⟨#[]⟩] 58))
    clear ha hb hma hmb hne
    go_enter Try.func21, Try.ntmps21
    go_wp2_with fail
    have HCC : Hid (Cb ((w.alloc (.cells #[.string ⟨#[]⟩, .string ⟨#[]⟩, .int .i64 0, .string ⟨#[]⟩, .string ⟨#[]⟩, .int .i64 0, .string ⟨#[]⟩] 58)).alloc (.cells #[.string ⟨#[]⟩, .string ⟨#[]⟩, .int .i64 0, .string ⟨#[]⟩, .string ⟨#[]⟩, .int .i64 0, .string ⟨#[]⟩] 58)) ((w.alloc (.cells #[.string ⟨#[]⟩, .string ⟨#[]⟩, .int .i64 0, .string ⟨#[]⟩, .string ⟨#[]⟩, .int .i64 0, .string ⟨#[]⟩] 58))).heap.size zC) := Cb.new (w.alloc (.cells #[.string ⟨#[]⟩, .string ⟨#[]⟩, .int .i64 0, .string ⟨#[]⟩, .string ⟨#[]⟩, .int .i64 0, .string ⟨#[]⟩] 58)) zC
    have HCB : Hid (Cb ((w.alloc (.cells #[.string ⟨#[]⟩, .string ⟨#[]⟩, .int .i64 0, .string ⟨#[]⟩, .string ⟨#[]⟩, .int .i64 0, .string ⟨#[]⟩] 58)).alloc (.cells #[.string ⟨#[]⟩, .string ⟨#[]⟩, .int .i64 0, .string ⟨#[]⟩, .string ⟨#[]⟩, .int .i64 0, .string ⟨#[]⟩] 58)) w.heap.size zC) := HCB0.out.below (below_walk (w.alloc (.cells #[.string ⟨#[]⟩, .string ⟨#[]⟩, .int .i64 0, .string ⟨#[]⟩, .string ⟨#[]⟩, .int .i64 0, .string ⟨#[]⟩] 58)) (.cells #[.string ⟨#[]⟩, .string ⟨#[]⟩, .int .i64 0, .string ⟨#[]⟩, .string ⟨#[]⟩, .int .i64 0, .string ⟨#[]⟩] 58))
    have HB : Hid (Below w.heap.size w ((w.alloc (.cells #[.string ⟨#[]⟩, .string ⟨#[]⟩, .int .i64 0, .string ⟨#[]⟩, .string ⟨#[]⟩, .int .i64 0, .string ⟨#[]⟩] 58)).alloc (.cells #[.string ⟨#[]⟩, .string ⟨#[]⟩, .int .i64 0, .string ⟨#[]⟩, .string ⟨#[]⟩, .int .i64 0, .string ⟨#[]⟩] 58))) := below_then HB0.out (below_walk (w.alloc (.cells #[.string ⟨#[]⟩, .string ⟨#[]⟩, .int .i64 0, .string ⟨#[]⟩, .string ⟨#[]⟩, .int .i64 0, .string ⟨#[]⟩] 58)) (.cells #[.string ⟨#[]⟩, .string ⟨#[]⟩, .int .i64 0, .string ⟨#[]⟩, .string ⟨#[]⟩, .int .i64 0, .string ⟨#[]⟩] 58))
    have HCL := hid HCB0.out.lt
    clear HCB0
    rw [show (w.alloc (.cells #[.string ⟨#[]⟩, .string ⟨#[]⟩, .int .i64 0, .string ⟨#[]⟩, .string ⟨#[]⟩, .int .i64 0, .string ⟨#[]⟩] 58)).heap.size = w.heap.size + 1 by simp] at HCC
    obtain ⟨C, HC⟩ : ∃ C : Nat, Hid (w.heap.size + 1 = C) := ⟨_, rfl⟩
    rw [HC.out] at HCC ⊢
    have HCW := hid (show w.heap.size < C by rw [← HC.out]; omega)
    generalize (w.alloc (.cells #[.string ⟨#[]⟩, .string ⟨#[]⟩, .int .i64 0, .string ⟨#[]⟩, .string ⟨#[]⟩, .int .i64 0, .string ⟨#[]⟩] 58)).alloc (.cells #[.string ⟨#[]⟩, .string ⟨#[]⟩, .int .i64 0, .string ⟨#[]⟩, .string ⟨#[]⟩, .int .i64 0, .string ⟨#[]⟩] 58) = wz at *
    have HXz := hid (HX2.out.below HG2.out HB.out)
    obtain ⟨y0, y1, y2⟩ := HXz.out
    obtain ⟨c0, c1, c2, c3, c4, c5, c6⟩ := HCC.out.at
    have f0 := HCC.out.fz 0
    have f4 := HCC.out.fz 4
    have f5 := HCC.out.fz 5
    have f6 := HCC.out.fz 6
    have hgc : ¬ g2 = C := by have := HG2.out; have := HCW.out; omega
    have hgc' : ¬ C = g2 := by have := HG2.out; have := HCW.out; omega
    go_region
    have HCC2 : Hid (Cb ((((wz.setCell ⟨C, 0, none⟩ (.string (mk y.1))).setCell ⟨C, 4, none⟩ (.string (mk y.1))).setCell ⟨C, 5, none⟩ (.int .i64 y.2.1)).setCell ⟨C, 6, none⟩ (.string (mk y.2.2))).drew C (y.1, zE, y)) := by unfold Hid Cb; show ((((wz.setCell ⟨C, 0, none⟩ (.string (mk y.1))).setCell ⟨C, 4, none⟩ (.string (mk y.1))).setCell ⟨C, 5, none⟩ (.int .i64 y.2.1)).setCell ⟨C, 6, none⟩ (.string (mk y.2.2))).heap[C]? = _; rw [blk_set (blk_set (blk_set (blk_set HCC.out _) _) _) _]; rfl
    have HCB2 : Hid (Cb ((((wz.setCell ⟨C, 0, none⟩ (.string (mk y.1))).setCell ⟨C, 4, none⟩ (.string (mk y.1))).setCell ⟨C, 5, none⟩ (.int .i64 y.2.1)).setCell ⟨C, 6, none⟩ (.string (mk y.2.2))).drew w.heap.size zC) := ((((HCB.out.other (d := C) (i := 0) (by have := HCW.out; omega) _).other (d := C) (i := 4) (by have := HCW.out; omega) _).other (d := C) (i := 5) (by have := HCW.out; omega) _).other (d := C) (i := 6) (by have := HCW.out; omega) _)
    have HB2 : Hid (Below w.heap.size w ((((wz.setCell ⟨C, 0, none⟩ (.string (mk y.1))).setCell ⟨C, 4, none⟩ (.string (mk y.1))).setCell ⟨C, 5, none⟩ (.int .i64 y.2.1)).setCell ⟨C, 6, none⟩ (.string (mk y.2.2))).drew) := below_dr ((((HB.out.setCell (p := ⟨C, 0, none⟩) (by have := HCW.out; show w.heap.size ≤ C; omega) _).setCell (p := ⟨C, 4, none⟩) (by have := HCW.out; show w.heap.size ≤ C; omega) _).setCell (p := ⟨C, 5, none⟩) (by have := HCW.out; show w.heap.size ≤ C; omega) _).setCell (p := ⟨C, 6, none⟩) (by have := HCW.out; show w.heap.size ≤ C; omega) _)
    clear HXz y0 y1 y2 c0 c1 c2 c3 c4 c5 c6 hgc hgc' f0 f4 f5 f6 HCC HCB HB
    generalize ((((wz.setCell ⟨C, 0, none⟩ (.string (mk y.1))).setCell ⟨C, 4, none⟩ (.string (mk y.1))).setCell ⟨C, 5, none⟩ (.int .i64 y.2.1)).setCell ⟨C, 6, none⟩ (.string (mk y.2.2))).drew = wy at *
    have HCC := HCC2; have HCB := HCB2; have HB := HB2; clear HCC2 HCB2 HB2
    have HR := hid HCC.out.range
    have HT := hid HCB.out.there
    have HF := hid (HCB.out.all (y.1, zE, y))
    have HBF := hid (belowCs (Nat.le_refl _) (chgV (y.1, zE, y)) 0 _ HB.out)
    go_wp2_with (first | (refine wpList_load_mid (by rfl) 58 (.tmp 6) (by rfl) C 0 (by rfl) (chgV (y.1, zE, y)) _ HR.out HU.out rfl (HI.out (y.1, zE, y)) ?_; clear HR) | (refine wpList_store_mid (by rfl) 58 (.tmp 4) (.tmp 49) (by rfl) w.heap.size 0 (chgV (y.1, zE, y)).toArray (by rfl) (by rfl) HT.out (HI.out (y.1, zE, y)) (HO.out (y.1, zE, y)) ?_; clear HT))
    refine ret_row 4 58 rfl w.heap.size rfl (chgV (y.1, zE, y)) 58 HF.out _ Try.underlying58 rfl (HI.out (y.1, zE, y)) rfl ⟨?_, HBF.out⟩
    rw [HFP.out]
    rfl
  | x :: a, [] =>
    obtain ⟨g1, o1, rfl, hg1, hx1⟩ := ha.at 0 (by simp)
    rw [show (x :: a).getD 0 zE = x from rfl, Nat.zero_mul, Nat.add_zero] at hx1
    obtain ⟨n1, HN1⟩ : ∃ n : Nat, Hid ((x :: a).length = n) := ⟨_, rfl⟩
    rw [HN1.out]
    have p1 : 0 < n1 := by rw [← HN1.out]; simp
    have q1 : (0 : Int) < (n1 : Int) := by omega
    have r1 : ((n1 : Int) == 0) = false := by simp; omega
    have s1 : ¬ ((n1 : Int) = 0) := by omega
    have t1 : ¬ (n1 = 0) := by omega
    have HX1 := hid hx1
    have HG1 := hid hg1
    clear hx1 hg1
    have HFP : Hid (firP (x :: a) [] = (x.1, x, zE)) := rfl
    have HCB0 := hid (Cb.new w zC)
    have HB0 := hid (below_walk w (.cells #[.string ⟨#[]⟩, .string ⟨#[]⟩, .int .i64 0, .string ⟨#[]⟩, .string ⟨#[]⟩, .int .i64 0, .string ⟨#[]⟩] 58))
    clear ha hb hma hmb hne
    go_enter Try.func21, Try.ntmps21
    go_wp2_with fail
    have HCC : Hid (Cb ((w.alloc (.cells #[.string ⟨#[]⟩, .string ⟨#[]⟩, .int .i64 0, .string ⟨#[]⟩, .string ⟨#[]⟩, .int .i64 0, .string ⟨#[]⟩] 58)).alloc (.cells #[.string ⟨#[]⟩, .string ⟨#[]⟩, .int .i64 0, .string ⟨#[]⟩, .string ⟨#[]⟩, .int .i64 0, .string ⟨#[]⟩] 58)) ((w.alloc (.cells #[.string ⟨#[]⟩, .string ⟨#[]⟩, .int .i64 0, .string ⟨#[]⟩, .string ⟨#[]⟩, .int .i64 0, .string ⟨#[]⟩] 58))).heap.size zC) := Cb.new (w.alloc (.cells #[.string ⟨#[]⟩, .string ⟨#[]⟩, .int .i64 0, .string ⟨#[]⟩, .string ⟨#[]⟩, .int .i64 0, .string ⟨#[]⟩] 58)) zC
    have HCB : Hid (Cb ((w.alloc (.cells #[.string ⟨#[]⟩, .string ⟨#[]⟩, .int .i64 0, .string ⟨#[]⟩, .string ⟨#[]⟩, .int .i64 0, .string ⟨#[]⟩] 58)).alloc (.cells #[.string ⟨#[]⟩, .string ⟨#[]⟩, .int .i64 0, .string ⟨#[]⟩, .string ⟨#[]⟩, .int .i64 0, .string ⟨#[]⟩] 58)) w.heap.size zC) := HCB0.out.below (below_walk (w.alloc (.cells #[.string ⟨#[]⟩, .string ⟨#[]⟩, .int .i64 0, .string ⟨#[]⟩, .string ⟨#[]⟩, .int .i64 0, .string ⟨#[]⟩] 58)) (.cells #[.string ⟨#[]⟩, .string ⟨#[]⟩, .int .i64 0, .string ⟨#[]⟩, .string ⟨#[]⟩, .int .i64 0, .string ⟨#[]⟩] 58))
    have HB : Hid (Below w.heap.size w ((w.alloc (.cells #[.string ⟨#[]⟩, .string ⟨#[]⟩, .int .i64 0, .string ⟨#[]⟩, .string ⟨#[]⟩, .int .i64 0, .string ⟨#[]⟩] 58)).alloc (.cells #[.string ⟨#[]⟩, .string ⟨#[]⟩, .int .i64 0, .string ⟨#[]⟩, .string ⟨#[]⟩, .int .i64 0, .string ⟨#[]⟩] 58))) := below_then HB0.out (below_walk (w.alloc (.cells #[.string ⟨#[]⟩, .string ⟨#[]⟩, .int .i64 0, .string ⟨#[]⟩, .string ⟨#[]⟩, .int .i64 0, .string ⟨#[]⟩] 58)) (.cells #[.string ⟨#[]⟩, .string ⟨#[]⟩, .int .i64 0, .string ⟨#[]⟩, .string ⟨#[]⟩, .int .i64 0, .string ⟨#[]⟩] 58))
    have HCL := hid HCB0.out.lt
    clear HCB0
    rw [show (w.alloc (.cells #[.string ⟨#[]⟩, .string ⟨#[]⟩, .int .i64 0, .string ⟨#[]⟩, .string ⟨#[]⟩, .int .i64 0, .string ⟨#[]⟩] 58)).heap.size = w.heap.size + 1 by simp] at HCC
    obtain ⟨C, HC⟩ : ∃ C : Nat, Hid (w.heap.size + 1 = C) := ⟨_, rfl⟩
    rw [HC.out] at HCC ⊢
    have HCW := hid (show w.heap.size < C by rw [← HC.out]; omega)
    generalize (w.alloc (.cells #[.string ⟨#[]⟩, .string ⟨#[]⟩, .int .i64 0, .string ⟨#[]⟩, .string ⟨#[]⟩, .int .i64 0, .string ⟨#[]⟩] 58)).alloc (.cells #[.string ⟨#[]⟩, .string ⟨#[]⟩, .int .i64 0, .string ⟨#[]⟩, .string ⟨#[]⟩, .int .i64 0, .string ⟨#[]⟩] 58) = wz at *
    have HXz := hid (HX1.out.below HG1.out HB.out)
    obtain ⟨y0, y1, y2⟩ := HXz.out
    obtain ⟨c0, c1, c2, c3, c4, c5, c6⟩ := HCC.out.at
    have f0 := HCC.out.fz 0
    have f1 := HCC.out.fz 1
    have f2 := HCC.out.fz 2
    have f3 := HCC.out.fz 3
    have hgc : ¬ g1 = C := by have := HG1.out; have := HCW.out; omega
    have hgc' : ¬ C = g1 := by have := HG1.out; have := HCW.out; omega
    go_region
    have HCC2 : Hid (Cb ((((wz.setCell ⟨C, 0, none⟩ (.string (mk x.1))).setCell ⟨C, 1, none⟩ (.string (mk x.1))).setCell ⟨C, 2, none⟩ (.int .i64 x.2.1)).setCell ⟨C, 3, none⟩ (.string (mk x.2.2))).drew C (x.1, x, zE)) := by unfold Hid Cb; show ((((wz.setCell ⟨C, 0, none⟩ (.string (mk x.1))).setCell ⟨C, 1, none⟩ (.string (mk x.1))).setCell ⟨C, 2, none⟩ (.int .i64 x.2.1)).setCell ⟨C, 3, none⟩ (.string (mk x.2.2))).heap[C]? = _; rw [blk_set (blk_set (blk_set (blk_set HCC.out _) _) _) _]; rfl
    have HCB2 : Hid (Cb ((((wz.setCell ⟨C, 0, none⟩ (.string (mk x.1))).setCell ⟨C, 1, none⟩ (.string (mk x.1))).setCell ⟨C, 2, none⟩ (.int .i64 x.2.1)).setCell ⟨C, 3, none⟩ (.string (mk x.2.2))).drew w.heap.size zC) := ((((HCB.out.other (d := C) (i := 0) (by have := HCW.out; omega) _).other (d := C) (i := 1) (by have := HCW.out; omega) _).other (d := C) (i := 2) (by have := HCW.out; omega) _).other (d := C) (i := 3) (by have := HCW.out; omega) _)
    have HB2 : Hid (Below w.heap.size w ((((wz.setCell ⟨C, 0, none⟩ (.string (mk x.1))).setCell ⟨C, 1, none⟩ (.string (mk x.1))).setCell ⟨C, 2, none⟩ (.int .i64 x.2.1)).setCell ⟨C, 3, none⟩ (.string (mk x.2.2))).drew) := below_dr ((((HB.out.setCell (p := ⟨C, 0, none⟩) (by have := HCW.out; show w.heap.size ≤ C; omega) _).setCell (p := ⟨C, 1, none⟩) (by have := HCW.out; show w.heap.size ≤ C; omega) _).setCell (p := ⟨C, 2, none⟩) (by have := HCW.out; show w.heap.size ≤ C; omega) _).setCell (p := ⟨C, 3, none⟩) (by have := HCW.out; show w.heap.size ≤ C; omega) _)
    clear HXz y0 y1 y2 c0 c1 c2 c3 c4 c5 c6 hgc hgc' f0 f1 f2 f3 HCC HCB HB
    generalize ((((wz.setCell ⟨C, 0, none⟩ (.string (mk x.1))).setCell ⟨C, 1, none⟩ (.string (mk x.1))).setCell ⟨C, 2, none⟩ (.int .i64 x.2.1)).setCell ⟨C, 3, none⟩ (.string (mk x.2.2))).drew = wy at *
    have HCC := HCC2; have HCB := HCB2; have HB := HB2; clear HCC2 HCB2 HB2
    have HR := hid HCC.out.range
    have HT := hid HCB.out.there
    have HF := hid (HCB.out.all (x.1, x, zE))
    have HBF := hid (belowCs (Nat.le_refl _) (chgV (x.1, x, zE)) 0 _ HB.out)
    go_wp2_with (first | (refine wpList_load_mid (by rfl) 58 (.tmp 6) (by rfl) C 0 (by rfl) (chgV (x.1, x, zE)) _ HR.out HU.out rfl (HI.out (x.1, x, zE)) ?_; clear HR) | (refine wpList_store_mid (by rfl) 58 (.tmp 4) (.tmp 49) (by rfl) w.heap.size 0 (chgV (x.1, x, zE)).toArray (by rfl) (by rfl) HT.out (HI.out (x.1, x, zE)) (HO.out (x.1, x, zE)) ?_; clear HT))
    refine ret_row 4 58 rfl w.heap.size rfl (chgV (x.1, x, zE)) 58 HF.out _ Try.underlying58 rfl (HI.out (x.1, x, zE)) rfl ⟨?_, HBF.out⟩
    rw [HFP.out]
    rfl
  | x :: a, y :: b =>
    obtain ⟨g1, o1, rfl, hg1, hx1⟩ := ha.at 0 (by simp)
    rw [show (x :: a).getD 0 zE = x from rfl, Nat.zero_mul, Nat.add_zero] at hx1
    obtain ⟨n1, HN1⟩ : ∃ n : Nat, Hid ((x :: a).length = n) := ⟨_, rfl⟩
    rw [HN1.out]
    have p1 : 0 < n1 := by rw [← HN1.out]; simp
    have q1 : (0 : Int) < (n1 : Int) := by omega
    have r1 : ((n1 : Int) == 0) = false := by simp; omega
    have s1 : ¬ ((n1 : Int) = 0) := by omega
    have t1 : ¬ (n1 = 0) := by omega
    have HX1 := hid hx1
    have HG1 := hid hg1
    clear hx1 hg1
    obtain ⟨g2, o2, rfl, hg2, hx2⟩ := hb.at 0 (by simp)
    rw [show (y :: b).getD 0 zE = y from rfl, Nat.zero_mul, Nat.add_zero] at hx2
    obtain ⟨n2, HN2⟩ : ∃ n : Nat, Hid ((y :: b).length = n) := ⟨_, rfl⟩
    rw [HN2.out]
    have p2 : 0 < n2 := by rw [← HN2.out]; simp
    have q2 : (0 : Int) < (n2 : Int) := by omega
    have r2 : ((n2 : Int) == 0) = false := by simp; omega
    have s2 : ¬ ((n2 : Int) = 0) := by omega
    have t2 : ¬ (n2 = 0) := by omega
    have HX2 := hid hx2
    have HG2 := hid hg2
    clear hx2 hg2
    have hox := mayP_ok (hma x (by simp))
    have hoy := mayP_ok (hmb y (by simp))
    have HCM := hid (compare_any (mk x.1) (mk y.1) · (by rw [bl_mk]; have := okP_short hox; omega) (by rw [bl_mk]; have := okP_short hoy; omega))
    simp only [bl_mk, cmP_ok hox hoy] at HCM
    have HCB0 := hid (Cb.new w zC)
    have HB0 := hid (below_walk w (.cells #[.string ⟨#[]⟩, .string ⟨#[]⟩, .int .i64 0, .string ⟨#[]⟩, .string ⟨#[]⟩, .int .i64 0, .string ⟨#[]⟩] 58))
    have HFL := hid (fun h => firP_lt (x := x) (y := y) (a := a) (b := b) h)
    have HFE := hid (fun h => firP_eq (x := x) (y := y) (a := a) (b := b) h)
    have HFG := hid (fun h => firP_gt (x := x) (y := y) (a := a) (b := b) h)
    have HRG := hid (cmpL_range (nms x.1) (nms y.1))
    generalize cmpL (nms x.1) (nms y.1) = K at *
    generalize pN x.1 y.1 = E at *
    clear hox hoy
    clear ha hb hma hmb hne
    go_enter Try.func21, Try.ntmps21
    go_wp2_with fail
    have HB0c := hid (show Cb (w.alloc (.cells #[.string ⟨#[]⟩, .string ⟨#[]⟩, .int .i64 0, .string ⟨#[]⟩, .string ⟨#[]⟩, .int .i64 0, .string ⟨#[]⟩] 58)) w.heap.size zC from HCB0.out)
    clear HCB0
    generalize w.alloc (.cells #[.string ⟨#[]⟩, .string ⟨#[]⟩, .int .i64 0, .string ⟨#[]⟩, .string ⟨#[]⟩, .int .i64 0, .string ⟨#[]⟩] 58) = wa at *
    have HX1a := hid (HX1.out.below HG1.out HB0.out)
    have HG1a := hid (Nat.lt_of_lt_of_le HG1.out HB0.out.size)
    have px1 := fun p : Bel wa => p.cell HX1a.out.1 HG1a.out
    have HX2a := hid (HX2.out.below HG2.out HB0.out)
    have HG2a := hid (Nat.lt_of_lt_of_le HG2.out HB0.out.size)
    have px2 := fun p : Bel wa => p.cell HX2a.out.1 HG2a.out
    have ib : Nonempty (Bel wa) := bel_some wa
    refine wp_region_quiet_bel (by kernel_rfl) (by kernel_rfl) ?_
    repeat (go_big_quiet_step (first | (go_at_call 33; exact bel_of (HCM.out _))))
    refine wpQuiet_nil ?_
    rintro w2 ⟨⟨w2', hb2⟩, hw2⟩
    obtain rfl : w2 = w2' := hw2
    have HCB0 := hid (HB0c.out.below hb2)
    have HB0b := hid (below_then HB0.out hb2)
    clear HB0 HB0c hb2 px1 px2 ib HX1a HX2a HG1a HG2a HCM
    have HB0 := HB0b
    clear HB0b
    rcases HRG.out with hK | hK | hK
    ·
      subst hK
      have HFP := hid (HFL.out (by decide))
      clear HFL HFE HFG
      go_wp2_with fail
      have HCC : Hid (Cb (w2.alloc (.cells #[.string ⟨#[]⟩, .string ⟨#[]⟩, .int .i64 0, .string ⟨#[]⟩, .string ⟨#[]⟩, .int .i64 0, .string ⟨#[]⟩] 58)) (w2).heap.size zC) := Cb.new w2 zC
      have HCB : Hid (Cb (w2.alloc (.cells #[.string ⟨#[]⟩, .string ⟨#[]⟩, .int .i64 0, .string ⟨#[]⟩, .string ⟨#[]⟩, .int .i64 0, .string ⟨#[]⟩] 58)) w.heap.size zC) := HCB0.out.below (below_walk w2 (.cells #[.string ⟨#[]⟩, .string ⟨#[]⟩, .int .i64 0, .string ⟨#[]⟩, .string ⟨#[]⟩, .int .i64 0, .string ⟨#[]⟩] 58))
      have HB : Hid (Below w.heap.size w (w2.alloc (.cells #[.string ⟨#[]⟩, .string ⟨#[]⟩, .int .i64 0, .string ⟨#[]⟩, .string ⟨#[]⟩, .int .i64 0, .string ⟨#[]⟩] 58))) := below_then HB0.out (below_walk w2 (.cells #[.string ⟨#[]⟩, .string ⟨#[]⟩, .int .i64 0, .string ⟨#[]⟩, .string ⟨#[]⟩, .int .i64 0, .string ⟨#[]⟩] 58))
      have HCL := hid HCB0.out.lt
      clear HCB0
      obtain ⟨C, HC⟩ : ∃ C : Nat, Hid (w2.heap.size = C) := ⟨_, rfl⟩
      rw [HC.out] at HCC ⊢
      have HCW := hid (show w.heap.size < C by rw [← HC.out]; exact HCL.out)
      generalize w2.alloc (.cells #[.string ⟨#[]⟩, .string ⟨#[]⟩, .int .i64 0, .string ⟨#[]⟩, .string ⟨#[]⟩, .int .i64 0, .string ⟨#[]⟩] 58) = wz at *
      have HXz := hid (HX1.out.below HG1.out HB.out)
      obtain ⟨y0, y1, y2⟩ := HXz.out
      obtain ⟨c0, c1, c2, c3, c4, c5, c6⟩ := HCC.out.at
      have f0 := HCC.out.fz 0
      have f1 := HCC.out.fz 1
      have f2 := HCC.out.fz 2
      have f3 := HCC.out.fz 3
      have hgc : ¬ g1 = C := by have := HG1.out; have := HCW.out; omega
      have hgc' : ¬ C = g1 := by have := HG1.out; have := HCW.out; omega
      go_region
      have HCC2 : Hid (Cb ((((wz.setCell ⟨C, 0, none⟩ (.string (mk x.1))).setCell ⟨C, 1, none⟩ (.string (mk x.1))).setCell ⟨C, 2, none⟩ (.int .i64 x.2.1)).setCell ⟨C, 3, none⟩ (.string (mk x.2.2))).drew C (x.1, x, zE)) := by unfold Hid Cb; show ((((wz.setCell ⟨C, 0, none⟩ (.string (mk x.1))).setCell ⟨C, 1, none⟩ (.string (mk x.1))).setCell ⟨C, 2, none⟩ (.int .i64 x.2.1)).setCell ⟨C, 3, none⟩ (.string (mk x.2.2))).heap[C]? = _; rw [blk_set (blk_set (blk_set (blk_set HCC.out _) _) _) _]; rfl
      have HCB2 : Hid (Cb ((((wz.setCell ⟨C, 0, none⟩ (.string (mk x.1))).setCell ⟨C, 1, none⟩ (.string (mk x.1))).setCell ⟨C, 2, none⟩ (.int .i64 x.2.1)).setCell ⟨C, 3, none⟩ (.string (mk x.2.2))).drew w.heap.size zC) := ((((HCB.out.other (d := C) (i := 0) (by have := HCW.out; omega) _).other (d := C) (i := 1) (by have := HCW.out; omega) _).other (d := C) (i := 2) (by have := HCW.out; omega) _).other (d := C) (i := 3) (by have := HCW.out; omega) _)
      have HB2 : Hid (Below w.heap.size w ((((wz.setCell ⟨C, 0, none⟩ (.string (mk x.1))).setCell ⟨C, 1, none⟩ (.string (mk x.1))).setCell ⟨C, 2, none⟩ (.int .i64 x.2.1)).setCell ⟨C, 3, none⟩ (.string (mk x.2.2))).drew) := below_dr ((((HB.out.setCell (p := ⟨C, 0, none⟩) (by have := HCW.out; show w.heap.size ≤ C; omega) _).setCell (p := ⟨C, 1, none⟩) (by have := HCW.out; show w.heap.size ≤ C; omega) _).setCell (p := ⟨C, 2, none⟩) (by have := HCW.out; show w.heap.size ≤ C; omega) _).setCell (p := ⟨C, 3, none⟩) (by have := HCW.out; show w.heap.size ≤ C; omega) _)
      clear HXz y0 y1 y2 c0 c1 c2 c3 c4 c5 c6 hgc hgc' f0 f1 f2 f3 HCC HCB HB
      generalize ((((wz.setCell ⟨C, 0, none⟩ (.string (mk x.1))).setCell ⟨C, 1, none⟩ (.string (mk x.1))).setCell ⟨C, 2, none⟩ (.int .i64 x.2.1)).setCell ⟨C, 3, none⟩ (.string (mk x.2.2))).drew = wy at *
      have HCC := HCC2; have HCB := HCB2; have HB := HB2; clear HCC2 HCB2 HB2
      have HR := hid HCC.out.range
      have HT := hid HCB.out.there
      have HF := hid (HCB.out.all (x.1, x, zE))
      have HBF := hid (belowCs (Nat.le_refl _) (chgV (x.1, x, zE)) 0 _ HB.out)
      go_wp2_with (first | (refine wpList_load_mid (by rfl) 58 (.tmp 6) (by rfl) C 0 (by rfl) (chgV (x.1, x, zE)) _ HR.out HU.out rfl (HI.out (x.1, x, zE)) ?_; clear HR) | (refine wpList_store_mid (by rfl) 58 (.tmp 4) (.tmp 49) (by rfl) w.heap.size 0 (chgV (x.1, x, zE)).toArray (by rfl) (by rfl) HT.out (HI.out (x.1, x, zE)) (HO.out (x.1, x, zE)) ?_; clear HT))
      refine ret_row 4 58 rfl w.heap.size rfl (chgV (x.1, x, zE)) 58 HF.out _ Try.underlying58 rfl (HI.out (x.1, x, zE)) rfl ⟨?_, HBF.out⟩
      rw [HFP.out]
      rfl
    ·
      subst hK
      have HFP := hid (HFE.out (by rfl))
      clear HFL HFE HFG
      go_wp2_with fail
      have HCC : Hid (Cb (w2.alloc (.cells #[.string ⟨#[]⟩, .string ⟨#[]⟩, .int .i64 0, .string ⟨#[]⟩, .string ⟨#[]⟩, .int .i64 0, .string ⟨#[]⟩] 58)) (w2).heap.size zC) := Cb.new w2 zC
      have HCB : Hid (Cb (w2.alloc (.cells #[.string ⟨#[]⟩, .string ⟨#[]⟩, .int .i64 0, .string ⟨#[]⟩, .string ⟨#[]⟩, .int .i64 0, .string ⟨#[]⟩] 58)) w.heap.size zC) := HCB0.out.below (below_walk w2 (.cells #[.string ⟨#[]⟩, .string ⟨#[]⟩, .int .i64 0, .string ⟨#[]⟩, .string ⟨#[]⟩, .int .i64 0, .string ⟨#[]⟩] 58))
      have HB : Hid (Below w.heap.size w (w2.alloc (.cells #[.string ⟨#[]⟩, .string ⟨#[]⟩, .int .i64 0, .string ⟨#[]⟩, .string ⟨#[]⟩, .int .i64 0, .string ⟨#[]⟩] 58))) := below_then HB0.out (below_walk w2 (.cells #[.string ⟨#[]⟩, .string ⟨#[]⟩, .int .i64 0, .string ⟨#[]⟩, .string ⟨#[]⟩, .int .i64 0, .string ⟨#[]⟩] 58))
      have HCL := hid HCB0.out.lt
      clear HCB0
      obtain ⟨C, HC⟩ : ∃ C : Nat, Hid (w2.heap.size = C) := ⟨_, rfl⟩
      rw [HC.out] at HCC ⊢
      have HCW := hid (show w.heap.size < C by rw [← HC.out]; exact HCL.out)
      generalize w2.alloc (.cells #[.string ⟨#[]⟩, .string ⟨#[]⟩, .int .i64 0, .string ⟨#[]⟩, .string ⟨#[]⟩, .int .i64 0, .string ⟨#[]⟩] 58) = wz at *
      have HXz := hid (HX1.out.below HG1.out HB.out)
      obtain ⟨y0, y1, y2⟩ := HXz.out
      obtain ⟨c0, c1, c2, c3, c4, c5, c6⟩ := HCC.out.at
      have f0 := HCC.out.fz 0
      have f1 := HCC.out.fz 1
      have f2 := HCC.out.fz 2
      have f3 := HCC.out.fz 3
      have hgc : ¬ g1 = C := by have := HG1.out; have := HCW.out; omega
      have hgc' : ¬ C = g1 := by have := HG1.out; have := HCW.out; omega
      go_region
      have HCC2 : Hid (Cb ((((wz.setCell ⟨C, 0, none⟩ (.string (mk x.1))).setCell ⟨C, 1, none⟩ (.string (mk x.1))).setCell ⟨C, 2, none⟩ (.int .i64 x.2.1)).setCell ⟨C, 3, none⟩ (.string (mk x.2.2))).drew C (x.1, x, zE)) := by unfold Hid Cb; show ((((wz.setCell ⟨C, 0, none⟩ (.string (mk x.1))).setCell ⟨C, 1, none⟩ (.string (mk x.1))).setCell ⟨C, 2, none⟩ (.int .i64 x.2.1)).setCell ⟨C, 3, none⟩ (.string (mk x.2.2))).heap[C]? = _; rw [blk_set (blk_set (blk_set (blk_set HCC.out _) _) _) _]; rfl
      have HCB2 : Hid (Cb ((((wz.setCell ⟨C, 0, none⟩ (.string (mk x.1))).setCell ⟨C, 1, none⟩ (.string (mk x.1))).setCell ⟨C, 2, none⟩ (.int .i64 x.2.1)).setCell ⟨C, 3, none⟩ (.string (mk x.2.2))).drew w.heap.size zC) := ((((HCB.out.other (d := C) (i := 0) (by have := HCW.out; omega) _).other (d := C) (i := 1) (by have := HCW.out; omega) _).other (d := C) (i := 2) (by have := HCW.out; omega) _).other (d := C) (i := 3) (by have := HCW.out; omega) _)
      have HB2 : Hid (Below w.heap.size w ((((wz.setCell ⟨C, 0, none⟩ (.string (mk x.1))).setCell ⟨C, 1, none⟩ (.string (mk x.1))).setCell ⟨C, 2, none⟩ (.int .i64 x.2.1)).setCell ⟨C, 3, none⟩ (.string (mk x.2.2))).drew) := below_dr ((((HB.out.setCell (p := ⟨C, 0, none⟩) (by have := HCW.out; show w.heap.size ≤ C; omega) _).setCell (p := ⟨C, 1, none⟩) (by have := HCW.out; show w.heap.size ≤ C; omega) _).setCell (p := ⟨C, 2, none⟩) (by have := HCW.out; show w.heap.size ≤ C; omega) _).setCell (p := ⟨C, 3, none⟩) (by have := HCW.out; show w.heap.size ≤ C; omega) _)
      clear HXz y0 y1 y2 c0 c1 c2 c3 c4 c5 c6 hgc hgc' f0 f1 f2 f3 HCC HCB HB
      generalize ((((wz.setCell ⟨C, 0, none⟩ (.string (mk x.1))).setCell ⟨C, 1, none⟩ (.string (mk x.1))).setCell ⟨C, 2, none⟩ (.int .i64 x.2.1)).setCell ⟨C, 3, none⟩ (.string (mk x.2.2))).drew = wy at *
      have HCC := HCC2; have HCB := HCB2; have HB := HB2; clear HCC2 HCB2 HB2
      go_wp2_with fail
      have HXz := hid (HX2.out.below HG2.out HB.out)
      obtain ⟨y0, y1, y2⟩ := HXz.out
      obtain ⟨c0, c1, c2, c3, c4, c5, c6⟩ := HCC.out.at
      have f0 := HCC.out.fz 0
      have f4 := HCC.out.fz 4
      have f5 := HCC.out.fz 5
      have f6 := HCC.out.fz 6
      have hgc : ¬ g2 = C := by have := HG2.out; have := HCW.out; omega
      have hgc' : ¬ C = g2 := by have := HG2.out; have := HCW.out; omega
      go_region
      have HCC2 : Hid (Cb ((((wy.setCell ⟨C, 0, none⟩ (.string (mk y.1))).setCell ⟨C, 4, none⟩ (.string (mk y.1))).setCell ⟨C, 5, none⟩ (.int .i64 y.2.1)).setCell ⟨C, 6, none⟩ (.string (mk y.2.2))).drew C (y.1, x, y)) := by unfold Hid Cb; show ((((wy.setCell ⟨C, 0, none⟩ (.string (mk y.1))).setCell ⟨C, 4, none⟩ (.string (mk y.1))).setCell ⟨C, 5, none⟩ (.int .i64 y.2.1)).setCell ⟨C, 6, none⟩ (.string (mk y.2.2))).heap[C]? = _; rw [blk_set (blk_set (blk_set (blk_set HCC.out _) _) _) _]; rfl
      have HCB2 : Hid (Cb ((((wy.setCell ⟨C, 0, none⟩ (.string (mk y.1))).setCell ⟨C, 4, none⟩ (.string (mk y.1))).setCell ⟨C, 5, none⟩ (.int .i64 y.2.1)).setCell ⟨C, 6, none⟩ (.string (mk y.2.2))).drew w.heap.size zC) := ((((HCB.out.other (d := C) (i := 0) (by have := HCW.out; omega) _).other (d := C) (i := 4) (by have := HCW.out; omega) _).other (d := C) (i := 5) (by have := HCW.out; omega) _).other (d := C) (i := 6) (by have := HCW.out; omega) _)
      have HB2 : Hid (Below w.heap.size w ((((wy.setCell ⟨C, 0, none⟩ (.string (mk y.1))).setCell ⟨C, 4, none⟩ (.string (mk y.1))).setCell ⟨C, 5, none⟩ (.int .i64 y.2.1)).setCell ⟨C, 6, none⟩ (.string (mk y.2.2))).drew) := below_dr ((((HB.out.setCell (p := ⟨C, 0, none⟩) (by have := HCW.out; show w.heap.size ≤ C; omega) _).setCell (p := ⟨C, 4, none⟩) (by have := HCW.out; show w.heap.size ≤ C; omega) _).setCell (p := ⟨C, 5, none⟩) (by have := HCW.out; show w.heap.size ≤ C; omega) _).setCell (p := ⟨C, 6, none⟩) (by have := HCW.out; show w.heap.size ≤ C; omega) _)
      clear HXz y0 y1 y2 c0 c1 c2 c3 c4 c5 c6 hgc hgc' f0 f4 f5 f6 HCC HCB HB
      generalize ((((wy.setCell ⟨C, 0, none⟩ (.string (mk y.1))).setCell ⟨C, 4, none⟩ (.string (mk y.1))).setCell ⟨C, 5, none⟩ (.int .i64 y.2.1)).setCell ⟨C, 6, none⟩ (.string (mk y.2.2))).drew = wx at *
      have HCC := HCC2; have HCB := HCB2; have HB := HB2; clear HCC2 HCB2 HB2
      have HR := hid HCC.out.range
      have HT := hid HCB.out.there
      have HF := hid (HCB.out.all (y.1, x, y))
      have HBF := hid (belowCs (Nat.le_refl _) (chgV (y.1, x, y)) 0 _ HB.out)
      go_wp2_with (first | (refine wpList_load_mid (by rfl) 58 (.tmp 6) (by rfl) C 0 (by rfl) (chgV (y.1, x, y)) _ HR.out HU.out rfl (HI.out (y.1, x, y)) ?_; clear HR) | (refine wpList_store_mid (by rfl) 58 (.tmp 4) (.tmp 49) (by rfl) w.heap.size 0 (chgV (y.1, x, y)).toArray (by rfl) (by rfl) HT.out (HI.out (y.1, x, y)) (HO.out (y.1, x, y)) ?_; clear HT))
      refine ret_row 4 58 rfl w.heap.size rfl (chgV (y.1, x, y)) 58 HF.out _ Try.underlying58 rfl (HI.out (y.1, x, y)) rfl ⟨?_, HBF.out⟩
      rw [HFP.out]
      rfl
    ·
      subst hK
      have HFP := hid (HFG.out (by decide))
      clear HFL HFE HFG
      go_wp2_with fail
      have HCC : Hid (Cb (w2.alloc (.cells #[.string ⟨#[]⟩, .string ⟨#[]⟩, .int .i64 0, .string ⟨#[]⟩, .string ⟨#[]⟩, .int .i64 0, .string ⟨#[]⟩] 58)) (w2).heap.size zC) := Cb.new w2 zC
      have HCB : Hid (Cb (w2.alloc (.cells #[.string ⟨#[]⟩, .string ⟨#[]⟩, .int .i64 0, .string ⟨#[]⟩, .string ⟨#[]⟩, .int .i64 0, .string ⟨#[]⟩] 58)) w.heap.size zC) := HCB0.out.below (below_walk w2 (.cells #[.string ⟨#[]⟩, .string ⟨#[]⟩, .int .i64 0, .string ⟨#[]⟩, .string ⟨#[]⟩, .int .i64 0, .string ⟨#[]⟩] 58))
      have HB : Hid (Below w.heap.size w (w2.alloc (.cells #[.string ⟨#[]⟩, .string ⟨#[]⟩, .int .i64 0, .string ⟨#[]⟩, .string ⟨#[]⟩, .int .i64 0, .string ⟨#[]⟩] 58))) := below_then HB0.out (below_walk w2 (.cells #[.string ⟨#[]⟩, .string ⟨#[]⟩, .int .i64 0, .string ⟨#[]⟩, .string ⟨#[]⟩, .int .i64 0, .string ⟨#[]⟩] 58))
      have HCL := hid HCB0.out.lt
      clear HCB0
      obtain ⟨C, HC⟩ : ∃ C : Nat, Hid (w2.heap.size = C) := ⟨_, rfl⟩
      rw [HC.out] at HCC ⊢
      have HCW := hid (show w.heap.size < C by rw [← HC.out]; exact HCL.out)
      generalize w2.alloc (.cells #[.string ⟨#[]⟩, .string ⟨#[]⟩, .int .i64 0, .string ⟨#[]⟩, .string ⟨#[]⟩, .int .i64 0, .string ⟨#[]⟩] 58) = wz at *
      have HXz := hid (HX2.out.below HG2.out HB.out)
      obtain ⟨y0, y1, y2⟩ := HXz.out
      obtain ⟨c0, c1, c2, c3, c4, c5, c6⟩ := HCC.out.at
      have f0 := HCC.out.fz 0
      have f4 := HCC.out.fz 4
      have f5 := HCC.out.fz 5
      have f6 := HCC.out.fz 6
      have hgc : ¬ g2 = C := by have := HG2.out; have := HCW.out; omega
      have hgc' : ¬ C = g2 := by have := HG2.out; have := HCW.out; omega
      go_region
      have HCC2 : Hid (Cb ((((wz.setCell ⟨C, 0, none⟩ (.string (mk y.1))).setCell ⟨C, 4, none⟩ (.string (mk y.1))).setCell ⟨C, 5, none⟩ (.int .i64 y.2.1)).setCell ⟨C, 6, none⟩ (.string (mk y.2.2))).drew C (y.1, zE, y)) := by unfold Hid Cb; show ((((wz.setCell ⟨C, 0, none⟩ (.string (mk y.1))).setCell ⟨C, 4, none⟩ (.string (mk y.1))).setCell ⟨C, 5, none⟩ (.int .i64 y.2.1)).setCell ⟨C, 6, none⟩ (.string (mk y.2.2))).heap[C]? = _; rw [blk_set (blk_set (blk_set (blk_set HCC.out _) _) _) _]; rfl
      have HCB2 : Hid (Cb ((((wz.setCell ⟨C, 0, none⟩ (.string (mk y.1))).setCell ⟨C, 4, none⟩ (.string (mk y.1))).setCell ⟨C, 5, none⟩ (.int .i64 y.2.1)).setCell ⟨C, 6, none⟩ (.string (mk y.2.2))).drew w.heap.size zC) := ((((HCB.out.other (d := C) (i := 0) (by have := HCW.out; omega) _).other (d := C) (i := 4) (by have := HCW.out; omega) _).other (d := C) (i := 5) (by have := HCW.out; omega) _).other (d := C) (i := 6) (by have := HCW.out; omega) _)
      have HB2 : Hid (Below w.heap.size w ((((wz.setCell ⟨C, 0, none⟩ (.string (mk y.1))).setCell ⟨C, 4, none⟩ (.string (mk y.1))).setCell ⟨C, 5, none⟩ (.int .i64 y.2.1)).setCell ⟨C, 6, none⟩ (.string (mk y.2.2))).drew) := below_dr ((((HB.out.setCell (p := ⟨C, 0, none⟩) (by have := HCW.out; show w.heap.size ≤ C; omega) _).setCell (p := ⟨C, 4, none⟩) (by have := HCW.out; show w.heap.size ≤ C; omega) _).setCell (p := ⟨C, 5, none⟩) (by have := HCW.out; show w.heap.size ≤ C; omega) _).setCell (p := ⟨C, 6, none⟩) (by have := HCW.out; show w.heap.size ≤ C; omega) _)
      clear HXz y0 y1 y2 c0 c1 c2 c3 c4 c5 c6 hgc hgc' f0 f4 f5 f6 HCC HCB HB
      generalize ((((wz.setCell ⟨C, 0, none⟩ (.string (mk y.1))).setCell ⟨C, 4, none⟩ (.string (mk y.1))).setCell ⟨C, 5, none⟩ (.int .i64 y.2.1)).setCell ⟨C, 6, none⟩ (.string (mk y.2.2))).drew = wy at *
      have HCC := HCC2; have HCB := HCB2; have HB := HB2; clear HCC2 HCB2 HB2
      have HR := hid HCC.out.range
      have HT := hid HCB.out.there
      have HF := hid (HCB.out.all (y.1, zE, y))
      have HBF := hid (belowCs (Nat.le_refl _) (chgV (y.1, zE, y)) 0 _ HB.out)
      go_wp2_with (first | (refine wpList_load_mid (by rfl) 58 (.tmp 6) (by rfl) C 0 (by rfl) (chgV (y.1, zE, y)) _ HR.out HU.out rfl (HI.out (y.1, zE, y)) ?_; clear HR) | (refine wpList_store_mid (by rfl) 58 (.tmp 4) (.tmp 49) (by rfl) w.heap.size 0 (chgV (y.1, zE, y)).toArray (by rfl) (by rfl) HT.out (HI.out (y.1, zE, y)) (HO.out (y.1, zE, y)) ?_; clear HT))
      refine ret_row 4 58 rfl w.heap.size rfl (chgV (y.1, zE, y)) 58 HF.out _ Try.underlying58 rfl (HI.out (y.1, zE, y)) rfl ⟨?_, HBF.out⟩
      rw [HFP.out]
      rfl

end Go.Proofs.Ytgldmepmeampeab

/- The program's ownChange. -/
namespace Go.Proofs.Ytgldmepmeampeab
open Go.RowKit Go.BigFrame

def ShrC (c : Chg) : Prop := c.1.length ≤ 281474976710656 ∧ Shr c.2.1 ∧ Shr c.2.2

set_option maxRecDepth 100000 in
set_option maxHeartbeats 2000000 in
theorem ownChange_any (c : Chg) (w : World) (hs : ShrC c) :
    Calls Try.prog 22 #[chgA c] w fun r w' => r = .returned (chgA c) ∧ Below w.heap.size w w' := by
  have H0 := hid (clone_any (mk c.1) · (by rw [mk_size]; exact hs.1))
  have H1 := hid (ownEntry_any c.2.1 · hs.2.1)
  have H2 := hid (ownEntry_any c.2.2 · hs.2.2)
  unfold entA at H1 H2
  have HB := hid (below_walk2 w (.cells (chgV c).toArray 58) (.cells (chgV zC).toArray 58))
  have HE := hid ((Cb.new w c).below (below_walk (w.alloc (.cells (chgV c).toArray 58)) (.cells (chgV zC).toArray 58)))
  have HN := hid (Cb.new (w.alloc (.cells (chgV c).toArray 58)) zC)
  rw [show (w.alloc (.cells (chgV c).toArray 58)).heap.size = w.heap.size + 1 by simp] at HN
  have HU := hid Try.underlying58
  have HI := hid (info_chg7 c)
  have HO := hid (one_chg7 c)
  clear hs
  unfold chgA
  go_enter Try.func22, Try.ntmps22
  go_wp2_with fail
  change Hid (Below w.heap.size w ((w.alloc (.cells #[.string (mk c.1), .string (mk c.2.1.1), .int .i64 c.2.1.2.1, .string (mk c.2.1.2.2), .string (mk c.2.2.1), .int .i64 c.2.2.2.1, .string (mk c.2.2.2.2)] 58)).alloc (.cells #[.string ⟨#[]⟩, .string ⟨#[]⟩, .int .i64 0, .string ⟨#[]⟩, .string ⟨#[]⟩, .int .i64 0, .string ⟨#[]⟩] 58))) at HB
  change Hid (Cb ((w.alloc (.cells #[.string (mk c.1), .string (mk c.2.1.1), .int .i64 c.2.1.2.1, .string (mk c.2.1.2.2), .string (mk c.2.2.1), .int .i64 c.2.2.2.1, .string (mk c.2.2.2.2)] 58)).alloc (.cells #[.string ⟨#[]⟩, .string ⟨#[]⟩, .int .i64 0, .string ⟨#[]⟩, .string ⟨#[]⟩, .int .i64 0, .string ⟨#[]⟩] 58)) w.heap.size c) at HE
  change Hid (Cb ((w.alloc (.cells #[.string (mk c.1), .string (mk c.2.1.1), .int .i64 c.2.1.2.1, .string (mk c.2.1.2.2), .string (mk c.2.2.1), .int .i64 c.2.2.2.1, .string (mk c.2.2.2.2)] 58)).alloc (.cells #[.string ⟨#[]⟩, .string ⟨#[]⟩, .int .i64 0, .string ⟨#[]⟩, .string ⟨#[]⟩, .int .i64 0, .string ⟨#[]⟩] 58)) (w.heap.size + 1) zC) at HN
  generalize (w.alloc (.cells #[.string (mk c.1), .string (mk c.2.1.1), .int .i64 c.2.1.2.1, .string (mk c.2.1.2.2), .string (mk c.2.2.1), .int .i64 c.2.2.2.1, .string (mk c.2.2.2.2)] 58)).alloc (.cells #[.string ⟨#[]⟩, .string ⟨#[]⟩, .int .i64 0, .string ⟨#[]⟩, .string ⟨#[]⟩, .int .i64 0, .string ⟨#[]⟩] 58) = wz at *
  have HL := hid HE.out.lt
  obtain ⟨x0, x1, x2, x3, x4, x5, x6⟩ := HE.out.at
  have c0 := fun p : Bel wz => p.cell x0 HL.out
  have c1 := fun p : Bel wz => p.cell x1 HL.out
  have c2 := fun p : Bel wz => p.cell x2 HL.out
  have c3 := fun p : Bel wz => p.cell x3 HL.out
  have c4 := fun p : Bel wz => p.cell x4 HL.out
  have c5 := fun p : Bel wz => p.cell x5 HL.out
  have c6 := fun p : Bel wz => p.cell x6 HL.out
  have ib : Nonempty (Bel wz) := bel_some wz
  clear x0 x1 x2 x3 x4 x5 x6
  refine wp_region_bel_tail 10 (by kernel_rfl) (by kernel_rfl) ?_
  simp only [List.take_succ_cons, List.take_zero, List.drop_succ_cons, List.drop_zero]
  repeat (go_big_quiet_step (first | (go_at_call 46; with_reducible exact bel_of (H0.out _)) | (go_at_call 39; with_reducible exact bel_of (H1.out _)) | (go_at_call 39; with_reducible exact bel_of (H2.out _))))
  refine wpQuiet_nil ?_
  rintro w3 ⟨⟨w3', hb3⟩, hw3⟩
  obtain rfl : w3 = w3' := hw3
  have HB3 := hid (below_then HB.out hb3)
  have HN3 := hid (HN.out.below hb3)
  clear hb3 c0 c1 c2 c3 c4 c5 c6 ib HB HN HE HL
  have HT := hid HN3.out.there
  have HF := hid (HN3.out.all c)
  have HBF := hid (belowCs (show w.heap.size ≤ w.heap.size + 1 by omega) (chgV c) 0 _ HB3.out)
  go_wp2_with (refine wpList_store_mid (by rfl) 58 (.tmp 2) (.tmp 12) (by rfl) (w.heap.size + 1) 0 (chgV c).toArray (by rfl) (by rfl) HT.out HI.out HO.out ?_; clear HT)
  exact ret_row 2 58 rfl (w.heap.size + 1) rfl (chgV c) 58 HF.out _ Try.underlying58 rfl HI.out rfl ⟨rfl, HBF.out⟩

end Go.Proofs.Ytgldmepmeampeab

/- The document's SameChanges. -/
namespace Go.Proofs.Ytgldmepmeampeab
open Go.RowKit Go.BigFrame

theorem ext_getC {a b : List Chg} (h : a.length = b.length) (hs : ∀ j, j < a.length → a.getD j zC = b.getD j zC) : a = b := by
  apply List.ext_getElem h
  intro i h1 h2
  have := hs i h1
  simpa [List.getD_eq_getElem?_getD, h1, h2] using this
/-- the seven cells of one change -/
theorem Chgs.at7 {w : World} {ao : Option Addr} {n c : Nat} {cs : List Chg} (h : Chgs w (.slice ao n c) cs) (k : Nat) (hk : k < cs.length) (x : Chg) (hx : cs.getD k zC = x) :
    ∃ g o, ao = some ⟨g, o, none⟩ ∧ g < w.heap.size ∧ w.cell? ⟨g, o + k * 7, none⟩ = some (.string (mk x.1)) ∧ w.cell? ⟨g, o + k * 7 + 1, none⟩ = some (.string (mk x.2.1.1)) ∧ w.cell? ⟨g, o + k * 7 + 2, none⟩ = some (.int .i64 x.2.1.2.1) ∧ w.cell? ⟨g, o + k * 7 + 3, none⟩ = some (.string (mk x.2.1.2.2))
      ∧ w.cell? ⟨g, o + k * 7 + 4, none⟩ = some (.string (mk x.2.2.1)) ∧ w.cell? ⟨g, o + k * 7 + 5, none⟩ = some (.int .i64 x.2.2.2.1) ∧ w.cell? ⟨g, o + k * 7 + 6, none⟩ = some (.string (mk x.2.2.2.2)) := by
  obtain ⟨g, o, h1, h2, h3⟩ := h.at k hk
  rw [hx] at h3
  exact ⟨g, o, h1, h2, h3 0 _ rfl, h3 1 _ rfl, h3 2 _ rfl, h3 3 _ rfl, h3 4 _ rfl, h3 5 _ rfl, h3 6 _ rfl⟩

end Go.Proofs.Ytgldmepmeampeab

/- The document's Diff: what it answers, how far it has come, its turns; and its ways where a tree is not right. -/
namespace Go.Proofs.Ytgldmepmeampeab
open Go.RowKit Go.BigFrame

/-- what Diff answers -/
def dfP (a b : List Ent) : Except Int (List Chg) := if (chkP a).2 ≠ 0 then .error (chkP a).2 else if (chkP b).2 ≠ 0 then .error (chkP b).2 else .ok (difP a b)
def AnsC (w' : World) (base : Nat) (r : Ending) (x : Except Int (List Chg)) : Prop := match x with
  | .ok t => ∃ v, r = .returned (.tuple #[v, .int .i64 0]) ∧ OwnC w' base v t
  | .error e => r = .returned (.tuple #[.slice none 0 0, .int .i64 e])
/-- how far Diff has come -/
structure DfS (w0 : World) (a b a' b' : List Ent) (cs : List Chg) (va vb vo : Value) (wr : World) : Prop where
  ea : Ents w0 va a'
  eb : Ents w0 vb b'
  ma : ∀ e ∈ a', mayP e = true
  mb : ∀ e ∈ b', mayP e = true
  own : OwnC wr w0.heap.size vo cs
  eq : cs ++ difP a' b' = difP a b
  len : cs.length + a'.length + b'.length ≤ 2048
  bel : Below w0.heap.size w0 wr

theorem difP_nil : difP [] [] = [] := by rw [difP]
theorem difP_left (x : Ent) (a : List Ent) : difP (x :: a) [] = (x.1, x, zE) :: difP a [] := by rw [difP]
theorem difP_right (y : Ent) (b : List Ent) : difP [] (y :: b) = (y.1, zE, y) :: difP [] b := by rw [difP]
theorem difP_lt {x y : Ent} (a b : List Ent) (h : ltP x.1 y.1 = true) (hx : okP x.1 = true) (hy : okP y.1 = true) : difP (x :: a) (y :: b) = (x.1, x, zE) :: difP a (y :: b) := by
  rw [difP, if_pos ((ltP_iff hx hy).1 h)]
theorem difP_gt {x y : Ent} (a b : List Ent) (h : ltP y.1 x.1 = true) (hx : okP x.1 = true) (hy : okP y.1 = true) : difP (x :: a) (y :: b) = (y.1, zE, y) :: difP (x :: a) b := by
  have h1 := (ltP_iff hy hx).1 h
  have h2 := cmpL_anti (nms x.1) (nms y.1)
  rw [difP, if_neg (by omega), if_neg (by omega)]
theorem difP_eq {x y : Ent} (a b : List Ent) (h : ltP x.1 y.1 = false) (h' : ltP y.1 x.1 = false) (hx : okP x.1 = true) (hy : okP y.1 = true) : difP (x :: a) (y :: b) = (if x = y then [] else [(x.1, x, y)]) ++ difP a b := by
  have h1 : ¬ cmpL (nms x.1) (nms y.1) < 0 := fun h2 => by rw [(ltP_iff hx hy).2 h2] at h; cases h
  have h2 : ¬ cmpL (nms y.1) (nms x.1) < 0 := fun h3 => by rw [(ltP_iff hy hx).2 h3] at h'; cases h'
  have h3 := cmpL_anti (nms x.1) (nms y.1)
  rw [difP, if_neg h1, if_pos (by omega)]
/-- a turn that adds a change: the rest of both, as the memory holds them, and the list that has grown -/
theorem DfS.more {w0 wr wr' : World} {a b a' b' a2 b2 : List Ent} {cs : List Chg} {va vb vo va2 vb2 vo2 : Value} {c : Chg} (h : DfS w0 a b a' b' cs va vb vo wr) (hd : difP a' b' = c :: difP a2 b2)
    (sa : ∀ e ∈ a2, e ∈ a') (sb : ∀ e ∈ b2, e ∈ b') (hl : a2.length + b2.length + 1 ≤ a'.length + b'.length) (ea : Ents w0 va2 a2) (eb : Ents w0 vb2 b2) (ho : OwnC wr' w0.heap.size vo2 (cs ++ [c])) (hb : Below w0.heap.size w0 wr') :
    DfS w0 a b a2 b2 (cs ++ [c]) va2 vb2 vo2 wr' :=
  ⟨ea, eb, fun e he => h.ma e (sa e he), fun e he => h.mb e (sb e he), ho, by rw [← h.eq, hd, List.append_assoc]; rfl, by have := h.len; simp; omega, hb⟩
/-- a turn that adds none -/
theorem DfS.none {w0 wr wr' : World} {a b a' b' a2 b2 : List Ent} {cs : List Chg} {va vb vo va2 vb2 : Value} (h : DfS w0 a b a' b' cs va vb vo wr) (hd : difP a' b' = difP a2 b2)
    (sa : ∀ e ∈ a2, e ∈ a') (sb : ∀ e ∈ b2, e ∈ b') (hl : a2.length + b2.length ≤ a'.length + b'.length) (ea : Ents w0 va2 a2) (eb : Ents w0 vb2 b2) (ho : OwnC wr' w0.heap.size vo cs) (hb : Below w0.heap.size w0 wr') :
    DfS w0 a b a2 b2 cs va2 vb2 vo wr' :=
  ⟨ea, eb, fun e he => h.ma e (sa e he), fun e he => h.mb e (sb e he), ho, by rw [← h.eq, hd], by have := h.len; omega, hb⟩

end Go.Proofs.Ytgldmepmeampeab

/- The program's Diff. -/
namespace Go.Proofs.Ytgldmepmeampeab
open Go.RowKit Go.BigFrame

theorem may_shr {e : Ent} (h : mayP e = true) : Shr e := by
  have h1 := okP_short (mayP_ok h)
  refine ⟨by omega, ?_⟩
  unfold mayP at h
  simp only [Bool.and_eq_true, decide_eq_true_iff] at h
  rcases h.2 with h2 | h2 | h2
  · omega
  · rw [h2.2]; simp
  · omega
theorem zE_shr : Shr zE := ⟨by simp [zE], by simp [zE]⟩
theorem firP_shr {a b : List Ent} (ha : ∀ e ∈ a, mayP e = true) (hb : ∀ e ∈ b, mayP e = true) : ShrC (firP a b) := by
  match a, b with
  | [], [] => exact ⟨by simp [firP], zE_shr, zE_shr⟩
  | x :: a, [] => exact ⟨(may_shr (ha x (by simp))).1, may_shr (ha x (by simp)), zE_shr⟩
  | [], y :: b => exact ⟨(may_shr (hb y (by simp))).1, zE_shr, may_shr (hb y (by simp))⟩
  | x :: a, y :: b =>
    have hx := may_shr (ha x (by simp))
    have hy := may_shr (hb y (by simp))
    unfold firP
    dsimp only
    split
    · exact ⟨hx.1, hx, zE_shr⟩
    · split
      · exact ⟨hy.1, hx, hy⟩
      · exact ⟨hy.1, zE_shr, hy⟩
theorem firP_old {a b : List Ent} (h : (firP a b).2.1.2.1 ≠ 0) : a ≠ [] := by
  rintro rfl
  match b with
  | [] => exact h rfl
  | y :: b => exact h rfl
theorem firP_new {a b : List Ent} (h : (firP a b).2.2.2.1 ≠ 0) : b ≠ [] := by
  rintro rfl
  match a with
  | [] => exact h rfl
  | y :: b => exact h rfl
theorem firP_one {a b : List Ent} (ha : ∀ e ∈ a, mayP e = true) (hb : ∀ e ∈ b, mayP e = true) (h : a ≠ [] ∨ b ≠ []) : (firP a b).2.1.2.1 ≠ 0 ∨ (firP a b).2.2.2.1 ≠ 0 := by
  match a, b with
  | [], [] => exact absurd rfl (h.elim id id)
  | x :: a, [] => exact Or.inl (may_kind (ha x (by simp)))
  | [], y :: b => exact Or.inr (may_kind (hb y (by simp)))
  | x :: a, y :: b =>
    have hx := may_kind (ha x (by simp))
    have hy := may_kind (hb y (by simp))
    unfold firP
    dsimp only
    split
    · exact Or.inl hx
    · split
      · exact Or.inl hx
      · exact Or.inr hy

theorem DfS.go' {w0 wr w3 : World} {a b a' b' : List Ent} {cs : List Chg} {va vb vo : Value} (h : DfS w0 a b a' b' cs va vb vo wr) (hb : Below wr.heap.size wr w3) : DfS w0 a b a' b' cs va vb vo w3 :=
  ⟨h.ea, h.eb, h.ma, h.mb, h.own.below hb, h.eq, h.len, below_then h.bel hb⟩
theorem rgtP_two (a b : List Ent) : rgtP [a, b] = if (chkP a).2 ≠ 0 then (chkP a).2 else (chkP b).2 := by
  unfold rgtP
  by_cases h : (chkP a).2 = 0
  · simp [h, rgtP]
    exact fun h => h.symm
  · simp [h]
/-- the rest of one side, behind its first or whole -/
theorem ents_rest {w0 : World} {ao : Option Addr} {n c : Nat} {a : List Ent} (h : Ents w0 (.slice ao n c) a) (hne : a ≠ []) :
    ∃ a1 m1 c1, Ents w0 (.slice a1 m1 c1) (a.drop 1) ∧ m1 + 1 = n ∧ (1 : Int) ≤ (n : Int) ∧
      ∀ W, (Instr.slice 22 (.slice ao n c) (some (.int .i64 1)) none none).run Try.prog W = .ok (.slice a1 m1 c1) W := by
  have hl : 0 < a.length := List.length_pos_iff.2 hne
  obtain ⟨vx, hvx, hs⟩ := ecut_from h 1 hl
  obtain ⟨a1, c1, e1⟩ := hvx.shape
  obtain ⟨a2, c2, e2⟩ := h.shape
  subst e1
  injection e2 with _ e2 _
  exact ⟨a1, _, c1, hvx, by rw [e2, List.length_drop]; omega, by rw [e2]; omega, hs⟩

set_option maxRecDepth 100000 in
set_option maxHeartbeats 4000000 in
theorem diff_ok (va vb : Value) (a b : List Ent) (w : World) (ha : Ents w va a) (hb : Ents w vb b) (hsa : Short a) (hsb : Short b) (hra : Rgt a) (hrb : Rgt b) :
    Calls Try.prog 8 #[va, vb] w fun r w' => AnsC w' w.heap.size r (.ok (difP a b)) ∧ Below w.heap.size w w' := by
  have HR := hid (right_any _ [a, b] _ (trs_two w va vb a b 22 ha hb) (by simp) (fun x hx => by
    simp only [List.mem_cons, List.not_mem_nil, or_false] at hx
    rcases hx with rfl | rfl
    · exact ⟨hsa, by have := hra.many; omega⟩
    · exact ⟨hsb, by have := hrb.many; omega⟩))
  rw [rgtP_two, if_neg (by simpa using rgt_iff.2 hra), rgt_iff.2 hrb] at HR
  have HB0 := hid (below_walk w (.cells #[va, vb] 22))
  have HS0 := hid (fun w2 (hw : Below w.heap.size w w2) => (⟨ha, hb, hra.may, hrb.may, OwnC.nil _ _, rfl, by have := hra.many; have := hrb.many; simp; omega, hw⟩ : DfS w a b a b [] va vb (.slice none 0 0) w2))
  obtain ⟨ao, ca, rfl⟩ := ha.shape
  obtain ⟨bo, cb, rfl⟩ := hb.shape
  clear ha hb hsa hsb hra hrb
  go_enter Try.func8, Try.ntmps8
  go_wp2_with fail
  refine HR.out.mono ?_
  rintro r w1 ⟨rfl, hb1⟩
  have HB1 := hid (below_then HB0.out hb1)
  clear hb1 HR HB0
  go_wp2
  go_loopw [0, 1, 7] (fun x y o wr => ∃ a' b' cs, DfS w a b a' b' cs x y o wr) (fun x y _ _ => lenV x + lenV y)
  case atStart => exact ⟨a, b, [], HS0.out w1 HB1.out⟩
  case round =>
    obtain ⟨a', b', cs, hst⟩ := hrel
    have HST := hid hst
    obtain ⟨aa, xa, e1⟩ := hst.ea.shape
    obtain ⟨ab, xb, e2⟩ := hst.eb.shape
    obtain ⟨ac, xc, e3⟩ := hst.own.chgs.shape
    subst e1 e2 e3
    clear hst HS0 HB1
    by_cases hend : a' = [] ∧ b' = []
    · obtain ⟨rfl, rfl⟩ := hend
      have HF := hid HST.out.eq
      rw [difP_nil, List.append_nil] at HF
      go_wp2
      go_ret2
      exact ⟨⟨_, rfl, by rw [← HF.out]; exact HST.out.own⟩, HST.out.bel⟩
    · have hne : a' ≠ [] ∨ b' ≠ [] := by
        by_cases h : a' = []
        · exact Or.inr (fun h2 => hend ⟨h, h2⟩)
        · exact Or.inl h
      have HFO := hid (firstOf_any _ _ a' b' wr (HST.out.ea.below HST.out.bel) (HST.out.eb.below HST.out.bel) HST.out.ma HST.out.mb hne)
      have HDS := hid (difP_step HST.out.ma HST.out.mb hne)
      have HSH := hid (firP_shr HST.out.ma HST.out.mb)
      have HON := hid (firP_one HST.out.ma HST.out.mb hne)
      have HOL := hid (firP_old (a := a') (b := b'))
      have HNW := hid (firP_new (a := a') (b := b'))
      generalize firP a' b' = c at *
      obtain ⟨n1, HN1⟩ : ∃ n : Nat, Hid (a'.length = n) := ⟨_, rfl⟩
      obtain ⟨n2, HN2⟩ : ∃ n : Nat, Hid (b'.length = n) := ⟨_, rfl⟩
      obtain ⟨nc, HNC⟩ : ∃ n : Nat, Hid (cs.length = n) := ⟨_, rfl⟩
      rw [HN1.out] at HST HFO ⊢
      rw [HN2.out] at HST HFO ⊢
      rw [HNC.out] at HST ⊢
      have HU := hid Try.underlying58
      have HI := hid (info_chg7 c)
      have HO := hid (one_chg7 c)
      have HOC := hid (ownChange_any c · HSH.out)
      unfold chgA at HFO HOC
      have hg := entG
      have hne := fun W => neq_ent c.2.1 c.2.2 W
      obtain ⟨K1, HK1⟩ : ∃ K, Hid (c.2.1.2.1 = K) := ⟨_, rfl⟩
      obtain ⟨K2, HK2⟩ : ∃ K, Hid (c.2.2.2.1 = K) := ⟨_, rfl⟩
      clear hend
      have HLN := hid (show cs.length + 1 ≤ 1099511627776 by have := HST.out.len; omega)
      rw [HK1.out, HK2.out] at HDS
      rw [HK1.out] at HOL
      rw [HK2.out] at HNW
      rw [HK1.out, HK2.out] at HON
      by_cases hk1 : K1 = 0
      ·
        have hk2 : K2 ≠ 0 := HON.out.resolve_left (fun h => h hk1)
        have hcc : ¬ c.2.1 = c.2.2 := fun h => hk2 (by rw [← HK2.out, ← h, HK1.out, hk1])
        subst hk1
        by_cases hz : 0 < n1
        ·
          obtain ⟨q2, m2, r2, hv2, hm2, hp2, hs2⟩ := ents_rest HST.out.eb (HNW.out hk2)
          have HV2 := hid hv2
          have HM2 := hid hm2
          clear hv2 hm2
          have hn2 : (0 : Int) < (n2 : Int) := by omega
          have e2 : (K2 == 0) = false := by simpa using hk2
          have hn1 : (0 : Int) < (n1 : Int) := by omega
          rw [if_neg hcc] at HDS
          rw [if_pos rfl, if_neg hk2] at HDS
          rw [decide_eq_false hcc] at hne
          clear hcc HOL HNW HON
          go_wp2_with fail
          refine HFO.out.mono ?_
          rintro r w3 ⟨rfl, hb3⟩
          have HST3 := hid (HST.out.go' hb3)
          clear hb3 HST HFO
          have HT := hid (Cb.new w3 zC).there
          have HC4 := hid ((Cb.new w3 zC).all c)
          have HB4 := hid (belowCs (Nat.le_refl _) (chgV c) 0 _ (below_walk w3 (.cells #[.string ⟨#[]⟩, .string ⟨#[]⟩, .int .i64 0, .string ⟨#[]⟩, .string ⟨#[]⟩, .int .i64 0, .string ⟨#[]⟩] 58)))
          change Hid (Cb ((w3.alloc (.cells #[.string ⟨#[]⟩, .string ⟨#[]⟩, .int .i64 0, .string ⟨#[]⟩, .string ⟨#[]⟩, .int .i64 0, .string ⟨#[]⟩] 58)).setCells w3.heap.size 0 (chgV c).toArray.toList) w3.heap.size c) at HC4
          change Hid (Below w3.heap.size w3 ((w3.alloc (.cells #[.string ⟨#[]⟩, .string ⟨#[]⟩, .int .i64 0, .string ⟨#[]⟩, .string ⟨#[]⟩, .int .i64 0, .string ⟨#[]⟩] 58)).setCells w3.heap.size 0 (chgV c).toArray.toList)) at HB4
          go_wp2_with (first | (refine wpList_store_mid (by rfl) 58 (.tmp 8) (.tmp 26) (by rfl) w3.heap.size 0 (chgV c).toArray (by rfl) (by rfl) HT.out HI.out HO.out ?_; clear HT; obtain ⟨w4, hw4⟩ : ∃ w4, w4 = (w3.alloc (.cells #[.string ⟨#[]⟩, .string ⟨#[]⟩, .int .i64 0, .string ⟨#[]⟩, .string ⟨#[]⟩, .int .i64 0, .string ⟨#[]⟩] 58)).setCells w3.heap.size 0 (chgV c).toArray.toList := ⟨_, rfl⟩; rw [← hw4] at HC4 HB4 ⊢; clear hw4; have HST4 := hid (HST3.out.go' HB4.out); obtain ⟨C, HC⟩ : ∃ C : Nat, Hid (w3.heap.size = C) := ⟨_, rfl⟩; rw [HC.out] at HC4 ⊢; clear HB4 HST3; obtain ⟨z0, z1, z2, z3, z4, z5, z6⟩ := HC4.out.at; rw [HK1.out] at z2; rw [HK2.out] at z5; have HRG := hid HC4.out.range) | (refine wpList_load_mid (by rfl) 58 (.tmp 8) (by rfl) C 0 (by rfl) (chgV c) _ HRG.out HU.out rfl HI.out ?_; clear HRG) | (go_at_call 22; refine (HOC.out _).mono ?_; rintro r w5 ⟨rfl, hb5⟩; have HST5 := hid (HST4.out.go' hb5); clear hb5; have HEN := hid (chgs_one w5 c); have HO6 := hid (HST5.out.own.below (below_walk w5 (.cells (chgV c).toArray 58))); have HB6 := hid (HST5.out.bel.alloc HST5.out.bel.size (.cells (chgV c).toArray 58))) | (at_builtin; refine app_chg rfl _ _ rfl w.heap.size _ cs rfl HO6.out [c] _ rfl HEN.out HLN.out HB6.out.size ?_; intro v7 w7 ho7 hg7 _; have HO7 := hid ho7; have HB7 := hid (HB6.out.grown hg7 HB6.out.size (fun j hj => (HO6.out.lt j hj).1)); obtain ⟨a7, c7, h7⟩ := ho7.chgs.shape; generalize (cs ++ [c]).length = n7 at h7; subst h7; clear ho7 hg7))
          exact ⟨⟨_, _, _, HST5.out.more (va2 := .slice aa n1 xa) (vb2 := .slice q2 m2 r2) HDS.out (fun e he => he) (fun e he => List.mem_of_mem_drop he) (by have := HM2.out; have := HN1.out; have := HN2.out; simp only [List.length_drop]; omega) HST5.out.ea HV2.out HO7.out HB7.out⟩, by have := HM2.out; simp [lenV]; omega⟩
        ·
          obtain ⟨q2, m2, r2, hv2, hm2, hp2, hs2⟩ := ents_rest HST.out.eb (HNW.out hk2)
          have HV2 := hid hv2
          have HM2 := hid hm2
          clear hv2 hm2
          have hn2 : (0 : Int) < (n2 : Int) := by omega
          have e2 : (K2 == 0) = false := by simpa using hk2
          have hn1 : ¬ (0 : Int) < (n1 : Int) := by omega
          rw [if_neg hcc] at HDS
          rw [if_pos rfl, if_neg hk2] at HDS
          rw [decide_eq_false hcc] at hne
          clear hcc HOL HNW HON
          go_wp2_with fail
          refine HFO.out.mono ?_
          rintro r w3 ⟨rfl, hb3⟩
          have HST3 := hid (HST.out.go' hb3)
          clear hb3 HST HFO
          have HT := hid (Cb.new w3 zC).there
          have HC4 := hid ((Cb.new w3 zC).all c)
          have HB4 := hid (belowCs (Nat.le_refl _) (chgV c) 0 _ (below_walk w3 (.cells #[.string ⟨#[]⟩, .string ⟨#[]⟩, .int .i64 0, .string ⟨#[]⟩, .string ⟨#[]⟩, .int .i64 0, .string ⟨#[]⟩] 58)))
          change Hid (Cb ((w3.alloc (.cells #[.string ⟨#[]⟩, .string ⟨#[]⟩, .int .i64 0, .string ⟨#[]⟩, .string ⟨#[]⟩, .int .i64 0, .string ⟨#[]⟩] 58)).setCells w3.heap.size 0 (chgV c).toArray.toList) w3.heap.size c) at HC4
          change Hid (Below w3.heap.size w3 ((w3.alloc (.cells #[.string ⟨#[]⟩, .string ⟨#[]⟩, .int .i64 0, .string ⟨#[]⟩, .string ⟨#[]⟩, .int .i64 0, .string ⟨#[]⟩] 58)).setCells w3.heap.size 0 (chgV c).toArray.toList)) at HB4
          go_wp2_with (first | (refine wpList_store_mid (by rfl) 58 (.tmp 8) (.tmp 26) (by rfl) w3.heap.size 0 (chgV c).toArray (by rfl) (by rfl) HT.out HI.out HO.out ?_; clear HT; obtain ⟨w4, hw4⟩ : ∃ w4, w4 = (w3.alloc (.cells #[.string ⟨#[]⟩, .string ⟨#[]⟩, .int .i64 0, .string ⟨#[]⟩, .string ⟨#[]⟩, .int .i64 0, .string ⟨#[]⟩] 58)).setCells w3.heap.size 0 (chgV c).toArray.toList := ⟨_, rfl⟩; rw [← hw4] at HC4 HB4 ⊢; clear hw4; have HST4 := hid (HST3.out.go' HB4.out); obtain ⟨C, HC⟩ : ∃ C : Nat, Hid (w3.heap.size = C) := ⟨_, rfl⟩; rw [HC.out] at HC4 ⊢; clear HB4 HST3; obtain ⟨z0, z1, z2, z3, z4, z5, z6⟩ := HC4.out.at; rw [HK1.out] at z2; rw [HK2.out] at z5; have HRG := hid HC4.out.range) | (refine wpList_load_mid (by rfl) 58 (.tmp 8) (by rfl) C 0 (by rfl) (chgV c) _ HRG.out HU.out rfl HI.out ?_; clear HRG) | (go_at_call 22; refine (HOC.out _).mono ?_; rintro r w5 ⟨rfl, hb5⟩; have HST5 := hid (HST4.out.go' hb5); clear hb5; have HEN := hid (chgs_one w5 c); have HO6 := hid (HST5.out.own.below (below_walk w5 (.cells (chgV c).toArray 58))); have HB6 := hid (HST5.out.bel.alloc HST5.out.bel.size (.cells (chgV c).toArray 58))) | (at_builtin; refine app_chg rfl _ _ rfl w.heap.size _ cs rfl HO6.out [c] _ rfl HEN.out HLN.out HB6.out.size ?_; intro v7 w7 ho7 hg7 _; have HO7 := hid ho7; have HB7 := hid (HB6.out.grown hg7 HB6.out.size (fun j hj => (HO6.out.lt j hj).1)); obtain ⟨a7, c7, h7⟩ := ho7.chgs.shape; generalize (cs ++ [c]).length = n7 at h7; subst h7; clear ho7 hg7))
          exact ⟨⟨_, _, _, HST5.out.more (va2 := .slice aa n1 xa) (vb2 := .slice q2 m2 r2) HDS.out (fun e he => he) (fun e he => List.mem_of_mem_drop he) (by have := HM2.out; have := HN1.out; have := HN2.out; simp only [List.length_drop]; omega) HST5.out.ea HV2.out HO7.out HB7.out⟩, by have := HM2.out; simp [lenV]; omega⟩
      ·
        by_cases hk2 : K2 = 0
        ·
          have hcc : ¬ c.2.1 = c.2.2 := fun h => hk1 (by rw [← HK1.out, h, HK2.out, hk2])
          subst hk2
          obtain ⟨q1, m1, r1, hv1, hm1, hp1, hs1⟩ := ents_rest HST.out.ea (HOL.out hk1)
          have HV1 := hid hv1
          have HM1 := hid hm1
          clear hv1 hm1
          have hn1 : (0 : Int) < (n1 : Int) := by omega
          have e1 : (K1 == 0) = false := by simpa using hk1
          rw [if_neg hcc] at HDS
          rw [if_neg hk1, if_pos rfl] at HDS
          rw [decide_eq_false hcc] at hne
          clear hcc HOL HNW HON
          go_wp2_with fail
          refine HFO.out.mono ?_
          rintro r w3 ⟨rfl, hb3⟩
          have HST3 := hid (HST.out.go' hb3)
          clear hb3 HST HFO
          have HT := hid (Cb.new w3 zC).there
          have HC4 := hid ((Cb.new w3 zC).all c)
          have HB4 := hid (belowCs (Nat.le_refl _) (chgV c) 0 _ (below_walk w3 (.cells #[.string ⟨#[]⟩, .string ⟨#[]⟩, .int .i64 0, .string ⟨#[]⟩, .string ⟨#[]⟩, .int .i64 0, .string ⟨#[]⟩] 58)))
          change Hid (Cb ((w3.alloc (.cells #[.string ⟨#[]⟩, .string ⟨#[]⟩, .int .i64 0, .string ⟨#[]⟩, .string ⟨#[]⟩, .int .i64 0, .string ⟨#[]⟩] 58)).setCells w3.heap.size 0 (chgV c).toArray.toList) w3.heap.size c) at HC4
          change Hid (Below w3.heap.size w3 ((w3.alloc (.cells #[.string ⟨#[]⟩, .string ⟨#[]⟩, .int .i64 0, .string ⟨#[]⟩, .string ⟨#[]⟩, .int .i64 0, .string ⟨#[]⟩] 58)).setCells w3.heap.size 0 (chgV c).toArray.toList)) at HB4
          go_wp2_with (first | (refine wpList_store_mid (by rfl) 58 (.tmp 8) (.tmp 26) (by rfl) w3.heap.size 0 (chgV c).toArray (by rfl) (by rfl) HT.out HI.out HO.out ?_; clear HT; obtain ⟨w4, hw4⟩ : ∃ w4, w4 = (w3.alloc (.cells #[.string ⟨#[]⟩, .string ⟨#[]⟩, .int .i64 0, .string ⟨#[]⟩, .string ⟨#[]⟩, .int .i64 0, .string ⟨#[]⟩] 58)).setCells w3.heap.size 0 (chgV c).toArray.toList := ⟨_, rfl⟩; rw [← hw4] at HC4 HB4 ⊢; clear hw4; have HST4 := hid (HST3.out.go' HB4.out); obtain ⟨C, HC⟩ : ∃ C : Nat, Hid (w3.heap.size = C) := ⟨_, rfl⟩; rw [HC.out] at HC4 ⊢; clear HB4 HST3; obtain ⟨z0, z1, z2, z3, z4, z5, z6⟩ := HC4.out.at; rw [HK1.out] at z2; rw [HK2.out] at z5; have HRG := hid HC4.out.range) | (refine wpList_load_mid (by rfl) 58 (.tmp 8) (by rfl) C 0 (by rfl) (chgV c) _ HRG.out HU.out rfl HI.out ?_; clear HRG) | (go_at_call 22; refine (HOC.out _).mono ?_; rintro r w5 ⟨rfl, hb5⟩; have HST5 := hid (HST4.out.go' hb5); clear hb5; have HEN := hid (chgs_one w5 c); have HO6 := hid (HST5.out.own.below (below_walk w5 (.cells (chgV c).toArray 58))); have HB6 := hid (HST5.out.bel.alloc HST5.out.bel.size (.cells (chgV c).toArray 58))) | (at_builtin; refine app_chg rfl _ _ rfl w.heap.size _ cs rfl HO6.out [c] _ rfl HEN.out HLN.out HB6.out.size ?_; intro v7 w7 ho7 hg7 _; have HO7 := hid ho7; have HB7 := hid (HB6.out.grown hg7 HB6.out.size (fun j hj => (HO6.out.lt j hj).1)); obtain ⟨a7, c7, h7⟩ := ho7.chgs.shape; generalize (cs ++ [c]).length = n7 at h7; subst h7; clear ho7 hg7))
          exact ⟨⟨_, _, _, HST5.out.more (va2 := .slice q1 m1 r1) (vb2 := .slice ab n2 xb) HDS.out (fun e he => List.mem_of_mem_drop he) (fun e he => he) (by have := HM1.out; have := HN1.out; have := HN2.out; simp only [List.length_drop]; omega) HV1.out HST5.out.eb HO7.out HB7.out⟩, by have := HM1.out; simp [lenV]; omega⟩
        ·
          by_cases hcc : c.2.1 = c.2.2
          ·
            obtain ⟨q1, m1, r1, hv1, hm1, hp1, hs1⟩ := ents_rest HST.out.ea (HOL.out hk1)
            have HV1 := hid hv1
            have HM1 := hid hm1
            clear hv1 hm1
            have hn1 : (0 : Int) < (n1 : Int) := by omega
            have e1 : (K1 == 0) = false := by simpa using hk1
            obtain ⟨q2, m2, r2, hv2, hm2, hp2, hs2⟩ := ents_rest HST.out.eb (HNW.out hk2)
            have HV2 := hid hv2
            have HM2 := hid hm2
            clear hv2 hm2
            have hn2 : (0 : Int) < (n2 : Int) := by omega
            have e2 : (K2 == 0) = false := by simpa using hk2
            rw [if_pos hcc] at HDS
            rw [if_neg hk1, if_neg hk2] at HDS
            rw [decide_eq_true hcc] at hne
            simp only [HK1.out, HK2.out] at hne
            clear hcc HOL HNW HON
            go_wp2_with fail
            refine HFO.out.mono ?_
            rintro r w3 ⟨rfl, hb3⟩
            have HST3 := hid (HST.out.go' hb3)
            clear hb3 HST HFO
            have HT := hid (Cb.new w3 zC).there
            have HC4 := hid ((Cb.new w3 zC).all c)
            have HB4 := hid (belowCs (Nat.le_refl _) (chgV c) 0 _ (below_walk w3 (.cells #[.string ⟨#[]⟩, .string ⟨#[]⟩, .int .i64 0, .string ⟨#[]⟩, .string ⟨#[]⟩, .int .i64 0, .string ⟨#[]⟩] 58)))
            change Hid (Cb ((w3.alloc (.cells #[.string ⟨#[]⟩, .string ⟨#[]⟩, .int .i64 0, .string ⟨#[]⟩, .string ⟨#[]⟩, .int .i64 0, .string ⟨#[]⟩] 58)).setCells w3.heap.size 0 (chgV c).toArray.toList) w3.heap.size c) at HC4
            change Hid (Below w3.heap.size w3 ((w3.alloc (.cells #[.string ⟨#[]⟩, .string ⟨#[]⟩, .int .i64 0, .string ⟨#[]⟩, .string ⟨#[]⟩, .int .i64 0, .string ⟨#[]⟩] 58)).setCells w3.heap.size 0 (chgV c).toArray.toList)) at HB4
            go_wp2_with (refine wpList_store_mid (by rfl) 58 (.tmp 8) (.tmp 26) (by rfl) w3.heap.size 0 (chgV c).toArray (by rfl) (by rfl) HT.out HI.out HO.out ?_; clear HT; obtain ⟨w4, hw4⟩ : ∃ w4, w4 = (w3.alloc (.cells #[.string ⟨#[]⟩, .string ⟨#[]⟩, .int .i64 0, .string ⟨#[]⟩, .string ⟨#[]⟩, .int .i64 0, .string ⟨#[]⟩] 58)).setCells w3.heap.size 0 (chgV c).toArray.toList := ⟨_, rfl⟩; rw [← hw4] at HC4 HB4 ⊢; clear hw4; have HST4 := hid (HST3.out.go' HB4.out); obtain ⟨C, HC⟩ : ∃ C : Nat, Hid (w3.heap.size = C) := ⟨_, rfl⟩; rw [HC.out] at HC4 ⊢; clear HB4 HST3; obtain ⟨z0, z1, z2, z3, z4, z5, z6⟩ := HC4.out.at; rw [HK1.out] at z2; rw [HK2.out] at z5)
            exact ⟨⟨_, _, _, HST4.out.none (va2 := .slice q1 m1 r1) (vb2 := .slice q2 m2 r2) HDS.out (fun e he => List.mem_of_mem_drop he) (fun e he => List.mem_of_mem_drop he) (by have := HM1.out; have := HM2.out; have := HN1.out; have := HN2.out; simp only [List.length_drop]; omega) HV1.out HV2.out HST4.out.own HST4.out.bel⟩, by have := HM1.out; have := HM2.out; simp [lenV]; omega⟩
          ·
            obtain ⟨q1, m1, r1, hv1, hm1, hp1, hs1⟩ := ents_rest HST.out.ea (HOL.out hk1)
            have HV1 := hid hv1
            have HM1 := hid hm1
            clear hv1 hm1
            have hn1 : (0 : Int) < (n1 : Int) := by omega
            have e1 : (K1 == 0) = false := by simpa using hk1
            obtain ⟨q2, m2, r2, hv2, hm2, hp2, hs2⟩ := ents_rest HST.out.eb (HNW.out hk2)
            have HV2 := hid hv2
            have HM2 := hid hm2
            clear hv2 hm2
            have hn2 : (0 : Int) < (n2 : Int) := by omega
            have e2 : (K2 == 0) = false := by simpa using hk2
            rw [if_neg hcc] at HDS
            rw [if_neg hk1, if_neg hk2] at HDS
            rw [decide_eq_false hcc] at hne
            simp only [HK1.out, HK2.out] at hne
            clear hcc HOL HNW HON
            go_wp2_with fail
            refine HFO.out.mono ?_
            rintro r w3 ⟨rfl, hb3⟩
            have HST3 := hid (HST.out.go' hb3)
            clear hb3 HST HFO
            have HT := hid (Cb.new w3 zC).there
            have HC4 := hid ((Cb.new w3 zC).all c)
            have HB4 := hid (belowCs (Nat.le_refl _) (chgV c) 0 _ (below_walk w3 (.cells #[.string ⟨#[]⟩, .string ⟨#[]⟩, .int .i64 0, .string ⟨#[]⟩, .string ⟨#[]⟩, .int .i64 0, .string ⟨#[]⟩] 58)))
            change Hid (Cb ((w3.alloc (.cells #[.string ⟨#[]⟩, .string ⟨#[]⟩, .int .i64 0, .string ⟨#[]⟩, .string ⟨#[]⟩, .int .i64 0, .string ⟨#[]⟩] 58)).setCells w3.heap.size 0 (chgV c).toArray.toList) w3.heap.size c) at HC4
            change Hid (Below w3.heap.size w3 ((w3.alloc (.cells #[.string ⟨#[]⟩, .string ⟨#[]⟩, .int .i64 0, .string ⟨#[]⟩, .string ⟨#[]⟩, .int .i64 0, .string ⟨#[]⟩] 58)).setCells w3.heap.size 0 (chgV c).toArray.toList)) at HB4
            go_wp2_with (first | (refine wpList_store_mid (by rfl) 58 (.tmp 8) (.tmp 26) (by rfl) w3.heap.size 0 (chgV c).toArray (by rfl) (by rfl) HT.out HI.out HO.out ?_; clear HT; obtain ⟨w4, hw4⟩ : ∃ w4, w4 = (w3.alloc (.cells #[.string ⟨#[]⟩, .string ⟨#[]⟩, .int .i64 0, .string ⟨#[]⟩, .string ⟨#[]⟩, .int .i64 0, .string ⟨#[]⟩] 58)).setCells w3.heap.size 0 (chgV c).toArray.toList := ⟨_, rfl⟩; rw [← hw4] at HC4 HB4 ⊢; clear hw4; have HST4 := hid (HST3.out.go' HB4.out); obtain ⟨C, HC⟩ : ∃ C : Nat, Hid (w3.heap.size = C) := ⟨_, rfl⟩; rw [HC.out] at HC4 ⊢; clear HB4 HST3; obtain ⟨z0, z1, z2, z3, z4, z5, z6⟩ := HC4.out.at; rw [HK1.out] at z2; rw [HK2.out] at z5; have HRG := hid HC4.out.range) | (refine wpList_load_mid (by rfl) 58 (.tmp 8) (by rfl) C 0 (by rfl) (chgV c) _ HRG.out HU.out rfl HI.out ?_; clear HRG) | (go_at_call 22; refine (HOC.out _).mono ?_; rintro r w5 ⟨rfl, hb5⟩; have HST5 := hid (HST4.out.go' hb5); clear hb5; have HEN := hid (chgs_one w5 c); have HO6 := hid (HST5.out.own.below (below_walk w5 (.cells (chgV c).toArray 58))); have HB6 := hid (HST5.out.bel.alloc HST5.out.bel.size (.cells (chgV c).toArray 58))) | (at_builtin; refine app_chg rfl _ _ rfl w.heap.size _ cs rfl HO6.out [c] _ rfl HEN.out HLN.out HB6.out.size ?_; intro v7 w7 ho7 hg7 _; have HO7 := hid ho7; have HB7 := hid (HB6.out.grown hg7 HB6.out.size (fun j hj => (HO6.out.lt j hj).1)); obtain ⟨a7, c7, h7⟩ := ho7.chgs.shape; generalize (cs ++ [c]).length = n7 at h7; subst h7; clear ho7 hg7))
            exact ⟨⟨_, _, _, HST5.out.more (va2 := .slice q1 m1 r1) (vb2 := .slice q2 m2 r2) HDS.out (fun e he => List.mem_of_mem_drop he) (fun e he => List.mem_of_mem_drop he) (by have := HM1.out; have := HM2.out; have := HN1.out; have := HN2.out; simp only [List.length_drop]; omega) HV1.out HV2.out HO7.out HB7.out⟩, by have := HM1.out; have := HM2.out; simp [lenV]; omega⟩

end Go.Proofs.Ytgldmepmeampeab

/- The program's Diff, whatever the trees are. -/
namespace Go.Proofs.Ytgldmepmeampeab
open Go.RowKit

set_option maxRecDepth 100000 in
set_option maxHeartbeats 2000000 in
theorem diff_bad (va vb : Value) (a b : List Ent) (w : World) (ha : Ents w va a) (hb : Ents w vb b) (hsa : Short a) (hsb : Short b) (hna : a.length ≤ 4611686018427387904) (hnb : b.length ≤ 4611686018427387904) (E : Int) (hE : rgtP [a, b] = E) (hbad : E ≠ 0) :
    Calls Try.prog 8 #[va, vb] w fun r w' => r = .returned (.tuple #[.slice none 0 0, .int .i64 E]) ∧ Below w.heap.size w w' := by
  have HR := hid (right_any _ [a, b] _ (trs_two w va vb a b 22 ha hb) (by simp) (fun x hx => by
    simp only [List.mem_cons, List.not_mem_nil, or_false] at hx
    rcases hx with rfl | rfl
    · exact ⟨hsa, hna⟩
    · exact ⟨hsb, hnb⟩))
  rw [hE] at HR
  have HB0 := hid (below_walk w (.cells #[va, vb] 22))
  obtain ⟨ao, ca, rfl⟩ := ha.shape
  obtain ⟨bo, cb, rfl⟩ := hb.shape
  have e1 : (E == 0) = false := by simpa using hbad
  clear ha hb hsa hsb hE
  go_enter Try.func8, Try.ntmps8
  go_wp2_with fail
  refine HR.out.mono ?_
  rintro r w1 ⟨rfl, hb1⟩
  have HB1 := hid (below_then HB0.out hb1)
  clear hb1 HR HB0
  go_wp2
  go_ret2
  exact ⟨rfl, HB1.out⟩
/-- Diff, whatever the trees are -/
theorem diff_any (va vb : Value) (a b : List Ent) (w : World) (ha : Ents w va a) (hb : Ents w vb b) (hsa : Short a) (hsb : Short b) (hna : a.length ≤ 4611686018427387904) (hnb : b.length ≤ 4611686018427387904) :
    Calls Try.prog 8 #[va, vb] w fun r w' => AnsC w' w.heap.size r (dfP a b) ∧ Below w.heap.size w w' := by
  by_cases h1 : (chkP a).2 = 0
  · by_cases h2 : (chkP b).2 = 0
    · have := diff_ok va vb a b w ha hb hsa hsb (rgt_iff.1 h1) (rgt_iff.1 h2)
      unfold dfP
      rw [if_neg (by simpa using h1), if_neg (by simpa using h2)]
      exact this
    · unfold dfP
      rw [if_neg (by simpa using h1), if_pos h2]
      exact diff_bad va vb a b w ha hb hsa hsb hna hnb _ (by rw [rgtP_two, if_neg (by simpa using h1)]) h2
  · unfold dfP
    rw [if_pos h1]
    exact diff_bad va vb a b w ha hb hsa hsb hna hnb _ (by rw [rgtP_two, if_pos h1]) h1

end Go.Proofs.Ytgldmepmeampeab

/- Where a path stands: the program's place. -/
namespace Go.Proofs.Ytgldmepmeampeab
open Go.RowKit Go.BigFrame

set_option maxRecDepth 100000 in
set_option maxHeartbeats 2000000 in
theorem search_any (v : Value) (t : List Ent) (p : List UInt8) (w : World) (h : Ents w v t) (hup : t.Pairwise ltE) (hok : ∀ e ∈ t, okP e.1 = true) (hp : okP p = true) (hn : t.length ≤ 1024) :
    Calls Try.prog 55 #[v, .string (mk p), .func (.func 56) #[] #[]] w
      fun r w' => r = .returned (.tuple #[.int .i64 (plP t p), .bool (thP t p)]) ∧ Below w.heap.size w w' := by
  obtain ⟨ao, c, rfl⟩ := h.shape
  have H := hid h
  have HUP := hid hup
  have HOK := hid hok
  have HC := hid (fun (e : Ent) (he : e ∈ t) (W : World) => placeCmp_any e p W (by have := okP_short (hok e he); omega) (by have := okP_short hp; omega))
  have HP := hid hp
  clear h hup hok hp
  go_enter Try.func55, Try.ntmps55
  go_wp2
  go_loopw [9, 10] (fun x y wr => ∃ i j : Nat, x = .int .i64 i ∧ y = .int .i64 j ∧ i ≤ j ∧ j ≤ t.length ∧ (∀ k, k < i → cmpL (nms (t.getD k zE).1) (nms p) < 0) ∧ (∀ k, j ≤ k → k < t.length → ¬ cmpL (nms (t.getD k zE).1) (nms p) < 0) ∧ Below w.heap.size w wr) (fun x y _ => (intOf y).toNat - (intOf x).toNat)
  case atStart => exact ⟨0, t.length, rfl, rfl, Nat.zero_le _, Nat.le_refl _, fun k hk => by omega, fun k h1 h2 => by omega, Below.refl _ _⟩
  case round =>
    obtain ⟨i, j, rfl, rfl, hij, hjn, hlo, hhi, hb⟩ := hrel
    have HLO := hid hlo
    have HHI := hid hhi
    have HB := hid hb
    clear hlo hhi hb
    by_cases hlt : i < j
    · have q1 : (i : Int) < (j : Int) := by omega
      obtain ⟨m, HM⟩ : ∃ m : Nat, Hid (m = (i + j) / 2) := ⟨_, rfl⟩
      have hm1 : i ≤ m := by rw [HM.out]; omega
      have hm2 : m < j := by rw [HM.out]; omega
      have hm3 : m < t.length := by omega
      obtain ⟨g, o, rfl, hgl, hx⟩ := (H.out.below HB.out).at m hm3
      obtain ⟨x, HX⟩ : ∃ x, Hid (t.getD m zE = x) := ⟨_, rfl⟩
      rw [HX.out] at hx
      have hmem : x ∈ t := by rw [← HX.out]; exact getD_mem hm3
      have HCX := hid (fun W : World => HC.out x hmem W)
      have HCO := hid (cmP_ok (HOK.out x hmem) HP.out)
      have hw1 : IntKind.i64.wrap ((i : Int) + (j : Int)) = ((i + j : Nat) : Int) := by rw [IntKind.wrap_i64]; omega
      have hq : ((i : Int) + (j : Int)) / 2 = (m : Int) := by rw [HM.out]; omega
      have hw2 : IntKind.i64.wrap ((m : Int) + 1) = ((m + 1 : Nat) : Int) := by rw [IntKind.wrap_i64]; omega
      have q2 : (m : Int) < (t.length : Int) := by omega
      have HLO2 := hid (fun (h : cmpL (nms x.1) (nms p) < 0) k (hk : k < m + 1) => show cmpL (nms (t.getD k zE).1) (nms p) < 0 from by
        rcases Nat.lt_or_ge k m with h1 | h1
        · have h2 := pair_at HUP.out h1 hm3
          unfold ltE at h2
          rw [HX.out] at h2
          exact cmpL_lt_trans h2 h
        · obtain rfl : k = m := by omega
          rw [HX.out]
          exact h)
      have HHI2 := hid (fun (h : ¬ cmpL (nms x.1) (nms p) < 0) k (h1 : m ≤ k) (h2 : k < t.length) => show ¬ cmpL (nms (t.getD k zE).1) (nms p) < 0 from by
        intro h3
        rcases Nat.lt_or_ge m k with h4 | h4
        · have h5 := pair_at HUP.out h4 h2
          unfold ltE at h5
          rw [HX.out] at h5
          exact h (cmpL_lt_trans h5 h3)
        · obtain rfl : k = m := by omega
          rw [HX.out] at h3
          exact h h3)
      obtain ⟨x0, x1, x2⟩ := hx
      clear HC hmem
      unfold entA at HCX
      rw [← HCO.out] at HLO2 HHI2
      generalize cmP x.1 p = K at *
      by_cases hK : K < 0
      · have HLO3 := hid (HLO2.out hK)
        clear HLO2 HHI2
        go_wp2_with (go_at_call 56; refine (HCX.out _).mono ?_; rintro r w1 ⟨rfl, hb1⟩; have HB1 := hid (HB.out.trans (hb1.mono HB.out.size)); clear hb1)
        exact ⟨⟨m + 1, j, by simp, rfl, by omega, hjn, HLO3.out, (fun k a b => Int.not_lt.2 (by simpa using HHI.out k a b)), HB1.out⟩, by simp [intOf]; omega⟩
      · have HHI3 := hid (HHI2.out hK)
        clear HLO2 HHI2
        go_wp2_with (go_at_call 56; refine (HCX.out _).mono ?_; rintro r w1 ⟨rfl, hb1⟩; have HB1 := hid (HB.out.trans (hb1.mono HB.out.size)); clear hb1)
        exact ⟨⟨i, m, rfl, rfl, hm1, by omega, HLO.out, (fun k a b => Int.not_lt.2 (by simpa using HHI3.out k a b)), HB1.out⟩, by simp [intOf]; omega⟩
    · have q1 : ¬ (i : Int) < (j : Int) := by omega
      obtain rfl : i = j := by omega
      have HPL : Hid (Plc t p i) := ⟨hjn, HLO.out, HHI.out⟩
      have HPE := hid HPL.out.eq
      by_cases hin : i < t.length
      · have q3 : (i : Int) < (t.length : Int) := by omega
        obtain ⟨g, o, rfl, hgl, hx⟩ := (H.out.below HB.out).at i hin
        obtain ⟨x, HX⟩ : ∃ x, Hid (t.getD i zE = x) := ⟨_, rfl⟩
        rw [HX.out] at hx
        have hmem : x ∈ t := by rw [← HX.out]; exact getD_mem hin
        have HCX := hid (fun W : World => HC.out x hmem W)
        have HTH := hid (show decide (cmP x.1 p = 0) = thP t p from by
          rw [cmP_ok (HOK.out x hmem) HP.out]
          unfold thP
          by_cases h0 : cmpL (nms x.1) (nms p) = 0
          · rw [decide_eq_true h0, HPL.out.there HUP.out hin (by rw [HX.out]; exact h0)]; rfl
          · rw [decide_eq_false h0, HPL.out.lacks HUP.out (fun _ => by rw [HX.out]; exact h0)]; rfl)
        obtain ⟨x0, x1, x2⟩ := hx
        clear HC hmem
        unfold entA at HCX
        generalize cmP x.1 p = K at *
        go_wp2_with (go_at_call 56; refine (HCX.out _).mono ?_; rintro r w1 ⟨rfl, hb1⟩; have HB1 := hid (HB.out.trans (hb1.mono HB.out.size)); clear hb1)
        go_ret2
        refine ⟨?_, HB1.out⟩
        rw [← HPE.out, ← HTH.out]
        first | rfl | simp
      · have q3 : ¬ (i : Int) < (t.length : Int) := by omega
        have HTH := hid (show thP t p = false from by unfold thP; rw [HPL.out.lacks HUP.out (fun h => absurd h hin)]; rfl)
        go_wp2
        go_ret2
        refine ⟨?_, HB.out⟩
        rw [← HPE.out, HTH.out]
        rfl

set_option maxRecDepth 100000 in
set_option maxHeartbeats 1000000 in
theorem place_any (v : Value) (t : List Ent) (p : List UInt8) (w : World) (h : Ents w v t) (hup : t.Pairwise ltE) (hok : ∀ e ∈ t, okP e.1 = true) (hp : okP p = true) (hn : t.length ≤ 1024) :
    Calls Try.prog 37 #[v, .string (mk p)] w fun r w' => r = .returned (.tuple #[.int .i64 (plP t p), .bool (thP t p)]) ∧ Below w.heap.size w w' := by
  have HS := hid (search_any v t p w h hup hok hp hn)
  obtain ⟨ao, c, rfl⟩ := h.shape
  generalize plP t p = I at *
  generalize thP t p = B at *
  clear h hup hok hp
  go_enter Try.func37, Try.ntmps37
  go_wp2_with (go_at_call 55; refine HS.out.mono ?_; rintro r w1 ⟨rfl, hb1⟩)
  go_ret2
  exact ⟨rfl, hb1⟩

theorem plP_th {t : List Ent} {p : List UInt8} (hup : t.Pairwise ltE) (h : thP t p = true) : plP t p < t.length ∧ t.getD (plP t p) zE = stP t p := by
  unfold thP at h
  obtain ⟨e, he⟩ := Option.isSome_iff_exists.1 h
  obtain ⟨h1, h2⟩ := fdP_some he
  obtain ⟨k, hk, rfl⟩ := List.getElem_of_mem h1
  have hg : t.getD k zE = t[k] := by simp [List.getD_eq_getElem?_getD, hk]
  have : Plc t p k := ⟨Nat.le_of_lt hk, fun j hj => by
      have := pair_at hup hj hk
      unfold ltE at this
      rw [hg, h2] at this
      exact this, fun j h3 h4 h5 => by
      rcases Nat.lt_or_ge k j with h6 | h6
      · have := pair_at hup h6 h4
        unfold ltE at this
        rw [hg, h2] at this
        have := cmpL_lt_trans this h5
        rw [cmpL_self] at this
        omega
      · obtain rfl : j = k := by omega
        rw [hg, h2, cmpL_self] at h5
        omega⟩
  rw [← this.eq]
  refine ⟨hk, ?_⟩
  unfold stP
  rw [he, hg]
  rfl

set_option maxRecDepth 100000 in
set_option maxHeartbeats 1000000 in
theorem standing_any (v : Value) (t : List Ent) (p : List UInt8) (w : World) (h : Ents w v t) (hup : t.Pairwise ltE) (hok : ∀ e ∈ t, okP e.1 = true) (hp : okP p = true) (hn : t.length ≤ 1024) :
    Calls Try.prog 25 #[v, .string (mk p)] w fun r w' => r = .returned (entA (stP t p)) ∧ Below w.heap.size w w' := by
  have HB0 := hid (below_walk w (.cells #[.string ⟨#[]⟩, .int .i64 0, .string ⟨#[]⟩] 35))
  have HN0 := hid (hp_new w (.cells #[.string ⟨#[]⟩, .int .i64 0, .string ⟨#[]⟩] 35))
  have HS := hid (place_any v t p (w.alloc (.cells #[.string ⟨#[]⟩, .int .i64 0, .string ⟨#[]⟩] 35)) (h.below HB0.out) hup hok hp hn)
  have HT := hid (fun h => plP_th (t := t) (p := p) hup h)
  have HF := hid (show thP t p = false → stP t p = zE from fun h => by
    unfold thP at h
    unfold stP
    rw [Option.isSome_eq_false_iff, Option.isNone_iff_eq_none] at h
    rw [h]; rfl)
  have H := hid h
  obtain ⟨ao, c, rfl⟩ := h.shape
  generalize plP t p = I at *
  generalize thP t p = B at *
  clear h hup hok hp
  have HU := hid Try.underlying35
  cases B with
  | true =>
    obtain ⟨hI, hst⟩ := HT.out rfl
    obtain ⟨g, o, rfl, hgl, hx⟩ := H.out.at I hI
    rw [hst] at hx
    obtain ⟨e, HE⟩ : ∃ e, Hid (stP t p = e) := ⟨_, rfl⟩
    rw [HE.out] at hx ⊢
    have HX := hid hx
    have HG := hid hgl
    have q1 : (I : Int) < (t.length : Int) := by omega
    unfold entA
    clear HT HF hst hx hgl
    go_enter Try.func25, Try.ntmps25
    go_wp2_with fail
    refine HS.out.mono ?_
    rintro r w1 ⟨rfl, hb1⟩
    have HB1 := hid (below_then HB0.out hb1)
    have HN1 := hid ((hb1.block w.heap.size (by simp)).trans HN0.out)
    obtain ⟨x0, x1, x2⟩ := HX.out.below HG.out HB1.out
    clear hb1 HS HB0 HN0
    have g0 := row_cell HN1.out 0
    have g1 := row_cell HN1.out 1
    have g2 := row_cell HN1.out 2
    have f0 := row_fz HN1.out 0
    have f1 := row_fz HN1.out 1
    have f2 := row_fz HN1.out 2
    simp at g0 g1 g2
    go_wp2
    refine ret_row 4 35 rfl w.heap.size rfl [.string (mk e.1), .int .i64 e.2.1, .string (mk e.2.2)] 35 (by rw [blk_set (blk_set (blk_set HN1.out _) _) _]; rfl) _ Try.underlying35 rfl (by kernel_rfl) rfl ⟨rfl, ?_⟩
    exact ((HB1.out.setCell (by simp) _).setCell (by simp) _).setCell (by simp) _
  | false =>
    rw [HF.out rfl]
    unfold entA
    clear HT HF
    go_enter Try.func25, Try.ntmps25
    go_wp2_with fail
    refine HS.out.mono ?_
    rintro r w1 ⟨rfl, hb1⟩
    have HB1 := hid (below_then HB0.out hb1)
    have HN1 := hid ((hb1.block w.heap.size (by simp)).trans HN0.out)
    clear hb1 HS HB0 HN0
    have g0 := row_cell HN1.out 0
    have g1 := row_cell HN1.out 1
    have g2 := row_cell HN1.out 2
    have f0 := row_fz HN1.out 0
    have f1 := row_fz HN1.out 1
    have f2 := row_fz HN1.out 2
    simp at g0 g1 g2
    go_wp2
    refine ret_row 4 35 rfl w.heap.size rfl [.string ⟨#[]⟩, .int .i64 0, .string ⟨#[]⟩] 35 (by rw [blk_set (blk_set (blk_set HN1.out _) _) _]; rfl) _ Try.underlying35 rfl (by kernel_rfl) rfl ⟨rfl, ?_⟩
    exact ((HB1.out.setCell (by simp) _).setCell (by simp) _).setCell (by simp) _

end Go.Proofs.Ytgldmepmeampeab

/- The program's Apply: may changes be? -/
namespace Go.Proofs.Ytgldmepmeampeab
open Go.RowKit Go.BigFrame

theorem eql_zero (e : Ent) (W : World) : (binOp .eql 35 (.agg #[.string (mk e.1), .int .i64 e.2.1, .string (mk e.2.2)]) (.agg #[.string ⟨#[]⟩, .int .i64 0, .string ⟨#[]⟩])).run Try.prog W = .ok (.bool (decide (e = zE))) W := eql_ent e zE W

set_option maxRecDepth 100000 in
set_option maxHeartbeats 2000000 in
theorem sideMay_any (e : Ent) (p : List UInt8) (w : World) (he : e.1.length ≤ 9223372036854775807) :
    Calls Try.prog 48 #[entA e, .string (mk p)] w fun r w' => r = .returned (.bool (sidP e p)) ∧ Below w.heap.size w w' := by
  have HM := hid (fun W : World => may_any e W he)
  have HB := hid (below_walk w (.cells #[.string (mk e.1), .int .i64 e.2.1, .string (mk e.2.2)] 35))
  have hg := entG
  have hz := fun W => eql_zero e W
  unfold entA at HM ⊢
  by_cases h0 : e = zE
  · have HP := hid (show sidP e p = true from by unfold sidP; rw [decide_eq_true h0]; rfl)
    rw [decide_eq_true h0] at hz
    clear h0 he HM
    generalize mk e.1 = s1 at *
    generalize mk e.2.2 = s2 at *
    go_enter Try.func48, Try.ntmps48
    go_wp2
    go_ret
    exact ⟨ret_bb HP.out.symm, HB.out⟩
  · rw [decide_eq_false h0] at hz
    by_cases hx : e.1 = p
    · have HP := hid (show sidP e p = mayP e from by unfold sidP; rw [decide_eq_false h0, decide_eq_true hx]; rfl)
      have e1 : (mk e.1).toList = (mk p).toList := by rw [hx]
      clear h0 he hx
      generalize mayP e = X at *
      generalize mk e.1 = s1 at *
      generalize mk e.2.2 = s2 at *
      generalize mk p = s3 at *
      go_enter Try.func48, Try.ntmps48
      go_wp2_with (go_at_call 28; refine (HM.out _).mono ?_; rintro r w1 ⟨rfl, hb1⟩; have HB1 := hid (below_then HB.out hb1); clear hb1)
      go_ret
      exact ⟨ret_bb HP.out.symm, HB1.out⟩
    · have HP := hid (show sidP e p = false from by unfold sidP; rw [decide_eq_false h0, decide_eq_false hx]; rfl)
      have e1 : ¬ (mk e.1).toList = (mk p).toList := fun h => hx ((bl_mk e.1).symm.trans (h.trans (bl_mk p)))
      have e2 : ((mk e.1).toList == (mk p).toList) = false := by simpa using e1
      clear h0 he hx HM
      generalize mk e.1 = s1 at *
      generalize mk e.2.2 = s2 at *
      generalize mk p = s3 at *
      go_enter Try.func48, Try.ntmps48
      go_wp2
      go_ret
      exact ⟨ret_bb HP.out.symm, HB.out⟩

theorem okC_val (c : Chg) : okC c = (!(decide (c.2.1 = c.2.2) && decide (c.2.1 = zE)) && sidP c.2.1 c.1 && sidP c.2.2 c.1) := by
  unfold okC
  congr 2
  by_cases h1 : c.2.1 = zE
  · by_cases h2 : c.2.2 = zE
    · simp [h1, h2]
    · simp [h1, h2]
      exact fun h => h2 h.symm
  · simp [h1]
theorem okC_path {c : Chg} (h : okC c = true) : okP c.1 = true ∧ c.1 ≠ [] := by
  unfold okC sidP at h
  simp only [Bool.and_eq_true, Bool.or_eq_true, Bool.not_eq_true', Bool.and_eq_false_iff, decide_eq_true_eq, decide_eq_false_iff_not] at h
  obtain ⟨⟨h1, h2⟩, h3⟩ := h
  rcases h1 with h1 | h1
  · rcases h2 with h2 | ⟨h2, h4⟩
    · exact absurd h2 h1
    · rw [← h2]; exact ⟨mayP_ok h4, mayP_ne h4⟩
  · rcases h3 with h3 | ⟨h3, h4⟩
    · exact absurd h3 h1
    · rw [← h3]; exact ⟨mayP_ok h4, mayP_ne h4⟩
def ShortC (cs : List Chg) : Prop := ∀ c ∈ cs, c.1.length ≤ 4611686018427387904 ∧ c.2.1.1.length ≤ 4611686018427387904 ∧ c.2.2.1.length ≤ 4611686018427387904
theorem getC_mem {cs : List Chg} {k : Nat} (hk : k < cs.length) : cs.getD k zC ∈ cs := by
  rw [List.getD_eq_getElem?_getD, List.getElem?_eq_getElem hk]
  exact List.getElem_mem hk
theorem dropC {cs : List Chg} {k : Nat} (hk : k < cs.length) : cs.drop k = cs.getD k zC :: cs.drop (k + 1) := by
  rw [List.drop_eq_getElem_cons hk, List.getD_eq_getElem?_getD, List.getElem?_eq_getElem hk]
  rfl
theorem Chgs.range {w : World} {ao : Option Addr} {n c : Nat} {cs : List Chg} (h : Chgs w (.slice ao n c) cs) (k : Nat) (hk : k < cs.length) (x : Chg) (hx : cs.getD k zC = x) :
    ∃ g o, ao = some ⟨g, o, none⟩ ∧ g < w.heap.size ∧ w.rangeAt g (o + k * 7) (chgV x) := by
  obtain ⟨g, o, h1, h2, h3⟩ := h.at k hk
  rw [hx] at h3
  exact ⟨g, o, h1, h2, fun i u hu => h3 i u hu⟩
theorem mayC_no {L : List UInt8} {c : Chg} {r : List Chg} (h : okC c = false) : mayC L (c :: r) = false := by rw [mayC, h]; rfl
theorem mayC_ord {L : List UInt8} {c : Chg} {r : List Chg} (h : ¬ cmpL (nms L) (nms c.1) < 0) : mayC L (c :: r) = false := by rw [mayC, decide_eq_false h]; simp
theorem mayC_yes {L : List UInt8} {c : Chg} {r : List Chg} (h : okC c = true) (h1 : cmpL (nms L) (nms c.1) < 0) : mayC L (c :: r) = mayC c.1 r := by rw [mayC, h, decide_eq_true h1]; simp

set_option maxRecDepth 100000 in
set_option maxHeartbeats 4000000 in
theorem changesMay_any (v : Value) (cs : List Chg) (w : World) (h : Chgs w v cs) (hs : ShortC cs) (hn : cs.length ≤ 4611686018427387904) :
    Calls Try.prog 24 #[v] w fun r w' => r = .returned (.bool (mayC [] cs)) ∧ Below w.heap.size w w' := by
  obtain ⟨ao, cc, rfl⟩ := h.shape
  have HL := hid h
  have HSH := hid hs
  have HU := hid Try.underlying58
  clear h hs
  go_enter Try.func24, Try.ntmps24
  go_wp2
  go_loopw [3, 10] (fun x i wr => ∃ (k : Nat) (L : List UInt8), i = .int .i64 k ∧ x = .string (mk L) ∧ k ≤ cs.length ∧ okP L = true ∧ mayC [] cs = mayC L (cs.drop k) ∧ Below w.heap.size w wr) (fun _ i _ => cs.length - (intOf i).toNat)
  case atStart => exact ⟨0, [], rfl, rfl, Nat.zero_le _, by decide, rfl, Below.refl _ _⟩
  case round =>
    obtain ⟨k, L, rfl, rfl, hk, hoL, hmay, hb⟩ := hrel
    have HB := hid hb
    have HMY := hid hmay
    have HOL := hid hoL
    clear hb hmay hoL
    by_cases hlt : k < cs.length
    · have q1 : (k : Int) < (cs.length : Int) := by omega
      have hw1 : IntKind.i64.wrap ((k : Int) + 1) = ((k + 1 : Nat) : Int) := by rw [IntKind.wrap_i64]; omega
      obtain ⟨c, HCD⟩ : ∃ c, Hid (cs.getD k zC = c) := ⟨_, rfl⟩
      obtain ⟨g, o, rfl, hgl, hrl⟩ := (HL.out.below HB.out).range k hlt c HCD.out
      have HRL := hid hrl
      have hcm : c ∈ cs := by rw [← HCD.out]; exact getC_mem hlt
      rw [dropC hlt, HCD.out] at HMY
      have HI := hid (info_chg7 c)
      have HO := hid (one_chg7 c)
      have HT := hid (Cb.new wr zC).there
      have HC4 := hid ((Cb.new wr zC).all c)
      have HB4 := hid (belowCs HB.out.size (chgV c) 0 _ (HB.out.alloc HB.out.size (.cells #[.string ⟨#[]⟩, .string ⟨#[]⟩, .int .i64 0, .string ⟨#[]⟩, .string ⟨#[]⟩, .int .i64 0, .string ⟨#[]⟩] 58)))
      change Hid (Cb ((wr.alloc (.cells #[.string ⟨#[]⟩, .string ⟨#[]⟩, .int .i64 0, .string ⟨#[]⟩, .string ⟨#[]⟩, .int .i64 0, .string ⟨#[]⟩] 58)).setCells wr.heap.size 0 (chgV c).toArray.toList) wr.heap.size c) at HC4
      change Hid (Below w.heap.size w ((wr.alloc (.cells #[.string ⟨#[]⟩, .string ⟨#[]⟩, .int .i64 0, .string ⟨#[]⟩, .string ⟨#[]⟩, .int .i64 0, .string ⟨#[]⟩] 58)).setCells wr.heap.size 0 (chgV c).toArray.toList)) at HB4
      have hshc := HSH.out c hcm
      have HS1 := hid (fun W : World => sideMay_any c.2.1 c.1 W (by have := hshc.2.1; omega))
      have HS2 := hid (fun W : World => sideMay_any c.2.2 c.1 W (by have := hshc.2.2; omega))
      have HCM := hid (compare_any (mk L) (mk c.1) · (by rw [bl_mk]; have := okP_short HOL.out; omega) (by rw [bl_mk]; have := hshc.1; omega))
      simp only [bl_mk] at HCM
      unfold entA at HS1 HS2
      have hg := entG
      have hE1 := fun W => eql_ent c.2.1 c.2.2 W
      have hE2 := fun W => eql_zero c.2.1 W
      have HOV := hid (okC_val c)
      have HOP := hid (okC_path (c := c))
      have HCO := hid (fun (h : okC c = true) => cmP_ok HOL.out (okC_path h).1)
      have HRG := hid (cmpL_range (nms L) (nms c.1))
      have HNO := hid (mayC_no (L := L) (c := c) (r := cs.drop (k + 1)))
      have HOR := hid (mayC_ord (L := L) (c := c) (r := cs.drop (k + 1)))
      have HYS := hid (mayC_yes (L := L) (c := c) (r := cs.drop (k + 1)))
      clear hrl hcm hshc hgl
      generalize cmpL (nms L) (nms c.1) = K at *
      generalize okC c = OK at *
      generalize cmP L c.1 = K' at *
      generalize pN L c.1 = E at *
      generalize sidP c.2.1 c.1 = S1 at *
      generalize sidP c.2.2 c.1 = S2 at *
      generalize decide (c.2.1 = c.2.2) = E1 at *
      generalize decide (c.2.1 = zE) = E2 at *
      cases E1 with
      | false =>
        cases S1 with
        | false =>
          have HOF := hid HOV.out
          have hok : OK = false := by rw [HOV.out]; simp
          have HF := hid (HMY.out.trans (HNO.out hok))
          clear hok
          clear HMY HOV HOP HCO HNO HOR HYS HOF
          go_wp2_with (first | (refine wpList_load_mid (by rfl) 58 (.tmp 12) (by rfl) g (o + k * 7) (by rfl) (chgV c) _ HRL.out HU.out rfl HI.out ?_; clear HRL) | (refine wpList_store_mid (by rfl) 58 (.tmp 5) (.tmp 13) (by rfl) wr.heap.size 0 (chgV c).toArray (by rfl) (by rfl) HT.out HI.out HO.out ?_; clear HT; obtain ⟨w4, hw4⟩ : ∃ w4, w4 = (wr.alloc (.cells #[.string ⟨#[]⟩, .string ⟨#[]⟩, .int .i64 0, .string ⟨#[]⟩, .string ⟨#[]⟩, .int .i64 0, .string ⟨#[]⟩] 58)).setCells wr.heap.size 0 (chgV c).toArray.toList := ⟨_, rfl⟩; rw [← hw4] at HC4 HB4 ⊢; clear hw4; obtain ⟨C, HC⟩ : ∃ C : Nat, Hid (wr.heap.size = C) := ⟨_, rfl⟩; rw [HC.out] at HC4 ⊢; obtain ⟨z0, z1, z2, z3, z4, z5, z6⟩ := HC4.out.at) | (go_at_call 48; refine (HS1.out _).mono ?_; clear HS1; rintro r w5 ⟨rfl, hb5⟩; have HC5 := hid (HC4.out.below hb5); have HB5 := hid (HB4.out.trans (hb5.mono HB4.out.size)); clear hb5 z0 z1 z2 z3 z4 z5 z6; obtain ⟨z0, z1, z2, z3, z4, z5, z6⟩ := HC5.out.at))
          go_ret
          exact ⟨ret_bb HF.out.symm, HB5.out⟩
        | true =>
          cases S2 with
          | false =>
            have HOF := hid HOV.out
            have hok : OK = false := by rw [HOV.out]; rfl
            have HF := hid (HMY.out.trans (HNO.out hok))
            clear hok
            clear HMY HOV HOP HCO HNO HOR HYS HOF
            go_wp2_with (first | (refine wpList_load_mid (by rfl) 58 (.tmp 12) (by rfl) g (o + k * 7) (by rfl) (chgV c) _ HRL.out HU.out rfl HI.out ?_; clear HRL) | (refine wpList_store_mid (by rfl) 58 (.tmp 5) (.tmp 13) (by rfl) wr.heap.size 0 (chgV c).toArray (by rfl) (by rfl) HT.out HI.out HO.out ?_; clear HT; obtain ⟨w4, hw4⟩ : ∃ w4, w4 = (wr.alloc (.cells #[.string ⟨#[]⟩, .string ⟨#[]⟩, .int .i64 0, .string ⟨#[]⟩, .string ⟨#[]⟩, .int .i64 0, .string ⟨#[]⟩] 58)).setCells wr.heap.size 0 (chgV c).toArray.toList := ⟨_, rfl⟩; rw [← hw4] at HC4 HB4 ⊢; clear hw4; obtain ⟨C, HC⟩ : ∃ C : Nat, Hid (wr.heap.size = C) := ⟨_, rfl⟩; rw [HC.out] at HC4 ⊢; obtain ⟨z0, z1, z2, z3, z4, z5, z6⟩ := HC4.out.at) | (go_at_call 48; refine (HS1.out _).mono ?_; clear HS1; rintro r w5 ⟨rfl, hb5⟩; have HC5 := hid (HC4.out.below hb5); have HB5 := hid (HB4.out.trans (hb5.mono HB4.out.size)); clear hb5 z0 z1 z2 z3 z4 z5 z6; obtain ⟨z0, z1, z2, z3, z4, z5, z6⟩ := HC5.out.at) | (go_at_call 48; refine (HS2.out _).mono ?_; clear HS2; rintro r w6 ⟨rfl, hb6⟩; have HC6 := hid (HC5.out.below hb6); have HB6 := hid (HB5.out.trans (hb6.mono HB5.out.size)); clear hb6 z0 z1 z2 z3 z4 z5 z6; obtain ⟨z0, z1, z2, z3, z4, z5, z6⟩ := HC6.out.at))
            go_ret
            exact ⟨ret_bb HF.out.symm, HB6.out⟩
          | true =>
            rcases HRG.out with hK | hK | hK
            ·
              subst hK
              clear HRG
              have HOF := hid HOV.out
              have hok : OK = true := by rw [HOV.out]; rfl
              subst hok
              have hk2 := HCO.out rfl
              subst hk2
              have HF := hid (HMY.out.trans (HYS.out rfl (by decide)))
              have HPP := hid (HOP.out rfl)
              clear HMY HOV HOP HCO HNO HOR HYS HOF
              go_wp2_with (first | (refine wpList_load_mid (by rfl) 58 (.tmp 12) (by rfl) g (o + k * 7) (by rfl) (chgV c) _ HRL.out HU.out rfl HI.out ?_; clear HRL) | (refine wpList_store_mid (by rfl) 58 (.tmp 5) (.tmp 13) (by rfl) wr.heap.size 0 (chgV c).toArray (by rfl) (by rfl) HT.out HI.out HO.out ?_; clear HT; obtain ⟨w4, hw4⟩ : ∃ w4, w4 = (wr.alloc (.cells #[.string ⟨#[]⟩, .string ⟨#[]⟩, .int .i64 0, .string ⟨#[]⟩, .string ⟨#[]⟩, .int .i64 0, .string ⟨#[]⟩] 58)).setCells wr.heap.size 0 (chgV c).toArray.toList := ⟨_, rfl⟩; rw [← hw4] at HC4 HB4 ⊢; clear hw4; obtain ⟨C, HC⟩ : ∃ C : Nat, Hid (wr.heap.size = C) := ⟨_, rfl⟩; rw [HC.out] at HC4 ⊢; obtain ⟨z0, z1, z2, z3, z4, z5, z6⟩ := HC4.out.at) | (go_at_call 48; refine (HS1.out _).mono ?_; clear HS1; rintro r w5 ⟨rfl, hb5⟩; have HC5 := hid (HC4.out.below hb5); have HB5 := hid (HB4.out.trans (hb5.mono HB4.out.size)); clear hb5 z0 z1 z2 z3 z4 z5 z6; obtain ⟨z0, z1, z2, z3, z4, z5, z6⟩ := HC5.out.at) | (go_at_call 48; refine (HS2.out _).mono ?_; clear HS2; rintro r w6 ⟨rfl, hb6⟩; have HC6 := hid (HC5.out.below hb6); have HB6 := hid (HB5.out.trans (hb6.mono HB5.out.size)); clear hb6 z0 z1 z2 z3 z4 z5 z6; obtain ⟨z0, z1, z2, z3, z4, z5, z6⟩ := HC6.out.at) | (go_at_call 33; refine (HCM.out _).mono ?_; clear HCM; rintro r w7 ⟨rfl, hb7⟩; have HC7 := hid (HC6.out.below hb7); have HB7 := hid (HB6.out.trans (hb7.mono HB6.out.size)); clear hb7 z0 z1 z2 z3 z4 z5 z6; obtain ⟨z0, z1, z2, z3, z4, z5, z6⟩ := HC7.out.at))
              exact ⟨⟨k + 1, c.1, by simp, rfl, by omega, HPP.out.1, HF.out, HB7.out⟩, by simp [intOf]; omega⟩
            ·
              subst hK
              clear HRG
              have HOF := hid HOV.out
              have hok : OK = true := by rw [HOV.out]; rfl
              subst hok
              have hk2 := HCO.out rfl
              subst hk2
              have HF := hid (HMY.out.trans (HOR.out (by decide)))
              have HPP := hid (HOP.out rfl)
              clear HMY HOV HOP HCO HNO HOR HYS HOF
              go_wp2_with (first | (refine wpList_load_mid (by rfl) 58 (.tmp 12) (by rfl) g (o + k * 7) (by rfl) (chgV c) _ HRL.out HU.out rfl HI.out ?_; clear HRL) | (refine wpList_store_mid (by rfl) 58 (.tmp 5) (.tmp 13) (by rfl) wr.heap.size 0 (chgV c).toArray (by rfl) (by rfl) HT.out HI.out HO.out ?_; clear HT; obtain ⟨w4, hw4⟩ : ∃ w4, w4 = (wr.alloc (.cells #[.string ⟨#[]⟩, .string ⟨#[]⟩, .int .i64 0, .string ⟨#[]⟩, .string ⟨#[]⟩, .int .i64 0, .string ⟨#[]⟩] 58)).setCells wr.heap.size 0 (chgV c).toArray.toList := ⟨_, rfl⟩; rw [← hw4] at HC4 HB4 ⊢; clear hw4; obtain ⟨C, HC⟩ : ∃ C : Nat, Hid (wr.heap.size = C) := ⟨_, rfl⟩; rw [HC.out] at HC4 ⊢; obtain ⟨z0, z1, z2, z3, z4, z5, z6⟩ := HC4.out.at) | (go_at_call 48; refine (HS1.out _).mono ?_; clear HS1; rintro r w5 ⟨rfl, hb5⟩; have HC5 := hid (HC4.out.below hb5); have HB5 := hid (HB4.out.trans (hb5.mono HB4.out.size)); clear hb5 z0 z1 z2 z3 z4 z5 z6; obtain ⟨z0, z1, z2, z3, z4, z5, z6⟩ := HC5.out.at) | (go_at_call 48; refine (HS2.out _).mono ?_; clear HS2; rintro r w6 ⟨rfl, hb6⟩; have HC6 := hid (HC5.out.below hb6); have HB6 := hid (HB5.out.trans (hb6.mono HB5.out.size)); clear hb6 z0 z1 z2 z3 z4 z5 z6; obtain ⟨z0, z1, z2, z3, z4, z5, z6⟩ := HC6.out.at) | (go_at_call 33; refine (HCM.out _).mono ?_; clear HCM; rintro r w7 ⟨rfl, hb7⟩; have HC7 := hid (HC6.out.below hb7); have HB7 := hid (HB6.out.trans (hb7.mono HB6.out.size)); clear hb7 z0 z1 z2 z3 z4 z5 z6; obtain ⟨z0, z1, z2, z3, z4, z5, z6⟩ := HC7.out.at))
              go_ret
              exact ⟨ret_bb HF.out.symm, HB7.out⟩
            ·
              subst hK
              clear HRG
              have HOF := hid HOV.out
              have hok : OK = true := by rw [HOV.out]; rfl
              subst hok
              have hk2 := HCO.out rfl
              subst hk2
              have HF := hid (HMY.out.trans (HOR.out (by decide)))
              have HPP := hid (HOP.out rfl)
              clear HMY HOV HOP HCO HNO HOR HYS HOF
              go_wp2_with (first | (refine wpList_load_mid (by rfl) 58 (.tmp 12) (by rfl) g (o + k * 7) (by rfl) (chgV c) _ HRL.out HU.out rfl HI.out ?_; clear HRL) | (refine wpList_store_mid (by rfl) 58 (.tmp 5) (.tmp 13) (by rfl) wr.heap.size 0 (chgV c).toArray (by rfl) (by rfl) HT.out HI.out HO.out ?_; clear HT; obtain ⟨w4, hw4⟩ : ∃ w4, w4 = (wr.alloc (.cells #[.string ⟨#[]⟩, .string ⟨#[]⟩, .int .i64 0, .string ⟨#[]⟩, .string ⟨#[]⟩, .int .i64 0, .string ⟨#[]⟩] 58)).setCells wr.heap.size 0 (chgV c).toArray.toList := ⟨_, rfl⟩; rw [← hw4] at HC4 HB4 ⊢; clear hw4; obtain ⟨C, HC⟩ : ∃ C : Nat, Hid (wr.heap.size = C) := ⟨_, rfl⟩; rw [HC.out] at HC4 ⊢; obtain ⟨z0, z1, z2, z3, z4, z5, z6⟩ := HC4.out.at) | (go_at_call 48; refine (HS1.out _).mono ?_; clear HS1; rintro r w5 ⟨rfl, hb5⟩; have HC5 := hid (HC4.out.below hb5); have HB5 := hid (HB4.out.trans (hb5.mono HB4.out.size)); clear hb5 z0 z1 z2 z3 z4 z5 z6; obtain ⟨z0, z1, z2, z3, z4, z5, z6⟩ := HC5.out.at) | (go_at_call 48; refine (HS2.out _).mono ?_; clear HS2; rintro r w6 ⟨rfl, hb6⟩; have HC6 := hid (HC5.out.below hb6); have HB6 := hid (HB5.out.trans (hb6.mono HB5.out.size)); clear hb6 z0 z1 z2 z3 z4 z5 z6; obtain ⟨z0, z1, z2, z3, z4, z5, z6⟩ := HC6.out.at) | (go_at_call 33; refine (HCM.out _).mono ?_; clear HCM; rintro r w7 ⟨rfl, hb7⟩; have HC7 := hid (HC6.out.below hb7); have HB7 := hid (HB6.out.trans (hb7.mono HB6.out.size)); clear hb7 z0 z1 z2 z3 z4 z5 z6; obtain ⟨z0, z1, z2, z3, z4, z5, z6⟩ := HC7.out.at))
              go_ret
              exact ⟨ret_bb HF.out.symm, HB7.out⟩
      | true =>
        cases E2 with
        | false =>
          cases S1 with
          | false =>
            have HOF := hid HOV.out
            have hok : OK = false := by rw [HOV.out]; simp
            have HF := hid (HMY.out.trans (HNO.out hok))
            clear hok
            clear HMY HOV HOP HCO HNO HOR HYS HOF
            go_wp2_with (first | (refine wpList_load_mid (by rfl) 58 (.tmp 12) (by rfl) g (o + k * 7) (by rfl) (chgV c) _ HRL.out HU.out rfl HI.out ?_; clear HRL) | (refine wpList_store_mid (by rfl) 58 (.tmp 5) (.tmp 13) (by rfl) wr.heap.size 0 (chgV c).toArray (by rfl) (by rfl) HT.out HI.out HO.out ?_; clear HT; obtain ⟨w4, hw4⟩ : ∃ w4, w4 = (wr.alloc (.cells #[.string ⟨#[]⟩, .string ⟨#[]⟩, .int .i64 0, .string ⟨#[]⟩, .string ⟨#[]⟩, .int .i64 0, .string ⟨#[]⟩] 58)).setCells wr.heap.size 0 (chgV c).toArray.toList := ⟨_, rfl⟩; rw [← hw4] at HC4 HB4 ⊢; clear hw4; obtain ⟨C, HC⟩ : ∃ C : Nat, Hid (wr.heap.size = C) := ⟨_, rfl⟩; rw [HC.out] at HC4 ⊢; obtain ⟨z0, z1, z2, z3, z4, z5, z6⟩ := HC4.out.at) | (go_at_call 48; refine (HS1.out _).mono ?_; clear HS1; rintro r w5 ⟨rfl, hb5⟩; have HC5 := hid (HC4.out.below hb5); have HB5 := hid (HB4.out.trans (hb5.mono HB4.out.size)); clear hb5 z0 z1 z2 z3 z4 z5 z6; obtain ⟨z0, z1, z2, z3, z4, z5, z6⟩ := HC5.out.at))
            go_ret
            exact ⟨ret_bb HF.out.symm, HB5.out⟩
          | true =>
            cases S2 with
            | false =>
              have HOF := hid HOV.out
              have hok : OK = false := by rw [HOV.out]; rfl
              have HF := hid (HMY.out.trans (HNO.out hok))
              clear hok
              clear HMY HOV HOP HCO HNO HOR HYS HOF
              go_wp2_with (first | (refine wpList_load_mid (by rfl) 58 (.tmp 12) (by rfl) g (o + k * 7) (by rfl) (chgV c) _ HRL.out HU.out rfl HI.out ?_; clear HRL) | (refine wpList_store_mid (by rfl) 58 (.tmp 5) (.tmp 13) (by rfl) wr.heap.size 0 (chgV c).toArray (by rfl) (by rfl) HT.out HI.out HO.out ?_; clear HT; obtain ⟨w4, hw4⟩ : ∃ w4, w4 = (wr.alloc (.cells #[.string ⟨#[]⟩, .string ⟨#[]⟩, .int .i64 0, .string ⟨#[]⟩, .string ⟨#[]⟩, .int .i64 0, .string ⟨#[]⟩] 58)).setCells wr.heap.size 0 (chgV c).toArray.toList := ⟨_, rfl⟩; rw [← hw4] at HC4 HB4 ⊢; clear hw4; obtain ⟨C, HC⟩ : ∃ C : Nat, Hid (wr.heap.size = C) := ⟨_, rfl⟩; rw [HC.out] at HC4 ⊢; obtain ⟨z0, z1, z2, z3, z4, z5, z6⟩ := HC4.out.at) | (go_at_call 48; refine (HS1.out _).mono ?_; clear HS1; rintro r w5 ⟨rfl, hb5⟩; have HC5 := hid (HC4.out.below hb5); have HB5 := hid (HB4.out.trans (hb5.mono HB4.out.size)); clear hb5 z0 z1 z2 z3 z4 z5 z6; obtain ⟨z0, z1, z2, z3, z4, z5, z6⟩ := HC5.out.at) | (go_at_call 48; refine (HS2.out _).mono ?_; clear HS2; rintro r w6 ⟨rfl, hb6⟩; have HC6 := hid (HC5.out.below hb6); have HB6 := hid (HB5.out.trans (hb6.mono HB5.out.size)); clear hb6 z0 z1 z2 z3 z4 z5 z6; obtain ⟨z0, z1, z2, z3, z4, z5, z6⟩ := HC6.out.at))
              go_ret
              exact ⟨ret_bb HF.out.symm, HB6.out⟩
            | true =>
              rcases HRG.out with hK | hK | hK
              ·
                subst hK
                clear HRG
                have HOF := hid HOV.out
                have hok : OK = true := by rw [HOV.out]; rfl
                subst hok
                have hk2 := HCO.out rfl
                subst hk2
                have HF := hid (HMY.out.trans (HYS.out rfl (by decide)))
                have HPP := hid (HOP.out rfl)
                clear HMY HOV HOP HCO HNO HOR HYS HOF
                go_wp2_with (first | (refine wpList_load_mid (by rfl) 58 (.tmp 12) (by rfl) g (o + k * 7) (by rfl) (chgV c) _ HRL.out HU.out rfl HI.out ?_; clear HRL) | (refine wpList_store_mid (by rfl) 58 (.tmp 5) (.tmp 13) (by rfl) wr.heap.size 0 (chgV c).toArray (by rfl) (by rfl) HT.out HI.out HO.out ?_; clear HT; obtain ⟨w4, hw4⟩ : ∃ w4, w4 = (wr.alloc (.cells #[.string ⟨#[]⟩, .string ⟨#[]⟩, .int .i64 0, .string ⟨#[]⟩, .string ⟨#[]⟩, .int .i64 0, .string ⟨#[]⟩] 58)).setCells wr.heap.size 0 (chgV c).toArray.toList := ⟨_, rfl⟩; rw [← hw4] at HC4 HB4 ⊢; clear hw4; obtain ⟨C, HC⟩ : ∃ C : Nat, Hid (wr.heap.size = C) := ⟨_, rfl⟩; rw [HC.out] at HC4 ⊢; obtain ⟨z0, z1, z2, z3, z4, z5, z6⟩ := HC4.out.at) | (go_at_call 48; refine (HS1.out _).mono ?_; clear HS1; rintro r w5 ⟨rfl, hb5⟩; have HC5 := hid (HC4.out.below hb5); have HB5 := hid (HB4.out.trans (hb5.mono HB4.out.size)); clear hb5 z0 z1 z2 z3 z4 z5 z6; obtain ⟨z0, z1, z2, z3, z4, z5, z6⟩ := HC5.out.at) | (go_at_call 48; refine (HS2.out _).mono ?_; clear HS2; rintro r w6 ⟨rfl, hb6⟩; have HC6 := hid (HC5.out.below hb6); have HB6 := hid (HB5.out.trans (hb6.mono HB5.out.size)); clear hb6 z0 z1 z2 z3 z4 z5 z6; obtain ⟨z0, z1, z2, z3, z4, z5, z6⟩ := HC6.out.at) | (go_at_call 33; refine (HCM.out _).mono ?_; clear HCM; rintro r w7 ⟨rfl, hb7⟩; have HC7 := hid (HC6.out.below hb7); have HB7 := hid (HB6.out.trans (hb7.mono HB6.out.size)); clear hb7 z0 z1 z2 z3 z4 z5 z6; obtain ⟨z0, z1, z2, z3, z4, z5, z6⟩ := HC7.out.at))
                exact ⟨⟨k + 1, c.1, by simp, rfl, by omega, HPP.out.1, HF.out, HB7.out⟩, by simp [intOf]; omega⟩
              ·
                subst hK
                clear HRG
                have HOF := hid HOV.out
                have hok : OK = true := by rw [HOV.out]; rfl
                subst hok
                have hk2 := HCO.out rfl
                subst hk2
                have HF := hid (HMY.out.trans (HOR.out (by decide)))
                have HPP := hid (HOP.out rfl)
                clear HMY HOV HOP HCO HNO HOR HYS HOF
                go_wp2_with (first | (refine wpList_load_mid (by rfl) 58 (.tmp 12) (by rfl) g (o + k * 7) (by rfl) (chgV c) _ HRL.out HU.out rfl HI.out ?_; clear HRL) | (refine wpList_store_mid (by rfl) 58 (.tmp 5) (.tmp 13) (by rfl) wr.heap.size 0 (chgV c).toArray (by rfl) (by rfl) HT.out HI.out HO.out ?_; clear HT; obtain ⟨w4, hw4⟩ : ∃ w4, w4 = (wr.alloc (.cells #[.string ⟨#[]⟩, .string ⟨#[]⟩, .int .i64 0, .string ⟨#[]⟩, .string ⟨#[]⟩, .int .i64 0, .string ⟨#[]⟩] 58)).setCells wr.heap.size 0 (chgV c).toArray.toList := ⟨_, rfl⟩; rw [← hw4] at HC4 HB4 ⊢; clear hw4; obtain ⟨C, HC⟩ : ∃ C : Nat, Hid (wr.heap.size = C) := ⟨_, rfl⟩; rw [HC.out] at HC4 ⊢; obtain ⟨z0, z1, z2, z3, z4, z5, z6⟩ := HC4.out.at) | (go_at_call 48; refine (HS1.out _).mono ?_; clear HS1; rintro r w5 ⟨rfl, hb5⟩; have HC5 := hid (HC4.out.below hb5); have HB5 := hid (HB4.out.trans (hb5.mono HB4.out.size)); clear hb5 z0 z1 z2 z3 z4 z5 z6; obtain ⟨z0, z1, z2, z3, z4, z5, z6⟩ := HC5.out.at) | (go_at_call 48; refine (HS2.out _).mono ?_; clear HS2; rintro r w6 ⟨rfl, hb6⟩; have HC6 := hid (HC5.out.below hb6); have HB6 := hid (HB5.out.trans (hb6.mono HB5.out.size)); clear hb6 z0 z1 z2 z3 z4 z5 z6; obtain ⟨z0, z1, z2, z3, z4, z5, z6⟩ := HC6.out.at) | (go_at_call 33; refine (HCM.out _).mono ?_; clear HCM; rintro r w7 ⟨rfl, hb7⟩; have HC7 := hid (HC6.out.below hb7); have HB7 := hid (HB6.out.trans (hb7.mono HB6.out.size)); clear hb7 z0 z1 z2 z3 z4 z5 z6; obtain ⟨z0, z1, z2, z3, z4, z5, z6⟩ := HC7.out.at))
                go_ret
                exact ⟨ret_bb HF.out.symm, HB7.out⟩
              ·
                subst hK
                clear HRG
                have HOF := hid HOV.out
                have hok : OK = true := by rw [HOV.out]; rfl
                subst hok
                have hk2 := HCO.out rfl
                subst hk2
                have HF := hid (HMY.out.trans (HOR.out (by decide)))
                have HPP := hid (HOP.out rfl)
                clear HMY HOV HOP HCO HNO HOR HYS HOF
                go_wp2_with (first | (refine wpList_load_mid (by rfl) 58 (.tmp 12) (by rfl) g (o + k * 7) (by rfl) (chgV c) _ HRL.out HU.out rfl HI.out ?_; clear HRL) | (refine wpList_store_mid (by rfl) 58 (.tmp 5) (.tmp 13) (by rfl) wr.heap.size 0 (chgV c).toArray (by rfl) (by rfl) HT.out HI.out HO.out ?_; clear HT; obtain ⟨w4, hw4⟩ : ∃ w4, w4 = (wr.alloc (.cells #[.string ⟨#[]⟩, .string ⟨#[]⟩, .int .i64 0, .string ⟨#[]⟩, .string ⟨#[]⟩, .int .i64 0, .string ⟨#[]⟩] 58)).setCells wr.heap.size 0 (chgV c).toArray.toList := ⟨_, rfl⟩; rw [← hw4] at HC4 HB4 ⊢; clear hw4; obtain ⟨C, HC⟩ : ∃ C : Nat, Hid (wr.heap.size = C) := ⟨_, rfl⟩; rw [HC.out] at HC4 ⊢; obtain ⟨z0, z1, z2, z3, z4, z5, z6⟩ := HC4.out.at) | (go_at_call 48; refine (HS1.out _).mono ?_; clear HS1; rintro r w5 ⟨rfl, hb5⟩; have HC5 := hid (HC4.out.below hb5); have HB5 := hid (HB4.out.trans (hb5.mono HB4.out.size)); clear hb5 z0 z1 z2 z3 z4 z5 z6; obtain ⟨z0, z1, z2, z3, z4, z5, z6⟩ := HC5.out.at) | (go_at_call 48; refine (HS2.out _).mono ?_; clear HS2; rintro r w6 ⟨rfl, hb6⟩; have HC6 := hid (HC5.out.below hb6); have HB6 := hid (HB5.out.trans (hb6.mono HB5.out.size)); clear hb6 z0 z1 z2 z3 z4 z5 z6; obtain ⟨z0, z1, z2, z3, z4, z5, z6⟩ := HC6.out.at) | (go_at_call 33; refine (HCM.out _).mono ?_; clear HCM; rintro r w7 ⟨rfl, hb7⟩; have HC7 := hid (HC6.out.below hb7); have HB7 := hid (HB6.out.trans (hb7.mono HB6.out.size)); clear hb7 z0 z1 z2 z3 z4 z5 z6; obtain ⟨z0, z1, z2, z3, z4, z5, z6⟩ := HC7.out.at))
                go_ret
                exact ⟨ret_bb HF.out.symm, HB7.out⟩
        | true =>
          have HOF := hid HOV.out
          have hok : OK = false := by rw [HOV.out]; simp
          have HF := hid (HMY.out.trans (HNO.out hok))
          clear hok
          clear HMY HOV HOP HCO HNO HOR HYS HOF
          go_wp2_with (first | (refine wpList_load_mid (by rfl) 58 (.tmp 12) (by rfl) g (o + k * 7) (by rfl) (chgV c) _ HRL.out HU.out rfl HI.out ?_; clear HRL) | (refine wpList_store_mid (by rfl) 58 (.tmp 5) (.tmp 13) (by rfl) wr.heap.size 0 (chgV c).toArray (by rfl) (by rfl) HT.out HI.out HO.out ?_; clear HT; obtain ⟨w4, hw4⟩ : ∃ w4, w4 = (wr.alloc (.cells #[.string ⟨#[]⟩, .string ⟨#[]⟩, .int .i64 0, .string ⟨#[]⟩, .string ⟨#[]⟩, .int .i64 0, .string ⟨#[]⟩] 58)).setCells wr.heap.size 0 (chgV c).toArray.toList := ⟨_, rfl⟩; rw [← hw4] at HC4 HB4 ⊢; clear hw4; obtain ⟨C, HC⟩ : ∃ C : Nat, Hid (wr.heap.size = C) := ⟨_, rfl⟩; rw [HC.out] at HC4 ⊢; obtain ⟨z0, z1, z2, z3, z4, z5, z6⟩ := HC4.out.at))
          go_ret
          exact ⟨ret_bb HF.out.symm, HB4.out⟩
    · have q1 : ¬ (k : Int) < (cs.length : Int) := by omega
      have HF := hid (show mayC [] cs = true from by rw [HMY.out, List.drop_eq_nil_of_le (by omega)]; rfl)
      clear HMY
      go_wp2
      go_ret
      exact ⟨ret_bb HF.out.symm, HB.out⟩

end Go.Proofs.Ytgldmepmeampeab

/- The program's Apply: changes that are made. -/
namespace Go.Proofs.Ytgldmepmeampeab
open Go.RowKit Go.BigFrame

theorem cb_kept {w w' : World} {b : Nat} {c : Chg} {row : Option Nat} (h : Cb w b c) (hg : w.grownBy w' row) (hne : row ≠ some b) : Cb w' b c :=
  (hg.block b h.lt (fun e => hne e.symm)).trans h
theorem own_ne {w : World} {base b : Nat} {v : Value} {es : List Ent} {c : Chg} (h : OwnE w base v es) (hc : Cb w b c) : v.ownBlock ≠ some b := by
  intro hb
  rcases h.2 with ⟨h0, _⟩ | ⟨g, cap, cur, hv, _, hh, _⟩
  · rw [h0] at hb; cases hb
  · rw [hv] at hb
    have : g = b := Option.some.inj hb
    subst this
    rw [hc] at hh
    injection hh with hh
    injection hh with _ h2 _
    exact absurd h2 (by decide)
/-- how far changes are made -/
structure ChS (w0 : World) (t : List Ent) (cs : List Chg) (t' nx : List Ent) (k : Nat) (vt vn : Value) (wr : World) : Prop where
  et : Ents w0 vt t'
  own : OwnE wr w0.heap.size vn nx
  eq : chgd t cs = nx ++ chgd t' (cs.drop k)
  up : t'.Pairwise ltE
  ok : ∀ e ∈ t', okP e.1 = true
  many : t'.length ≤ 1024
  len : nx.length + t'.length ≤ 1024 + k
  bel : Below w0.heap.size w0 wr
theorem ChS.next {w0 wr wr' : World} {t t' nx nx' : List Ent} {cs : List Chg} {k J : Nat} {vt vn vt' vn' : Value} {c : Chg} (h : ChS w0 t cs t' nx k vt vn wr) (hd : cs.drop k = c :: cs.drop (k + 1))
    (hJ : J = plP t' c.1 + (if thP t' c.1 then 1 else 0)) (hn : nx' = nx ++ t'.take (plP t' c.1) ++ (if c.2.2.2.1 = 0 then [] else [c.2.2])) (ht : Ents w0 vt' (t'.drop J)) (ho : OwnE wr' w0.heap.size vn' nx') (hb : Below w0.heap.size w0 wr') :
    ChS w0 t cs (t'.drop J) nx' (k + 1) vt' vn' wr' := by
  refine ⟨ht, ho, ?_, h.up.sublist (List.drop_sublist _ _), fun e he => h.ok e (List.mem_of_mem_drop he), by rw [List.length_drop]; have := h.many; omega, ?_, hb⟩
  · rw [h.eq, hd, chgd, hJ, hn]
    simp only [List.append_assoc]
  · have h1 := h.len
    have h2 := plP_le t' c.1
    have h3 : (nx' : List Ent).length ≤ nx.length + plP t' c.1 + 1 := by
      rw [hn]
      simp only [List.length_append, List.length_take]
      split <;> simp <;> omega
    rw [List.length_drop]
    have : plP t' c.1 ≤ J := by omega
    by_cases hjl : J ≤ t'.length
    · omega
    · omega

set_option maxRecDepth 100000 in
set_option maxHeartbeats 4000000 in
theorem changed_any (vt vl : Value) (t : List Ent) (cs : List Chg) (w : World) (ht : Ents w vt t) (h : Chgs w vl cs) (hup : t.Pairwise ltE) (hok : ∀ e ∈ t, okP e.1 = true) (hm : t.length ≤ 1024) (hcs : ∀ c ∈ cs, okP c.1 = true) (hn : cs.length ≤ 1099511627776) :
    Calls Try.prog 26 #[vt, vl] w fun r w' => ∃ v, r = .returned v ∧ OwnE w' w.heap.size v (chgd t cs) ∧ Below w.heap.size w w' := by
  obtain ⟨ao, cc, rfl⟩ := h.shape
  have HL := hid h
  have HCS := hid hcs
  have HU := hid Try.underlying58
  have HS0 : Hid (ChS w t cs t [] 0 vt (.slice none 0 0) w) := ⟨ht, OwnE.nil _ _, rfl, hup, hok, hm, by simp; omega, Below.refl _ _⟩
  obtain ⟨to, tc, rfl⟩ := ht.shape
  clear h hcs ht hup hok hm
  go_enter Try.func26, Try.ntmps26
  go_wp2
  go_loopw [0, 5, 12] (fun x y i wr => ∃ (k : Nat) (t' nx : List Ent), i = .int .i64 k ∧ k ≤ cs.length ∧ ChS w t cs t' nx k x y wr) (fun _ _ i _ => cs.length - (intOf i).toNat)
  case atStart => exact ⟨0, t, [], rfl, Nat.zero_le _, HS0.out⟩
  case round =>
    obtain ⟨k, t', nx, rfl, hk, hst⟩ := hrel
    have HST := hid hst
    obtain ⟨aa, xa, e1⟩ := hst.et.shape
    obtain ⟨ab, xb, e2⟩ := hst.own.ents.shape
    generalize nx.length = nb at e2
    subst e1 e2
    clear hst HS0
    obtain ⟨n1, HN1⟩ : ∃ n : Nat, Hid (t'.length = n) := ⟨_, rfl⟩
    rw [HN1.out] at HST ⊢
    by_cases hlt : k < cs.length
    · have q1 : (k : Int) < (cs.length : Int) := by omega
      have hw1 : IntKind.i64.wrap ((k : Int) + 1) = ((k + 1 : Nat) : Int) := by rw [IntKind.wrap_i64]; omega
      obtain ⟨c, HCD⟩ : ∃ c, Hid (cs.getD k zC = c) := ⟨_, rfl⟩
      obtain ⟨g, o, rfl, hgl, hrl⟩ := (HL.out.below HST.out.bel).range k hlt c HCD.out
      have HRL := hid hrl
      have hcm : c ∈ cs := by rw [← HCD.out]; exact getC_mem hlt
      have HDR := hid (dropC hlt)
      rw [HCD.out] at HDR
      have HI := hid (info_chg7 c)
      have HO := hid (one_chg7 c)
      have HT := hid (Cb.new wr zC).there
      have HC4 := hid ((Cb.new wr zC).all c)
      have HB4 := hid (belowCs (Nat.le_refl _) (chgV c) 0 _ (below_walk wr (.cells #[.string ⟨#[]⟩, .string ⟨#[]⟩, .int .i64 0, .string ⟨#[]⟩, .string ⟨#[]⟩, .int .i64 0, .string ⟨#[]⟩] 58)))
      change Hid (Cb ((wr.alloc (.cells #[.string ⟨#[]⟩, .string ⟨#[]⟩, .int .i64 0, .string ⟨#[]⟩, .string ⟨#[]⟩, .int .i64 0, .string ⟨#[]⟩] 58)).setCells wr.heap.size 0 (chgV c).toArray.toList) wr.heap.size c) at HC4
      change Hid (Below wr.heap.size wr ((wr.alloc (.cells #[.string ⟨#[]⟩, .string ⟨#[]⟩, .int .i64 0, .string ⟨#[]⟩, .string ⟨#[]⟩, .int .i64 0, .string ⟨#[]⟩] 58)).setCells wr.heap.size 0 (chgV c).toArray.toList)) at HB4
      have HPL := hid (fun W (hW : Below w.heap.size w W) => place_any _ t' c.1 W (HST.out.et.below hW) HST.out.up HST.out.ok (HCS.out c hcm) HST.out.many)
      have HTH := hid (plP_th (t := t') (p := c.1) HST.out.up)
      have HLE := hid (plP_le t' c.1)
      obtain ⟨v1, hv1, hs1⟩ := ecut_to HST.out.et (plP t' c.1) (plP_le _ _)
      have HV1 := hid hv1
      obtain ⟨q1', nq, r1, e1⟩ : ∃ a n c, v1 = .slice a n c := by obtain ⟨a, c, e⟩ := hv1.shape; exact ⟨a, _, c, e⟩
      subst e1
      have HNX := hid (fun (J : Nat) (nx' : List Ent) (vt' vn' : Value) (wr' : World) => HST.out.next (c := c) (J := J) (nx' := nx') (vt' := vt') (vn' := vn') (wr' := wr') HDR.out)
      have HL1 := hid (show nx.length + (t'.take (plP t' c.1)).length ≤ 3298534883328 by have h1 := HST.out.len; rw [List.length_take]; omega)
      have HL2 := hid (show (nx ++ t'.take (plP t' c.1)).length + [c.2.2].length ≤ 3298534883328 by have h1 := HST.out.len; rw [List.length_append, List.length_take]; simp; omega)
      have HTD := hid (fun J (hJ : J ≤ t'.length) => ecut_from HST.out.et J hJ)
      have HNI := hid HST.out.own
      have HBI := hid HST.out.bel
      have HMN := hid HST.out.many
      obtain ⟨I, HII⟩ : ∃ I : Nat, Hid (plP t' c.1 = I) := ⟨_, rfl⟩
      rw [HII.out] at HPL HTH HLE hs1 HV1 HNX HL1 HL2
      generalize htb : thP t' c.1 = TH at *
      obtain ⟨K2, HK2⟩ : ∃ K, Hid (c.2.2.2.1 = K) := ⟨_, rfl⟩
      rw [HK2.out] at HNX
      clear hrl hcm hgl hv1 HST
      cases TH with
      | false =>
        obtain ⟨v2, hv2, hs2⟩ := HTD.out I HLE.out
        have HV2 := hid hv2
        obtain ⟨q2, m2, r2, e2⟩ : ∃ a n c, v2 = .slice a n c := by obtain ⟨a, c, e⟩ := hv2.shape; exact ⟨a, _, c, e⟩
        subst e2
        clear hv2 HTD HTH htb
        by_cases hk2 : K2 = 0
        ·
          subst hk2
          go_wp2_with (first | (refine wpList_load_mid (by rfl) 58 (.tmp 14) (by rfl) g (o + k * 7) (by rfl) (chgV c) _ HRL.out HU.out rfl HI.out ?_; clear HRL) | (refine wpList_store_mid (by rfl) 58 (.tmp 7) (.tmp 15) (by rfl) wr.heap.size 0 (chgV c).toArray (by rfl) (by rfl) HT.out HI.out HO.out ?_; clear HT; obtain ⟨w4, hw4⟩ : ∃ w4, w4 = (wr.alloc (.cells #[.string ⟨#[]⟩, .string ⟨#[]⟩, .int .i64 0, .string ⟨#[]⟩, .string ⟨#[]⟩, .int .i64 0, .string ⟨#[]⟩] 58)).setCells wr.heap.size 0 (chgV c).toArray.toList := ⟨_, rfl⟩; rw [← hw4] at HC4 HB4 ⊢; clear hw4; have HN4 := hid (HNI.out.below HB4.out); have HB4' := hid (below_then HBI.out HB4.out); obtain ⟨C, HC⟩ : ∃ C : Nat, Hid (wr.heap.size = C) := ⟨_, rfl⟩; rw [HC.out] at HC4 ⊢; clear HB4 HNI HBI; obtain ⟨z0, z1, z2, z3, z4, z5, z6⟩ := HC4.out.at) | (go_at_call 37; refine (HPL.out _ HB4'.out).mono ?_; rintro r w5 ⟨rfl, hb5⟩; have HC5 := hid (HC4.out.below hb5); have HN5 := hid (HN4.out.below hb5); have HB5 := hid (below_then HB4'.out hb5); have HE5 := hid (HV1.out.below HB5.out); clear hb5 z0 z1 z2 z3 z4 z5 z6 HN4 HB4' HPL) | (at_builtin; refine app_ent rfl _ _ rfl w.heap.size _ nx rfl HN5.out (t'.take I) _ rfl HE5.out HL1.out HB5.out.size ?_; intro v6 w6 ho6 hg6 hp6; have HN6 := hid ho6; have HB6 := hid (HB5.out.grown hg6 HB5.out.size (fun j hj => (HN5.out.lt j hj).1)); have HC6 := hid (cb_kept HC5.out hg6 (own_ne HN5.out HC5.out)); obtain ⟨a6, n6, c6, e6⟩ : ∃ a n c, v6 = .slice a n c := by {obtain ⟨a, c, e⟩ := ho6.ents.shape; exact ⟨a, _, c, e⟩}; subst e6; clear ho6 hg6 hp6 HN5 HB5 HE5 HL1; obtain ⟨z0, z1, z2, z3, z4, z5, z6⟩ := HC6.out.at; rw [HK2.out] at z5))
          exact ⟨⟨k + 1, t'.drop (I), nx ++ t'.take I, by simp, by omega, HNX.out (I) _ _ _ _ (by simp) (by simp) HV2.out HN6.out HB6.out⟩, by simp [intOf]; omega⟩
        ·
          have e2 : (K2 == 0) = false := by simpa using hk2
          go_wp2_with (first | (refine wpList_load_mid (by rfl) 58 (.tmp 14) (by rfl) g (o + k * 7) (by rfl) (chgV c) _ HRL.out HU.out rfl HI.out ?_; clear HRL) | (refine wpList_store_mid (by rfl) 58 (.tmp 7) (.tmp 15) (by rfl) wr.heap.size 0 (chgV c).toArray (by rfl) (by rfl) HT.out HI.out HO.out ?_; clear HT; obtain ⟨w4, hw4⟩ : ∃ w4, w4 = (wr.alloc (.cells #[.string ⟨#[]⟩, .string ⟨#[]⟩, .int .i64 0, .string ⟨#[]⟩, .string ⟨#[]⟩, .int .i64 0, .string ⟨#[]⟩] 58)).setCells wr.heap.size 0 (chgV c).toArray.toList := ⟨_, rfl⟩; rw [← hw4] at HC4 HB4 ⊢; clear hw4; have HN4 := hid (HNI.out.below HB4.out); have HB4' := hid (below_then HBI.out HB4.out); obtain ⟨C, HC⟩ : ∃ C : Nat, Hid (wr.heap.size = C) := ⟨_, rfl⟩; rw [HC.out] at HC4 ⊢; clear HB4 HNI HBI; obtain ⟨z0, z1, z2, z3, z4, z5, z6⟩ := HC4.out.at) | (go_at_call 37; refine (HPL.out _ HB4'.out).mono ?_; rintro r w5 ⟨rfl, hb5⟩; have HC5 := hid (HC4.out.below hb5); have HN5 := hid (HN4.out.below hb5); have HB5 := hid (below_then HB4'.out hb5); have HE5 := hid (HV1.out.below HB5.out); clear hb5 z0 z1 z2 z3 z4 z5 z6 HN4 HB4' HPL) | (at_builtin; refine app_ent rfl _ _ rfl w.heap.size _ nx rfl HN5.out (t'.take I) _ rfl HE5.out HL1.out HB5.out.size ?_; intro v6 w6 ho6 hg6 hp6; have HN6 := hid ho6; have HB6 := hid (HB5.out.grown hg6 HB5.out.size (fun j hj => (HN5.out.lt j hj).1)); have HC6 := hid (cb_kept HC5.out hg6 (own_ne HN5.out HC5.out)); obtain ⟨a6, n6, c6, e6⟩ : ∃ a n c, v6 = .slice a n c := by {obtain ⟨a, c, e⟩ := ho6.ents.shape; exact ⟨a, _, c, e⟩}; subst e6; clear ho6 hg6 hp6 HN5 HB5 HE5 HL1; obtain ⟨z0, z1, z2, z3, z4, z5, z6⟩ := HC6.out.at; rw [HK2.out] at z5; have HEN := hid (ents_one w6 c.2.2); rw [HK2.out] at HEN; have HN7 := hid (HN6.out.below (below_walk w6 (.cells #[.string (mk c.2.2.1), .int .i64 K2, .string (mk c.2.2.2.2)] 35))); have HB7 := hid (HB6.out.alloc HB6.out.size (.cells #[.string (mk c.2.2.1), .int .i64 K2, .string (mk c.2.2.2.2)] 35))) | (at_builtin; refine app_ent rfl _ _ rfl w.heap.size _ (nx ++ t'.take I) rfl HN7.out [c.2.2] _ rfl HEN.out HL2.out HB7.out.size ?_; intro v8 w8 ho8 hg8 hp8; have HN8 := hid ho8; have HB8 := hid (HB7.out.grown hg8 HB7.out.size (fun j hj => (HN7.out.lt j hj).1)); obtain ⟨a8, n8, c8, e8⟩ : ∃ a n c, v8 = .slice a n c := by {obtain ⟨a, c, e⟩ := ho8.ents.shape; exact ⟨a, _, c, e⟩}; subst e8; clear ho8 hg8 hp8))
          exact ⟨⟨k + 1, t'.drop (I), nx ++ t'.take I ++ [c.2.2], by simp, by omega, HNX.out (I) _ _ _ _ (by simp) (by rw [if_neg hk2]) HV2.out HN8.out HB8.out⟩, by simp [intOf]; omega⟩
      | true =>
        have hI := (HTH.out rfl).1
        have hw2 : IntKind.i64.wrap ((I : Int) + 1) = (I : Int) + 1 := by rw [IntKind.wrap_i64]; have := HMN.out; omega
        obtain ⟨v2, hv2, hs2⟩ := HTD.out (I + 1) (by omega)
        rw [show ((I + 1 : Nat) : Int) = (I : Int) + 1 from by omega] at hs2
        have HV2 := hid hv2
        obtain ⟨q2, m2, r2, e2⟩ : ∃ a n c, v2 = .slice a n c := by obtain ⟨a, c, e⟩ := hv2.shape; exact ⟨a, _, c, e⟩
        subst e2
        clear hv2 HTD HTH htb
        by_cases hk2 : K2 = 0
        ·
          subst hk2
          go_wp2_with (first | (refine wpList_load_mid (by rfl) 58 (.tmp 14) (by rfl) g (o + k * 7) (by rfl) (chgV c) _ HRL.out HU.out rfl HI.out ?_; clear HRL) | (refine wpList_store_mid (by rfl) 58 (.tmp 7) (.tmp 15) (by rfl) wr.heap.size 0 (chgV c).toArray (by rfl) (by rfl) HT.out HI.out HO.out ?_; clear HT; obtain ⟨w4, hw4⟩ : ∃ w4, w4 = (wr.alloc (.cells #[.string ⟨#[]⟩, .string ⟨#[]⟩, .int .i64 0, .string ⟨#[]⟩, .string ⟨#[]⟩, .int .i64 0, .string ⟨#[]⟩] 58)).setCells wr.heap.size 0 (chgV c).toArray.toList := ⟨_, rfl⟩; rw [← hw4] at HC4 HB4 ⊢; clear hw4; have HN4 := hid (HNI.out.below HB4.out); have HB4' := hid (below_then HBI.out HB4.out); obtain ⟨C, HC⟩ : ∃ C : Nat, Hid (wr.heap.size = C) := ⟨_, rfl⟩; rw [HC.out] at HC4 ⊢; clear HB4 HNI HBI; obtain ⟨z0, z1, z2, z3, z4, z5, z6⟩ := HC4.out.at) | (go_at_call 37; refine (HPL.out _ HB4'.out).mono ?_; rintro r w5 ⟨rfl, hb5⟩; have HC5 := hid (HC4.out.below hb5); have HN5 := hid (HN4.out.below hb5); have HB5 := hid (below_then HB4'.out hb5); have HE5 := hid (HV1.out.below HB5.out); clear hb5 z0 z1 z2 z3 z4 z5 z6 HN4 HB4' HPL) | (at_builtin; refine app_ent rfl _ _ rfl w.heap.size _ nx rfl HN5.out (t'.take I) _ rfl HE5.out HL1.out HB5.out.size ?_; intro v6 w6 ho6 hg6 hp6; have HN6 := hid ho6; have HB6 := hid (HB5.out.grown hg6 HB5.out.size (fun j hj => (HN5.out.lt j hj).1)); have HC6 := hid (cb_kept HC5.out hg6 (own_ne HN5.out HC5.out)); obtain ⟨a6, n6, c6, e6⟩ : ∃ a n c, v6 = .slice a n c := by {obtain ⟨a, c, e⟩ := ho6.ents.shape; exact ⟨a, _, c, e⟩}; subst e6; clear ho6 hg6 hp6 HN5 HB5 HE5 HL1; obtain ⟨z0, z1, z2, z3, z4, z5, z6⟩ := HC6.out.at; rw [HK2.out] at z5))
          exact ⟨⟨k + 1, t'.drop (I + 1), nx ++ t'.take I, by simp, by omega, HNX.out (I + 1) _ _ _ _ (by simp) (by simp) HV2.out HN6.out HB6.out⟩, by simp [intOf]; omega⟩
        ·
          have e2 : (K2 == 0) = false := by simpa using hk2
          go_wp2_with (first | (refine wpList_load_mid (by rfl) 58 (.tmp 14) (by rfl) g (o + k * 7) (by rfl) (chgV c) _ HRL.out HU.out rfl HI.out ?_; clear HRL) | (refine wpList_store_mid (by rfl) 58 (.tmp 7) (.tmp 15) (by rfl) wr.heap.size 0 (chgV c).toArray (by rfl) (by rfl) HT.out HI.out HO.out ?_; clear HT; obtain ⟨w4, hw4⟩ : ∃ w4, w4 = (wr.alloc (.cells #[.string ⟨#[]⟩, .string ⟨#[]⟩, .int .i64 0, .string ⟨#[]⟩, .string ⟨#[]⟩, .int .i64 0, .string ⟨#[]⟩] 58)).setCells wr.heap.size 0 (chgV c).toArray.toList := ⟨_, rfl⟩; rw [← hw4] at HC4 HB4 ⊢; clear hw4; have HN4 := hid (HNI.out.below HB4.out); have HB4' := hid (below_then HBI.out HB4.out); obtain ⟨C, HC⟩ : ∃ C : Nat, Hid (wr.heap.size = C) := ⟨_, rfl⟩; rw [HC.out] at HC4 ⊢; clear HB4 HNI HBI; obtain ⟨z0, z1, z2, z3, z4, z5, z6⟩ := HC4.out.at) | (go_at_call 37; refine (HPL.out _ HB4'.out).mono ?_; rintro r w5 ⟨rfl, hb5⟩; have HC5 := hid (HC4.out.below hb5); have HN5 := hid (HN4.out.below hb5); have HB5 := hid (below_then HB4'.out hb5); have HE5 := hid (HV1.out.below HB5.out); clear hb5 z0 z1 z2 z3 z4 z5 z6 HN4 HB4' HPL) | (at_builtin; refine app_ent rfl _ _ rfl w.heap.size _ nx rfl HN5.out (t'.take I) _ rfl HE5.out HL1.out HB5.out.size ?_; intro v6 w6 ho6 hg6 hp6; have HN6 := hid ho6; have HB6 := hid (HB5.out.grown hg6 HB5.out.size (fun j hj => (HN5.out.lt j hj).1)); have HC6 := hid (cb_kept HC5.out hg6 (own_ne HN5.out HC5.out)); obtain ⟨a6, n6, c6, e6⟩ : ∃ a n c, v6 = .slice a n c := by {obtain ⟨a, c, e⟩ := ho6.ents.shape; exact ⟨a, _, c, e⟩}; subst e6; clear ho6 hg6 hp6 HN5 HB5 HE5 HL1; obtain ⟨z0, z1, z2, z3, z4, z5, z6⟩ := HC6.out.at; rw [HK2.out] at z5; have HEN := hid (ents_one w6 c.2.2); rw [HK2.out] at HEN; have HN7 := hid (HN6.out.below (below_walk w6 (.cells #[.string (mk c.2.2.1), .int .i64 K2, .string (mk c.2.2.2.2)] 35))); have HB7 := hid (HB6.out.alloc HB6.out.size (.cells #[.string (mk c.2.2.1), .int .i64 K2, .string (mk c.2.2.2.2)] 35))) | (at_builtin; refine app_ent rfl _ _ rfl w.heap.size _ (nx ++ t'.take I) rfl HN7.out [c.2.2] _ rfl HEN.out HL2.out HB7.out.size ?_; intro v8 w8 ho8 hg8 hp8; have HN8 := hid ho8; have HB8 := hid (HB7.out.grown hg8 HB7.out.size (fun j hj => (HN7.out.lt j hj).1)); obtain ⟨a8, n8, c8, e8⟩ : ∃ a n c, v8 = .slice a n c := by {obtain ⟨a, c, e⟩ := ho8.ents.shape; exact ⟨a, _, c, e⟩}; subst e8; clear ho8 hg8 hp8))
          exact ⟨⟨k + 1, t'.drop (I + 1), nx ++ t'.take I ++ [c.2.2], by simp, by omega, HNX.out (I + 1) _ _ _ _ (by simp) (by rw [if_neg hk2]) HV2.out HN8.out HB8.out⟩, by simp [intOf]; omega⟩
    · have q1 : ¬ (k : Int) < (cs.length : Int) := by omega
      have HF := hid (show chgd t cs = nx ++ t' from by rw [HST.out.eq, List.drop_eq_nil_of_le (by omega)]; rfl)
      have HL1 := hid (show nx.length + t'.length ≤ 3298534883328 by have h1 := HST.out.len; omega)
      have HE5 := hid (HST.out.et.below HST.out.bel)
      go_wp2_with (at_builtin; refine app_ent rfl _ _ rfl w.heap.size _ nx rfl HST.out.own t' _ rfl HE5.out HL1.out HST.out.bel.size ?_)
      intro v6 w6 ho6 hg6 _
      have HN6 := hid ho6
      have HB6 := hid (HST.out.bel.grown hg6 HST.out.bel.size (fun j hj => (HST.out.own.lt j hj).1))
      obtain ⟨a6, n6, c6, e6⟩ : ∃ a n c, v6 = .slice a n c := by obtain ⟨a, c, e⟩ := ho6.ents.shape; exact ⟨a, _, c, e⟩
      subst e6
      clear ho6 hg6
      go_wp2
      go_ret
      exact ⟨_, rfl, by rw [HF.out]; exact HN6.out, HB6.out⟩

end Go.Proofs.Ytgldmepmeampeab

/- The program's Apply. -/
namespace Go.Proofs.Ytgldmepmeampeab
open Go.RowKit Go.BigFrame

theorem chgd_mem : ∀ {cs : List Chg} {t : List Ent} {e : Ent}, e ∈ chgd t cs → e ∈ t ∨ ∃ c ∈ cs, e = c.2.2 ∧ c.2.2.2.1 ≠ 0
  | [], _, _, h => Or.inl h
  | c :: cs, t, e, h => by
    rw [chgd, List.mem_append, List.mem_append] at h
    rcases h with h | h | h
    · exact Or.inl (List.mem_of_mem_take h)
    · split at h
      · cases h
      · rename_i hk
        rw [List.mem_singleton] at h
        exact Or.inr ⟨c, by simp, h, hk⟩
    · rcases chgd_mem h with h | ⟨d, hd, h⟩
      · exact Or.inl (List.mem_of_mem_drop h)
      · exact Or.inr ⟨d, by simp [hd], h⟩
theorem chgd_len : ∀ (cs : List Chg) (t : List Ent), (chgd t cs).length ≤ t.length + cs.length
  | [], t => by simp [chgd]
  | c :: cs, t => by
    have ih := chgd_len cs (t.drop (plP t c.1 + (if thP t c.1 then 1 else 0)))
    have h1 : (if c.2.2.2.1 = 0 then [] else [c.2.2] : List Ent).length ≤ 1 := by split <;> simp
    have h2 := plP_le t c.1
    rw [chgd, List.length_append, List.length_append, List.length_take]
    rw [List.length_drop] at ih
    simp only [List.length_cons]
    omega
theorem mayC_all : ∀ {cs : List Chg} {L : List UInt8}, mayC L cs = true → ∀ c ∈ cs, okC c = true
  | [], _, _, c, hc => by cases hc
  | d :: cs, L, h, c, hc => by
    rw [mayC, Bool.and_eq_true, Bool.and_eq_true] at h
    rw [List.mem_cons] at hc
    rcases hc with rfl | hc
    · exact h.1.1
    · exact mayC_all h.2 c hc
theorem okC_new {c : Chg} (h : okC c = true) (hk : c.2.2.2.1 ≠ 0) : mayP c.2.2 = true := by
  unfold okC sidP at h
  simp only [Bool.and_eq_true, Bool.or_eq_true, decide_eq_true_eq] at h
  rcases h.2 with h2 | h2
  · rw [h2] at hk; exact absurd rfl hk
  · exact h2.2
theorem chgd_short {t : List Ent} {cs : List Chg} (ht : ∀ e ∈ t, mayP e = true) (hc : mayC [] cs = true) : ∀ e ∈ chgd t cs, mayP e = true := by
  intro e he
  rcases chgd_mem he with h | ⟨c, hcm, rfl, hk⟩
  · exact ht e h
  · exact okC_new (mayC_all hc c hcm) hk
theorem may_short {t : List Ent} (h : ∀ e ∈ t, mayP e = true) : Short t := by
  intro e he
  have h1 := okP_short (mayP_ok (h e he))
  have h2 := h e he
  unfold mayP at h2
  simp only [Bool.and_eq_true, decide_eq_true_iff] at h2
  refine ⟨by omega, ?_⟩
  rcases h2.2 with h3 | h3 | h3
  · omega
  · rw [h3.2]; simp
  · omega
theorem may_shr' {e : Ent} (h : mayP e = true) : Shr e := by
  have h1 := okP_short (mayP_ok h)
  refine ⟨by omega, ?_⟩
  unfold mayP at h
  simp only [Bool.and_eq_true, decide_eq_true_iff] at h
  rcases h.2 with h2 | h2 | h2
  · omega
  · rw [h2.2]; simp
  · omega

set_option maxRecDepth 100000 in
set_option maxHeartbeats 4000000 in
theorem apply_any (vt vl : Value) (t : List Ent) (cs : List Chg) (w : World) (ht : Ents w vt t) (h : Chgs w vl cs) (hst : Short t) (hnt : t.length ≤ 4611686018427387904) (hs : ShortC cs) (hn : cs.length ≤ 549755813888) :
    Calls Try.prog 10 #[vt, vl] w fun r w' => AnsE w' w.heap.size r (apP t cs) ∧ Below w.heap.size w w' := by
  obtain ⟨E0, HE0⟩ : ∃ E : Int, Hid ((chkP t).2 = E) := ⟨_, rfl⟩
  have HR := hid (right_one vt t w ht hst hnt E0 HE0.out)
  have HMY := hid (fun W (hW : Below w.heap.size w W) => changesMay_any vl cs W (h.below hW) hs (by omega))
  have HET := hid ht
  have HL := hid h
  obtain ⟨to, tc, rfl⟩ := ht.shape
  obtain ⟨ao, cc, rfl⟩ := h.shape
  have HU := hid Try.underlying58
  clear ht h hst hs
  by_cases h0 : E0 = 0
  · subst h0
    have hrt := rgt_iff.1 HE0.out
    cases hmb : mayC [] cs with
    | false =>
      have HAP := hid (show apP t cs = .error 1 from by unfold apP; rw [if_neg (by simpa using HE0.out), if_pos hmb])
      rw [hmb] at HMY
      clear hrt hmb
      go_enter Try.func10, Try.ntmps10
      go_wp2_with fail
      refine HR.out.mono ?_
      rintro r w1 ⟨rfl, hb1⟩
      have HB1 := hid hb1
      clear hb1 HR
      go_wp2_with fail
      refine (HMY.out w1 HB1.out).mono ?_
      rintro r w2 ⟨rfl, hb2⟩
      have HB2 := hid (below_then HB1.out hb2)
      clear hb2 HMY
      go_wp2
      go_ret2
      rw [HAP.out]
      exact ⟨rfl, HB2.out⟩
    | true =>
      rw [hmb] at HMY
      have HRT := hid hrt
      have HMB := hid hmb
      have HAL := hid (mayC_all hmb)
      have HST := hid (fun (c : Chg) (hc : c ∈ cs) W (hW : Below w.heap.size w W) => standing_any _ t c.1 W (HET.out.below hW) hrt.up (fun e he => mayP_ok (hrt.may e he)) (okC_path (mayC_all hmb c hc)).1 hrt.many)
      have HCH := hid (fun W (hW : Below w.heap.size w W) => changed_any _ _ t cs W (HET.out.below hW) (HL.out.below hW) hrt.up (fun e he => mayP_ok (hrt.may e he)) hrt.many (fun c hc => (okC_path (mayC_all hmb c hc)).1) (by omega))
      clear hrt hmb
      go_enter Try.func10, Try.ntmps10
      go_wp2_with fail
      refine HR.out.mono ?_
      rintro r w1 ⟨rfl, hb1⟩
      have HB1 := hid hb1
      clear hb1 HR
      go_wp2_with fail
      refine (HMY.out w1 HB1.out).mono ?_
      rintro r w2 ⟨rfl, hb2⟩
      have HB2 := hid (below_then HB1.out hb2)
      clear hb2 HMY HB1
      go_wp2
      go_loopw [22] (fun i wr => ∃ k : Nat, i = .int .i64 k ∧ k ≤ cs.length ∧ (∀ j, j < k → stP t (cs.getD j zC).1 = (cs.getD j zC).2.1) ∧ Below w.heap.size w wr) (fun i _ => cs.length - (intOf i).toNat)
      case atStart => exact ⟨0, rfl, Nat.zero_le _, fun j hj => by omega, HB2.out⟩
      case round =>
        obtain ⟨k, rfl, hk, hsk, hb⟩ := hrel
        have HB := hid hb
        have HSK := hid hsk
        clear hb hsk HB2
        by_cases hlt : k < cs.length
        · have q1 : (k : Int) < (cs.length : Int) := by omega
          have hw1 : IntKind.i64.wrap ((k : Int) + 1) = ((k + 1 : Nat) : Int) := by rw [IntKind.wrap_i64]; omega
          obtain ⟨c, HCD⟩ : ∃ c, Hid (cs.getD k zC = c) := ⟨_, rfl⟩
          obtain ⟨g, o, rfl, hgl, hrl⟩ := (HL.out.below HB.out).range k hlt c HCD.out
          have HRL := hid hrl
          have hcm : c ∈ cs := by rw [← HCD.out]; exact getC_mem hlt
          have HI := hid (info_chg7 c)
          have HO := hid (one_chg7 c)
          have HT := hid (Cb.new wr zC).there
          have HC4 := hid ((Cb.new wr zC).all c)
          have HB4 := hid (belowCs HB.out.size (chgV c) 0 _ (HB.out.alloc HB.out.size (.cells #[.string ⟨#[]⟩, .string ⟨#[]⟩, .int .i64 0, .string ⟨#[]⟩, .string ⟨#[]⟩, .int .i64 0, .string ⟨#[]⟩] 58)))
          change Hid (Cb ((wr.alloc (.cells #[.string ⟨#[]⟩, .string ⟨#[]⟩, .int .i64 0, .string ⟨#[]⟩, .string ⟨#[]⟩, .int .i64 0, .string ⟨#[]⟩] 58)).setCells wr.heap.size 0 (chgV c).toArray.toList) wr.heap.size c) at HC4
          change Hid (Below w.heap.size w ((wr.alloc (.cells #[.string ⟨#[]⟩, .string ⟨#[]⟩, .int .i64 0, .string ⟨#[]⟩, .string ⟨#[]⟩, .int .i64 0, .string ⟨#[]⟩] 58)).setCells wr.heap.size 0 (chgV c).toArray.toList)) at HB4
          have HSC := hid (HST.out c hcm)
          obtain ⟨s, HSS⟩ : ∃ s, Hid (stP t c.1 = s) := ⟨_, rfl⟩
          rw [HSS.out] at HSC
          unfold entA at HSC
          have hg := entG
          have hne := fun W => neq_ent s c.2.1 W
          have HBAD := hid (fun (hx : ¬ s = c.2.1) => show apP t cs = .error 8 from by
            unfold apP
            rw [if_neg (by simpa using HE0.out), if_neg (by rw [HMB.out]; simp), if_pos ?_]
            rw [List.any_eq_true]
            exact ⟨c, hcm, by rw [HSS.out]; simpa using hx⟩)
          have HGO := hid (fun (hx : s = c.2.1) j (hj : j < k + 1) => show stP t (cs.getD j zC).1 = (cs.getD j zC).2.1 from by
            rcases Nat.lt_or_ge j k with h1 | h1
            · exact HSK.out j h1
            · obtain rfl : j = k := by omega
              rw [HCD.out, HSS.out, hx])
          clear hrl hcm hgl
          go_wp2_with (first | (refine wpList_load_mid (by rfl) 58 (.tmp 24) (by rfl) g (o + k * 7) (by rfl) (chgV c) _ HRL.out HU.out rfl HI.out ?_; clear HRL) | (refine wpList_store_mid (by rfl) 58 (.tmp 8) (.tmp 25) (by rfl) wr.heap.size 0 (chgV c).toArray (by rfl) (by rfl) HT.out HI.out HO.out ?_; clear HT; obtain ⟨w4, hw4⟩ : ∃ w4, w4 = (wr.alloc (.cells #[.string ⟨#[]⟩, .string ⟨#[]⟩, .int .i64 0, .string ⟨#[]⟩, .string ⟨#[]⟩, .int .i64 0, .string ⟨#[]⟩] 58)).setCells wr.heap.size 0 (chgV c).toArray.toList := ⟨_, rfl⟩; rw [← hw4] at HC4 HB4 ⊢; clear hw4; obtain ⟨C, HC⟩ : ∃ C : Nat, Hid (wr.heap.size = C) := ⟨_, rfl⟩; rw [HC.out] at HC4 ⊢))
          try simp only [Act.put]
          have HLT := hid HC4.out.lt
          obtain ⟨z0, z1, z2, z3, z4, z5, z6⟩ := HC4.out.at
          have x0 := fun p : Bel w4 => p.cell z0 HLT.out
          have x1 := fun p : Bel w4 => p.cell z1 HLT.out
          have x2 := fun p : Bel w4 => p.cell z2 HLT.out
          have x3 := fun p : Bel w4 => p.cell z3 HLT.out
          have ib : Nonempty (Bel w4) := bel_some w4
          have HS5 := hid (fun p : Bel w4 => HSC.out p.out (below_then HB4.out p.bel))
          clear z0 z1 z2 z3 z4 z5 z6 HSC
          by_cases hx : s = c.2.1
          · have HGO2 := hid (HGO.out hx)
            rw [decide_eq_true hx] at hne
            clear hx HGO HBAD
            refine wp_region_quiet_bel (by kernel_rfl) (by kernel_rfl) ?_
            repeat (go_big_quiet_step (first | (go_at_call 25; exact bel_of (HS5.out _))))
            refine wpQuiet_nil ?_
            rintro w5 ⟨⟨w5', hb5⟩, hw5⟩
            obtain rfl : w5 = w5' := hw5
            have HB5 := hid (below_then HB4.out hb5)
            clear hb5 x0 x1 x2 x3 ib HS5
            go_wp2
            exact ⟨⟨k + 1, by simp, by omega, HGO2.out, HB5.out⟩, by simp [intOf]; omega⟩
          · have HBD := hid (HBAD.out hx)
            rw [decide_eq_false hx] at hne
            clear hx HGO HBAD
            refine wp_region_quiet_bel (by kernel_rfl) (by kernel_rfl) ?_
            repeat (go_big_quiet_step (first | (go_at_call 25; exact bel_of (HS5.out _))))
            refine wpQuiet_nil ?_
            rintro w5 ⟨⟨w5', hb5⟩, hw5⟩
            obtain rfl : w5 = w5' := hw5
            have HB5 := hid (below_then HB4.out hb5)
            clear hb5 x0 x1 x2 x3 ib HS5
            go_wp2
            go_ret2
            rw [HBD.out]
            exact ⟨rfl, HB5.out⟩
        · have q1 : ¬ (k : Int) < (cs.length : Int) := by omega
          obtain rfl : k = cs.length := by omega
          have HAP := hid (show apP t cs = if (chkP (chgd t cs)).2 ≠ 0 then .error (chkP (chgd t cs)).2 else .ok (chgd t cs) from by
            unfold apP
            rw [if_neg (by simpa using HE0.out), if_neg (by rw [HMB.out]; simp), if_neg ?_]
            rw [List.any_eq_true]
            rintro ⟨c, hc, hd⟩
            obtain ⟨j, hj, rfl⟩ := List.getElem_of_mem hc
            have := HSK.out j hj
            rw [List.getD_eq_getElem?_getD, List.getElem?_eq_getElem hj] at this
            simp only [Option.getD_some] at this
            simp [this] at hd)
          have HMN := hid (chgd_short HRT.out.may HMB.out)
          have HLN := hid (chgd_len cs t)
          have HMT := hid HRT.out.many
          have HC5 := hid (HCH.out wr HB.out)
          clear HSK HCH HST HAL
          generalize chgd t cs = nx at *
          go_wp2_with fail
          refine HC5.out.mono ?_
          rintro r w5 ⟨v5, rfl, ho5, hb5⟩
          have HB5 := hid (below_then HB.out hb5)
          have HEN := hid ho5.ents
          obtain ⟨a5, c5, e5⟩ := ho5.ents.shape
          obtain ⟨n5, HN5⟩ : ∃ n : Nat, Hid (nx.length = n) := ⟨_, rfl⟩
          rw [HN5.out] at e5
          subst e5
          obtain ⟨E1, HE1⟩ : ∃ E : Int, Hid ((chkP nx).2 = E) := ⟨_, rfl⟩
          have HR2 := hid (right_one _ nx w5 HEN.out (may_short HMN.out) (by have := HLN.out; have := HMT.out; omega) E1 HE1.out)
          have HOW := hid (fun W (hW : Below w5.heap.size w5 W) => own_any _ nx W (HEN.out.below hW) (by have := HLN.out; have := HMT.out; omega) (fun e he => may_shr' (HMN.out e he)))
          rw [HE1.out] at HAP
          clear ho5 hb5 HC5
          go_wp2_with fail
          refine HR2.out.mono ?_
          rintro r w6 ⟨rfl, hb6⟩
          have HB6 := hid (below_then HB5.out hb6)
          have HOW6 := hid (HOW.out w6 hb6)
          clear hb6 HR2 HOW
          by_cases h1 : E1 = 0
          · subst h1
            rw [if_neg (by simp)] at HAP
            go_wp2_with fail
            refine HOW6.out.mono ?_
            rintro r w7 ⟨v7, rfl, ho7, hb7⟩
            have HB7 := hid (below_then HB6.out hb7)
            have HO7 := hid (ho7.le HB6.out.size)
            obtain ⟨a7, n7, c7, e7⟩ : ∃ a n c, v7 = .slice a n c := by obtain ⟨a, c, e⟩ := ho7.ents.shape; exact ⟨a, _, c, e⟩
            subst e7
            clear ho7 hb7
            go_wp2
            go_ret2
            rw [HAP.out]
            exact ⟨⟨_, rfl, HO7.out⟩, HB7.out⟩
          · rw [if_pos h1] at HAP
            have e1 : (E1 == 0) = false := by simpa using h1
            go_wp2
            go_ret2
            rw [HAP.out]
            exact ⟨rfl, HB6.out⟩
  · have HAP := hid (show apP t cs = .error E0 from by unfold apP; rw [HE0.out, if_pos h0])
    have e1 : (E0 == 0) = false := by simpa using h0
    clear h0 HMY
    go_enter Try.func10, Try.ntmps10
    go_wp2_with fail
    refine HR.out.mono ?_
    rintro r w1 ⟨rfl, hb1⟩
    have HB1 := hid hb1
    clear hb1 HR
    go_wp2
    go_ret2
    rw [HAP.out]
    exact ⟨rfl, HB1.out⟩

end Go.Proofs.Ytgldmepmeampeab

/- TreeLeads answers true. -/
namespace Go.Proofs.Ytgldmepmeampeab
open Go.RowKit

theorem okC_short {c : Chg} (h : okC c = true) : c.1.length ≤ 4611686018427387904 ∧ c.2.1.1.length ≤ 4611686018427387904 ∧ c.2.2.1.length ≤ 4611686018427387904 := by
  have h0 := okP_short (okC_path h).1
  have hs : ∀ e : Ent, sidP e c.1 = true → e.1.length ≤ 4611686018427387904 := by
    intro e he
    unfold sidP at he
    simp only [Bool.or_eq_true, Bool.and_eq_true, decide_eq_true_eq] at he
    rcases he with he | he
    · rw [he]; simp [zE]
    · rw [he.1]; omega
  unfold okC at h
  simp only [Bool.and_eq_true] at h
  exact ⟨by omega, hs _ h.1.2, hs _ h.2⟩

set_option maxRecDepth 100000 in
set_option maxHeartbeats 4000000 in
theorem lawLeads_any (va vb : Value) (a b : List Ent) (w : World) (ha : Ents w va a) (hb : Ents w vb b) (hsa : Short a) (hsb : Short b) (hna : a.length ≤ 140737488355327) (hnb : b.length ≤ 140737488355327) :
    Calls Try.prog 3 #[va, vb] w fun e w' => e = .returned (.bool true) ∧ Below w.heap.size w w' := by
  have H1 := hid (tcheck_any va a w ha hsa (by omega))
  have H2 := hid (fun W (hW : Below w.heap.size w W) => tcheck_any vb b W (hb.below hW) hsb (by omega))
  have H3 := hid (fun W (hW : Below w.heap.size w W) => diff_any va vb a b W (ha.below hW) (hb.below hW) hsa hsb (by omega) (by omega))
  have HAW := hid alive_any
  have HSA := hid (fun W (hW : Below w.heap.size w W) => rsame_any va vb a b W (ha.below hW) (hb.below hW) (by omega))
  have HEA := hid ha
  have HEB := hid hb
  obtain ⟨ao, ca, rfl⟩ := ha.shape
  obtain ⟨bo, cb, rfl⟩ := hb.shape
  obtain ⟨Ea, HEa⟩ : ∃ E : Int, Hid ((chkP a).2 = E) := ⟨_, rfl⟩
  obtain ⟨Eb, HEb⟩ : ∃ E : Int, Hid ((chkP b).2 = E) := ⟨_, rfl⟩
  rw [HEa.out] at H1
  rw [HEb.out] at H2
  generalize (chkP a).1 = Na at *
  generalize (chkP b).1 = Nb at *
  by_cases hr : Ea = 0 ∧ Eb = 0
  · obtain ⟨rfl, rfl⟩ := hr
    have hra := rgt_iff.1 HEa.out
    have hrb := rgt_iff.1 HEb.out
    have HDF := hid (show dfP a b = .ok (difP a b) from by unfold dfP; rw [if_neg (by simpa using HEa.out), if_neg (by simpa using HEb.out)])
    rw [HDF.out] at H3
    have hml := (dif_leads _ a b (Nat.le_refl _) hra.up hrb.up hra.may hrb.may).2.2 [] (ahead_all hra.may) (ahead_all hrb.may)
    have HLN := hid (show (difP a b).length ≤ 2048 from by have := difP_len _ a b (Nat.le_refl _); have := hra.many; have := hrb.many; omega)
    have HAP := hid (fun v W (hW : Below w.heap.size w W) (hc : Chgs W v (difP a b)) => apply_any _ v a (difP a b) W (HEA.out.below hW) hc hsa (by omega) (fun c hc => okC_short (mayC_all hml c hc)) (by have := HLN.out; omega))
    rw [apP_dif hra hrb] at HAP
    have HNO := hid (dif_none hra hrb)
    have HSB := hid (fun v W (hW : Below w.heap.size w W) (hc : Ents W v b) => rsame_any v _ b b W hc (HEB.out.below hW) (by omega))
    rw [decide_eq_true rfl] at HSB
    clear hml hra hrb ha hb hsa hsb HDF
    generalize difP a b = D at *
    go_enter Try.func3, Try.ntmps3
    go_wp2_with fail
    refine H1.out.mono ?_
    rintro r w1 ⟨rfl, hb1⟩
    have HB1 := hid hb1
    clear hb1 H1
    go_wp2_with fail
    refine (H2.out w1 HB1.out).mono ?_
    rintro r w2 ⟨rfl, hb2⟩
    have HB2 := hid (below_then HB1.out hb2)
    clear hb2 H2 HB1
    go_wp2_with fail
    refine (H3.out w2 HB2.out).mono ?_
    rintro r w3 ⟨⟨v3, rfl, ho3⟩, hb3⟩
    have HB3 := hid (below_then HB2.out hb3)
    have HC3 := hid ho3.chgs
    obtain ⟨a3, c3, e3⟩ := ho3.chgs.shape
    obtain ⟨n3, HN3⟩ : ∃ n : Nat, Hid (D.length = n) := ⟨_, rfl⟩
    rw [HN3.out] at e3
    subst e3
    clear ho3 hb3 H3 HB2
    go_wp2_with fail
    refine (HAP.out _ w3 HB3.out HC3.out).mono ?_
    rintro r w4 ⟨⟨v4, rfl, ho4⟩, hb4⟩
    have HB4 := hid (below_then HB3.out hb4)
    have HS4 := hid (HSB.out v4 w4 HB4.out ho4.ents)
    obtain ⟨a4, n4, c4, e4⟩ : ∃ a n c, v4 = .slice a n c := by obtain ⟨a, c, e⟩ := ho4.ents.shape; exact ⟨a, _, c, e⟩
    subst e4
    clear ho4 hb4 HAP HB3 HSB
    by_cases hab : a = b
    · have hD : n3 = 0 := by rw [← HN3.out, HNO.out.2 hab]; rfl
      subst hD
      rw [decide_eq_true hab] at HSA
      clear hab HNO
      go_wp2_with fail
      refine HS4.out.mono ?_
      rintro r w5 ⟨rfl, q5, rfl⟩
      have HB5 := hid (below_n HB4.out q5)
      have HSA5 := hid (HSA.out _ HB5.out)
      generalize w4.drewN q5 = w5 at *
      clear HS4 HSA
      go_wp2_with fail
      refine HSA5.out.mono ?_
      rintro r w6 ⟨rfl, q6, rfl⟩
      have HB6 := hid (below_n HB5.out q6)
      generalize w5.drewN q6 = w6 at *
      clear HSA5
      go_wp2_with (go_at_call 9; refine (HAW.out _).mono ?_; rintro r w7 ⟨rfl, hb7⟩)
      go_ret
      exact ⟨rfl, below_then HB6.out hb7⟩
    · have hD : ¬ n3 = 0 := fun h => hab (HNO.out.1 (List.length_eq_zero_iff.1 (HN3.out.trans h)))
      have hD2 : ((n3 : Int) == 0) = false := by simp; exact hD
      have hD3 : ¬ (n3 : Int) = 0 := by omega
      rw [decide_eq_false hab] at HSA
      clear hab HNO
      go_wp2_with fail
      refine HS4.out.mono ?_
      rintro r w5 ⟨rfl, q5, rfl⟩
      have HB5 := hid (below_n HB4.out q5)
      have HSA5 := hid (HSA.out _ HB5.out)
      generalize w4.drewN q5 = w5 at *
      clear HS4 HSA
      go_wp2_with fail
      refine HSA5.out.mono ?_
      rintro r w6 ⟨rfl, q6, rfl⟩
      have HB6 := hid (below_n HB5.out q6)
      generalize w5.drewN q6 = w6 at *
      clear HSA5
      go_wp2_with (go_at_call 9; refine (HAW.out _).mono ?_; rintro r w7 ⟨rfl, hb7⟩)
      go_ret
      exact ⟨rfl, below_then HB6.out hb7⟩
  · obtain ⟨E, hE, hE0⟩ : ∃ E : Int, dfP a b = .error E ∧ E ≠ 0 := by
      by_cases h1 : Ea = 0
      · exact ⟨Eb, by unfold dfP; rw [HEa.out, if_neg (by simpa using h1), HEb.out, if_pos (fun h => hr ⟨h1, h⟩)], fun h => hr ⟨h1, h⟩⟩
      · exact ⟨Ea, by unfold dfP; rw [HEa.out, if_pos h1], h1⟩
    rw [hE] at H3
    have e0 : (E == 0) = false := by simpa using hE0
    have HE0 := hid (show (E != 0) = true by simpa using hE0)
    clear ha hb hsa hsb hE HSA
    by_cases h1 : Ea = 0
    · subst h1
      have h2 : Eb ≠ 0 := fun h => hr ⟨rfl, h⟩
      have e2 : (Eb == 0) = false := by simpa using h2
      clear hr
      go_enter Try.func3, Try.ntmps3
      go_wp2_with fail
      refine H1.out.mono ?_
      rintro r w1 ⟨rfl, hb1⟩
      have HB1 := hid hb1
      clear hb1 H1
      go_wp2_with fail
      refine (H2.out w1 HB1.out).mono ?_
      rintro r w2 ⟨rfl, hb2⟩
      have HB2 := hid (below_then HB1.out hb2)
      clear hb2 H2 HB1
      go_wp2_with fail
      refine (H3.out w2 HB2.out).mono ?_
      rintro r w3 ⟨hr3, hb3⟩
      obtain rfl : r = .returned (.tuple #[.slice none 0 0, .int .i64 E]) := hr3
      have HB3 := hid (below_then HB2.out hb3)
      clear hb3 H3
      go_wp2_with (go_at_call 9; refine (HAW.out _).mono ?_; rintro r w7 ⟨rfl, hb7⟩)
      go_ret
      exact ⟨ret_bb HE0.out, below_then HB3.out hb7⟩
    · have e1 : (Ea == 0) = false := by simpa using h1
      clear hr
      go_enter Try.func3, Try.ntmps3
      go_wp2_with fail
      refine H1.out.mono ?_
      rintro r w1 ⟨rfl, hb1⟩
      have HB1 := hid hb1
      clear hb1 H1
      go_wp2_with fail
      refine (H2.out w1 HB1.out).mono ?_
      rintro r w2 ⟨rfl, hb2⟩
      have HB2 := hid (below_then HB1.out hb2)
      clear hb2 H2 HB1
      go_wp2_with fail
      refine (H3.out w2 HB2.out).mono ?_
      rintro r w3 ⟨hr3, hb3⟩
      obtain rfl : r = .returned (.tuple #[.slice none 0 0, .int .i64 E]) := hr3
      have HB3 := hid (below_then HB2.out hb3)
      clear hb3 H3
      go_wp2_with (go_at_call 9; refine (HAW.out _).mono ?_; rintro r w7 ⟨rfl, hb7⟩)
      go_ret
      exact ⟨ret_bb HE0.out, below_then HB3.out hb7⟩

end Go.Proofs.Ytgldmepmeampeab
