/- Texts as lists of bytes; slices of texts in memory, of one's own or wherever they lie. -/
import Derived.Test.YtoehopigjmmagaaDoorSBase
import Derived.Test.YtoehopigjmmagaaDoorPPure
namespace Go.Proofs.YtoehopigjmmagaaDoor
open Go.RowKit

/-- a text's bytes, and the text of bytes -/
def bl (s : ByteArray) : List UInt8 := s.toList
def mk (l : List UInt8) : ByteArray := ⟨l.toArray⟩
theorem bl_eq (s : ByteArray) : bl s = s.data.toList := ByteArray.toList_eq s
theorem bl_mk (l : List UInt8) : bl (mk l) = l := ByteArray.toList_mk l
theorem mk_bl (s : ByteArray) : mk (bl s) = s := by
  rw [bl_eq]; exact Lib.mk_data s
theorem bl_size (s : ByteArray) : s.size = (bl s).length := by rw [bl_eq]; exact Lib.size_eq s
theorem mk_size (l : List UInt8) : (mk l).size = l.length := by rw [bl_size, bl_mk]
theorem bl_inj {s t : ByteArray} (h : bl s = bl t) : s = t := by rw [← mk_bl s, h, mk_bl]
theorem mk_inj {a b : List UInt8} (h : mk a = mk b) : a = b := by rw [← bl_mk a, h, bl_mk]
theorem ext_bl (s : ByteArray) (a b : Nat) : s.extract a b = mk (((bl s).take b).drop a) := by
  rw [bl_eq, Lib.extract_eq, List.drop_take]
  rfl

theorem hp_new (w : World) (o : Obj) : (w.alloc o).heap[w.heap.size]? = some o := heap_alloc_last w o
theorem hp_lt {w : World} {b : Nat} {o : Obj} (h : w.heap[b]? = some o) : b < w.heap.size := (Array.getElem?_eq_some_iff.1 h).1

theorem Tryd.infoStr : (Tryd.prog.info? 9).map (fun i => (i.zero, i.size, i.bytes)) = some (some (.string ⟨#[]⟩), 1, 16) := by kernel_rfl

def strV (ts : List (List UInt8)) : List Value := ts.map fun t => Value.string (mk t)
theorem strV_length (ts : List (List UInt8)) : (strV ts).length = ts.length := by simp [strV]
theorem strV_one (ts : List (List UInt8)) : ∀ u ∈ strV ts, u.oneCell' = true := by
  intro u hu
  simp only [strV, List.mem_map] at hu
  obtain ⟨c, _, rfl⟩ := hu
  rfl
theorem strV_get (ts : List (List UInt8)) (j : Nat) (hj : j < ts.length) : (strV ts)[j]? = some (.string (mk (ts.getD j []))) := by
  simp [strV, List.getD_eq_getElem?_getD, hj]

/-- v is a slice that holds the texts ts, wherever they lie -/
def Strs (w : World) (v : Value) (ts : List (List UInt8)) : Prop :=
  (∃ ao c, v = .slice ao 0 c ∧ ts = [] ∧ (ao = none → c = 0)) ∨ ∃ g o c, v = .slice (some ⟨g, o, none⟩) ts.length c ∧ g < w.heap.size ∧ ts.length ≤ c ∧ ∀ j, j < ts.length → w.cell? ⟨g, o + j, none⟩ = some (.string (mk (ts.getD j [])))
theorem Strs.below {w w' : World} {v : Value} {ts : List (List UInt8)} (h : Strs w v ts) (hb : Below w.heap.size w w') : Strs w' v ts := by
  rcases h with h | ⟨g, o, c, hv, hlt, h1, hc⟩
  · exact Or.inl h
  · exact Or.inr ⟨g, o, c, hv, Nat.lt_of_lt_of_le hlt hb.size, h1, fun j hj => by rw [hb.cell (p := ⟨g, o + j, none⟩) hlt]; exact hc j hj⟩
theorem Strs.shape {w : World} {v : Value} {ts : List (List UInt8)} (h : Strs w v ts) : ∃ ao c, v = .slice ao ts.length c := by
  rcases h with ⟨ao, c, hv, rfl, _⟩ | ⟨g, o, c, hv, _⟩
  · exact ⟨ao, c, hv⟩
  · exact ⟨_, _, hv⟩
theorem Strs.at {w : World} {ao : Option Addr} {n c : Nat} {ts : List (List UInt8)} (h : Strs w (.slice ao n c) ts) (k : Nat) (hk : k < ts.length) :
    ∃ g o, ao = some ⟨g, o, none⟩ ∧ w.cell? ⟨g, o + k, none⟩ = some (.string (mk (ts.getD k []))) := by
  rcases h with ⟨_, _, _, h0, _⟩ | ⟨g, o, c, hv, _, _, hc⟩
  · rw [h0] at hk; simp at hk
  · injection hv with h1 _ _
    exact ⟨g, o, h1, hc k hk⟩

/-- v owns the texts ts, in memory from block 'base' on -/
def OwnS (w : World) (base : Nat) (v : Value) (ts : List (List UInt8)) : Prop := w.ownsRow base 9 1 v ts.length (strV ts)
theorem OwnS.nil (w : World) (base : Nat) : OwnS w base (.slice none 0 0) [] := World.ownsRow_nil _ _ _ _
theorem OwnS.lt {w : World} {base : Nat} {v : Value} {ts : List (List UInt8)} (h : OwnS w base v ts) : ∀ k, v.ownBlock = some k → base ≤ k ∧ k < w.heap.size := World.ownsRow.lt h
theorem OwnS.kept {w w' : World} {base : Nat} {v : Value} {ts : List (List UInt8)} {row : Option Nat} (h : OwnS w base v ts) (hg : w.grownBy w' row) (hne : v.ownBlock = none ∨ v.ownBlock ≠ row) : OwnS w' base v ts := World.ownsRow.kept h hg hne
theorem OwnS.below {w w' : World} {base : Nat} {v : Value} {ts : List (List UInt8)} (h : OwnS w base v ts) (hb : Below w.heap.size w w') : OwnS w' base v ts :=
  World.ownsRow.kept h (below_gb hb none) (by cases e : v.ownBlock <;> simp)
theorem OwnS.le {w : World} {base base' : Nat} {v : Value} {ts : List (List UInt8)} (h : OwnS w base v ts) (hb : base' ≤ base) : OwnS w base' v ts :=
  ⟨h.1, h.2.elim Or.inl (fun ⟨g, cap, cur, hv, hg, r⟩ => Or.inr ⟨g, cap, cur, hv, Nat.le_trans hb hg, r⟩)⟩
theorem OwnS.forms {w : World} {base : Nat} {v : Value} {ts : List (List UInt8)} (h : OwnS w base v ts) :
    (v = .slice none 0 0 ∧ ts = []) ∨ ∃ g cap, v = .slice (some ⟨g, 0, none⟩) ts.length cap ∧ base ≤ g ∧ g < w.heap.size ∧ ts.length ≤ cap ∧ cap ≤ maxLen ∧ (∀ j, w.frozen? ⟨g, j, none⟩ = false) ∧ ∀ j, j < ts.length → w.cell? ⟨g, j, none⟩ = some (.string (mk (ts.getD j []))) := by
  have h' := h
  rcases h.2 with ⟨h0, h1⟩ | ⟨g, cap, cur, hv, hb, hh, h1, h2, _, _⟩
  · exact Or.inl ⟨h0, List.length_eq_zero_iff.1 h1⟩
  · refine Or.inr ⟨g, cap, hv, hb, ?_, h1, h2, ?_, ?_⟩
    · exact (World.ownsRow.lt h' g (by rw [hv]; rfl)).2
    · intro j; simp [World.frozen?, hh]
    · intro j hj
      have := World.ownsRow.cells h' (g := g) (by rw [hv]; rfl) j _ (strV_get ts j hj)
      rw [addr_add] at this
      exact this
theorem OwnS.strs {w : World} {base : Nat} {v : Value} {ts : List (List UInt8)} (h : OwnS w base v ts) : Strs w v ts := by
  rcases h.forms with ⟨rfl, rfl⟩ | ⟨g, cap, rfl, h1, h2, h3, h4, h5, h6⟩
  · exact Or.inl ⟨_, _, rfl, rfl, fun _ => rfl⟩
  · exact Or.inr ⟨g, 0, cap, rfl, h2, h3, fun j hj => by rw [Nat.zero_add]; exact h6 j hj⟩
/-- a row that was laid at once -/
theorem OwnS.made {w : World} {g base : Nat} {ts : List (List UInt8)} (hb : w.heap[g]? = some (.cells (strV ts).toArray 9 (0, 0))) (hl : ts.length ≤ 1099511627776) (hg : base ≤ g) (n : Nat) (hn : n = ts.length) :
    OwnS w base (.slice (some ⟨g, 0, none⟩) n n) ts := by
  subst hn
  refine ⟨by simp [strV], Or.inr ⟨g, ts.length, (strV ts).toArray, rfl, hg, hb, Nat.le_refl _, by unfold maxLen; omega, ?_, ?_⟩⟩
  · simp [strV]
  · rw [Nat.mul_one, ← strV_length ts, List.take_length]
/-- without the last ones -/
theorem OwnS.take {w : World} {base g cap : Nat} {ts : List (List UInt8)} (h : OwnS w base (.slice (some ⟨g, 0, none⟩) ts.length cap) ts) (n : Nat) (hn : n ≤ ts.length) : OwnS w base (.slice (some ⟨g, 0, none⟩) n cap) (ts.take n) := by
  obtain ⟨h0, h | ⟨g', cap', cur, hv, hb, hh, h1, h2, h3, h4⟩⟩ := h
  · cases h.1
  · injection hv with e1 e2 e3
    injection e1 with e1
    injection e1 with e1
    subst e1 e3
    have el : (ts.take n).length = n := by rw [List.length_take]; omega
    unfold OwnS
    rw [el]
    refine ⟨by rw [strV_length, el]; omega, Or.inr ⟨g, cap, cur, rfl, hb, hh, by omega, h2, h3, ?_⟩⟩
    have e : strV (ts.take n) = (strV ts).take n := by simp [strV, List.map_take]
    rw [e, ← h4, List.take_take]
    congr 1
    omega

/-- where an append lies: where it lay, or at the end -/
theorem app_place {P : Program} (w : World) (base : Nat) (t ty e : TypeId) (i : TypeInfo) (z : Value) (size bytes : Nat) (ht : P.underlying t = some (.slice e)) (hi : P.info? e = some i) (hz : i.zero = some z)
    (hsize : i.size = size) (hby : i.bytes = bytes)
    (v : Value) (n : Nat) (xs : List Value) (hown : w.ownsRow base e size v n xs)
    (a : Addr) (m c : Nat) (news : List Value) (hl : news.length = m * size) (hnews : ∀ j u, news[j]? = some u → w.cell? (a.add j) = some u) (h1 : ∀ u ∈ news, u.oneCell' = true)
    (h63 : n + m ≤ maxLen) (hbytes : (n + m) * bytes ≤ 140737488355328) (v' : Value) (w' : World)
    (hr : (Builtin.append_ #[t, t] ty #[v, .slice (some a) m c]).run P w = .ok v' w') : v'.ownBlock = v.ownBlock ∨ v'.ownBlock = some w.heap.size := by
  subst hsize
  subst hby
  have hsmall : n + m ≤ 9223372036854775807 := by simp only [maxLen] at h63; omega
  rcases hown.2 with ⟨rfl, rfl⟩ | ⟨g, cap, cur, rfl, hbg, hg, hnc, hcm, hcs, htake⟩
  · by_cases hm : m = 0
    · subst hm
      simp [Builtin.append_, run_underlying ht, sizeOf, typeInfo, hi, Builtin.lenOf, Builtin.firstCells, loadCells, loadCellsFrom] at hr
      rw [← hr.1]
      exact Or.inl rfl
    · have hr2 := run_append_nil (P := P) w t ty e i z ht hi hz a m c news hl hnews (by omega) (by omega) (by have hb := hbytes; simp only [Nat.zero_add] at hb; omega)
      rw [hr] at hr2
      injection hr2 with e1 e2
      rw [e1]
      exact Or.inr rfl
  · by_cases hroom : n + m ≤ cap
    · have hfit : n * i.size + news.length ≤ cur.size := by rw [hl, hcs, ← Nat.add_mul]; exact Nat.mul_le_mul_right _ hroom
      have hr2 := run_append_room (P := P) w t ty e i ht hi g n cap cur hg a m c news hl hnews h1 hroom hfit
      rw [hr] at hr2
      injection hr2 with e1 e2
      rw [e1]
      exact Or.inl rfl
    · have holds : ∀ j u, xs[j]? = some u → w.cell? ((⟨g, 0, none⟩ : Addr).add j) = some u := hown.cells (g := g) rfl
      have hr2 := run_append_grow (P := P) w t ty e i z ht hi hz ⟨g, 0, none⟩ n cap xs hown.1 holds a m c news hl hnews (by omega) (by omega) (growslice_fits (by omega) hbytes)
      rw [hr] at hr2
      injection hr2 with e1 e2
      rw [e1]
      exact Or.inr rfl

/-- append(own, texts...) -/
theorem app_text {w : World} {ops : Array Oper} {rest : List Oper} {o : Oper} {a : Act} {Q : Exit → Act → World → Prop} (hgd : o.guard = none) (s x : Operand)
    (ho : o.op = .call { callee := .builtin .append, args := #[s, x], argTypes := #[22, 22] })
    (base : Nat) (v : Value) (ts : List (List UInt8)) (hs : a.eval s = v) (hown : OwnS w base v ts) (us : List (List UInt8)) (vx : Value) (hx : a.eval x = vx) (hc : Strs w vx us)
    (hlen : ts.length + us.length ≤ 8796093022208) (hbase : base ≤ w.heap.size)
    (h : ∀ v' w', OwnS w' base v' (ts ++ us) → w.grownBy w' v.ownBlock → (v'.ownBlock = v.ownBlock ∨ v'.ownBlock = some w.heap.size) → wpList Tryd.prog ops Q rest (a.put o.dst v') w') : wpList Tryd.prog ops Q (o :: rest) a w := by
  obtain ⟨i0, hi, hz0, hz1, hz2⟩ := info_parts Tryd.infoStr
  have fin : ∀ (ad : Addr) (m c : Nat) (news : List Value), news = strV us → vx = .slice (some ad) m c → m = us.length → (∀ j u, news[j]? = some u → w.cell? (ad.add j) = some u) → wpList Tryd.prog ops Q (o :: rest) a w := by
    intro ad m c news hn hv hm hcl
    subst hn hv hm
    refine wpList_plain hgd fun K hK => ?_
    have hl : (strV us).length = us.length * 1 := by rw [strV_length]; omega
    obtain ⟨v', w', hr, h2, h3, _⟩ := run_append_own (P := Tryd.prog) w base 22 o.type 9 i0 (.string ⟨#[]⟩) 1 16 Tryd.underlying22 hi hz0 hz1 hz2 rfl (by decide) v ts.length (strV ts) hown ad us.length c (strV us) hl hcl (strV_one us) (by unfold maxLen; omega) (by omega) hbase
    have hp := app_place (P := Tryd.prog) w base 22 o.type 9 i0 (.string ⟨#[]⟩) 1 16 Tryd.underlying22 hi hz0 hz1 hz2 v ts.length (strV ts) hown ad us.length c (strV us) hl hcl (strV_one us) (by unfold maxLen; omega) (by omega) v' w' hr
    unfold Oper.wp execOp
    simp only [ho, resolve, invoke, builtin, Sem.run_bind, Sem.run_pure, Result.andThen_ok, List.map_toArray, List.map_cons, List.map_nil, hs, hx, hr]
    refine hK _ _ (h v' w' ?_ h3 hp)
    unfold OwnS
    rw [List.length_append, show strV (ts ++ us) = strV ts ++ strV us by simp [strV]]
    exact h2
  rcases hc with ⟨ao, c, rfl, rfl, h0⟩ | ⟨g, off, c, rfl, hlt, h1, h2⟩
  · cases ao with
    | none =>
      obtain rfl := h0 rfl
      refine wpList_append_own_none hgd s x 22 ho base 9 i0 1 Tryd.underlying22 hi v ts.length _ hs hown hx ?_
      exact h v w (by simpa using hown) (gb_refl _ _) (Or.inl rfl)
    | some ad => exact fin ad 0 c [] rfl rfl rfl (fun j u hj => by simp at hj)
  · refine fin ⟨g, off, none⟩ _ c _ rfl rfl rfl ?_
    intro j u hj
    have hjl : j < us.length := by
      rcases Nat.lt_or_ge j us.length with h | h
      · exact h
      · rw [List.getElem?_eq_none (by rw [strV_length]; exact h)] at hj; cases hj
    rw [strV_get us j hjl] at hj
    have hj := Option.some.inj hj
    rw [← hj]
    have := h2 j hjl
    rw [show (⟨g, off, none⟩ : Addr).add j = ⟨g, off + j, none⟩ by by_cases h0 : j = 0 <;> simp [Addr.add, h0]]
    exact this

/-- a slice's beginning -/
theorem sl_to (ad : Addr) (n cap k : Nat) (hk : k ≤ cap) (W : World) : (Instr.slice 22 (.slice (some ad) n cap) none (some (.int .i64 (k : Int))) none).run Tryd.prog W = .ok (.slice (some ad) k cap) W := by
  have hk2 : (k : Int) ≤ (cap : Int) := by omega
  go_simp

end Go.Proofs.YtoehopigjmmagaaDoor
