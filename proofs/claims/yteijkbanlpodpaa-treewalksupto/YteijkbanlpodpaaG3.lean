/- Contracts and pure facts that the proof needs, joined. -/
import Derived.Test.YteijkbanlpodpaaG2
import Derived.Test.YteijkbanlpodpaaG1
import Derived.RangeFuncBox
import Derived.RangeFuncLeaves
import Derived.RangeFuncNested
import Derived.Shelf.Abstract
import Derived.WalkKit
import Derived.OwnWalkIn
import Derived.TacticsInMore
import Derived.LoopNIn
import Derived.LoopIn
import Derived.Laws.EntriesVeiled
import Derived.Deep.RegionLaw
import Derived.Deep.MidRow
import Derived.Laws.StructEq

/- The program's isDirectory, below and Find. -/
namespace Go.Proofs.Yteijkbanlpodpaa
open Go.RowKit Go.BigFrame

theorem dirP_st {t : List Ent} {p : List UInt8} (h : p ≠ []) : dirP t p = decide ((stP t p).2.1 = 2) := by
  unfold dirP stP
  rw [decide_eq_false h, Bool.false_or]
  cases fdP t p with
  | none => rfl
  | some e => rfl

theorem field_kind (s1 s2 : ByteArray) (K : Int) (W : World) : (Instr.field 25 (.agg #[.string s1, .int .i64 K, .string s2]) 1).run Try.prog W = .ok (.int .i64 K) W := by kernel_rfl

set_option maxRecDepth 100000 in
set_option maxHeartbeats 1000000 in
theorem isDir_any (v : Value) (t : List Ent) (p : List UInt8) (w : World) (h : Ents w v t) (hup : t.Pairwise ltE) (hok : ∀ e ∈ t, okP e.1 = true) (hp : okP p = true) (hn : t.length ≤ 1024) :
    Calls Try.prog 39 #[v, .string (mk p)] w fun r w' => r = .returned (.bool (dirP t p)) ∧ Below w.heap.size w w' := by
  have HS := hid (standing_any v t p w h hup hok hp hn)
  obtain ⟨ao, c, rfl⟩ := h.shape
  unfold entA at HS
  by_cases h0 : p = []
  · have HD := hid (show dirP t p = true from by unfold dirP; rw [decide_eq_true h0]; rfl)
    have e1 : (mk p).toList = [] := by rw [h0]; exact bl_mk []
    clear h hup hok hp h0 HS
    generalize mk p = s at *
    go_enter Try.func39, Try.ntmps39
    go_wp2
    go_ret
    exact ⟨ret_bb HD.out.symm, Below.refl _ _⟩
  · have HD := hid (dirP_st (t := t) h0)
    have e1 : ¬ (mk p).toList = [] := fun h => h0 ((bl_mk p).symm.trans h)
    have e2 : ((mk p).toList == []) = false := by simpa using e1
    have e3 : (mk p).toList.isEmpty = false := by simpa using e1
    obtain ⟨K, HK⟩ : ∃ K : Int, Hid ((stP t p).2.1 = K) := ⟨_, rfl⟩
    rw [HK.out] at HS HD
    clear h hup hok hp h0 HK
    generalize mk (stP t p).1 = s1 at *
    generalize mk (stP t p).2.2 = s2 at *
    generalize mk p = s at *
    have hfk := fun W => field_kind s1 s2 K W
    by_cases hk : K = 2
    · subst hk
      go_enter Try.func39, Try.ntmps39
      go_wp2_with (go_at_call 19; refine HS.out.mono ?_; rintro r w1 ⟨rfl, hb1⟩; have HB1 := hid hb1; clear hb1)
      go_ret
      exact ⟨ret_bb (by rw [HD.out]; rfl), HB1.out⟩
    · have e4 : (K == 2) = false := by simpa using hk
      have HD2 := hid (HD.out.trans (decide_eq_false hk))
      go_enter Try.func39, Try.ntmps39
      go_wp2_with (go_at_call 19; refine HS.out.mono ?_; rintro r w1 ⟨rfl, hb1⟩; have HB1 := hid hb1; clear hb1)
      go_ret
      exact ⟨ret_bb (by rw [HD2.out]), HB1.out⟩

/-- does a path lie below a directory? -/
def lyP (d q : List UInt8) : Bool := decide (d = []) || (d ++ [47]).isPrefixOf q
/-- f tells which paths lie below a directory -/
def Lies (w : World) (f : Value) (d : List UInt8) : Prop :=
  (d = [] ∧ f = .func (.func 60) #[] #[]) ∨ (d ≠ [] ∧ ∃ B, f = .func (.func 61) #[] #[.pointer (some ⟨B, 0, none⟩)] ∧ B < w.heap.size ∧ w.cell? ⟨B, 0, none⟩ = some (.string (mk (d ++ [47]))))
theorem Lies.two {w : World} {f : Value} {d : List UInt8} (h : Lies w f d) (hd : d ≠ []) : ∃ B, f = .func (.func 61) #[] #[.pointer (some ⟨B, 0, none⟩)] ∧ B < w.heap.size ∧ w.cell? ⟨B, 0, none⟩ = some (.string (mk (d ++ [47]))) := by
  rcases h with h | h
  · exact absurd h.1 hd
  · exact h.2
theorem Lies.below {w w' : World} {f : Value} {d : List UInt8} (h : Lies w f d) (hb : Below w.heap.size w w') : Lies w' f d := by
  rcases h with h | ⟨h0, B, h1, h2, h3⟩
  · exact Or.inl h
  · exact Or.inr ⟨h0, B, h1, Nat.lt_of_lt_of_le h2 hb.size, (hb.cell (p := ⟨B, 0, none⟩) h2).trans h3⟩

set_option maxRecDepth 100000 in
set_option maxHeartbeats 1000000 in
theorem below_fn (d : List UInt8) (w : World) (hd : d.length ≤ 4611686018427387904) :
    Calls Try.prog 40 #[.string (mk d)] w fun r w' => ∃ f, r = .returned f ∧ Lies w' f d ∧ Below w.heap.size w w' := by
  by_cases h0 : d = []
  · have HL := hid (show Lies w (.func (.func 60) #[] #[]) d from Or.inl ⟨h0, rfl⟩)
    have e1 : (mk d).toList = [] := by rw [h0]; exact bl_mk []
    clear h0
    generalize mk d = s at *
    go_enter Try.func40, Try.ntmps40
    go_wp2
    go_ret
    exact ⟨_, rfl, HL.out, Below.refl _ _⟩
  · have e1 : ¬ (mk d).toList = [] := fun h => h0 ((bl_mk d).symm.trans h)
    have e2 : ((mk d).toList == []) = false := by simpa using e1
    have e3 : (mk d).toList.isEmpty = false := by simpa using e1
    have hadd := fun W => str_add d [47] (by simp; omega) W
    have HL := hid (show ∀ W : World, W.cell? ⟨w.heap.size, 0, none⟩ = some (.string (mk (d ++ [47]))) → w.heap.size < W.heap.size → Lies W (.func (.func 61) #[] #[.pointer (some ⟨w.heap.size, 0, none⟩)]) d from fun W h1 h2 => Or.inr ⟨h0, _, rfl, h2, h1⟩)
    have HB := hid (below_walk w (.cells #[.string (mk (d ++ [47]))] 9))
    have HN := hid (hp_new w (.cells #[.string (mk (d ++ [47]))] 9))
    change ∀ W, (Op.stringOp .add (mk d) ⟨#[47]⟩).run Try.prog W = .ok (.string (mk (d ++ [47]))) W at hadd
    clear h0
    generalize mk (d ++ [47]) = s2 at *
    generalize mk d = s at *
    go_enter Try.func40, Try.ntmps40
    go_wp2
    go_ret
    exact ⟨_, rfl, HL.out _ (by rw [row_cell HN.out 0]; rfl) (hp_lt HN.out), HB.out⟩

set_option maxRecDepth 100000 in
set_option maxHeartbeats 1000000 in
theorem lies_one (q : List UInt8) (w : World) : Calls Try.prog 60 #[.string (mk q)] w fun r w' => r = .returned (.bool true) ∧ w' = w := by
  generalize mk q = s
  go_enter Try.func60, Try.ntmps60
  go_wp2
  go_ret
  exact ⟨rfl, rfl⟩

set_option maxRecDepth 100000 in
set_option maxHeartbeats 1000000 in
theorem lies_two (B : Nat) (d q : List UInt8) (w : World) (h : w.cell? ⟨B, 0, none⟩ = some (.string (mk (d ++ [47])))) :
    Calls Try.prog 61 #[.string (mk q), .pointer (some ⟨B, 0, none⟩)] w fun r w' => r = .returned (.bool ((d ++ [47]).isPrefixOf q)) ∧ w' = w := by
  have HP := hid (pre_any (mk q) (mk (d ++ [47])) w)
  rw [bl_mk, bl_mk] at HP
  generalize mk (d ++ [47]) = s2 at *
  generalize mk q = s at *
  go_enter Try.func61, Try.ntmps61
  go_wp2_with (go_at_call 62; refine HP.out.mono ?_; rintro r w1 ⟨rfl, rfl⟩)
  go_ret
  exact ⟨rfl, rfl⟩

end Go.Proofs.Yteijkbanlpodpaa

/- What lies below a directory: plainly. -/
namespace Go.Proofs.Yteijkbanlpodpaa

theorem spD_pre {p : List UInt8} (h : okP p = true) (h0 : p ≠ []) (h1 : spD p ≠ []) : ∃ x, p = spD p ++ 47 :: x := by
  obtain ⟨x, hx⟩ := nms_last h h0
  refine ⟨x, ?_⟩
  have h2 : nms (spD p) ≠ [] := fun h3 => h1 (nms_nil.1 h3)
  have h3 := txt_app h2 (r := [x]) (by simp)
  rw [← hx, txt_nms, txt_nms, txt_one] at h3
  exact h3
theorem ly_up {p : List UInt8} {e : Ent} (hm : mayP e = true) (hp : p ≠ []) (h1 : spD e.1 ≠ []) (h : spD e.1 = p ∨ lyP p (spD e.1) = true) : lyP p e.1 = true := by
  obtain ⟨x, hx⟩ := spD_pre (mayP_ok hm) (mayP_ne hm) h1
  unfold lyP at h ⊢
  rw [decide_eq_false hp, Bool.false_or] at h ⊢
  rw [List.isPrefixOf_iff_prefix] at h ⊢
  rcases h with h | h
  · refine ⟨x, ?_⟩
    rw [hx, h]
    simp
  · refine h.trans ⟨47 :: x, ?_⟩
    exact hx.symm
/-- how the law tells what lies under a path -/
theorem under_is {p q : List UInt8} (hp : p ≠ []) : lyP p q = true ↔ p.length < q.length ∧ q.take p.length = p ∧ q.getD p.length 0 = 47 := by
  unfold lyP
  rw [decide_eq_false hp, Bool.false_or, List.isPrefixOf_iff_prefix]
  constructor
  · rintro ⟨r, rfl⟩
    refine ⟨by simp, by simp, ?_⟩
    simp [List.getD_eq_getElem?_getD]
  · rintro ⟨h1, h2, h3⟩
    refine ⟨q.drop (p.length + 1), ?_⟩
    have h4 : q = q.take p.length ++ q.drop p.length := (List.take_append_drop _ _).symm
    have h5 : q.drop p.length = q[p.length] :: q.drop (p.length + 1) := List.drop_eq_getElem_cons h1
    have h6 : q[p.length] = 47 := by
      rw [List.getD_eq_getElem?_getD, List.getElem?_eq_getElem h1] at h3
      exact h3
    rw [h5, h6, h2] at h4
    rw [List.append_assoc]
    exact h4.symm

/-- a path as it is told below a directory -/
def cutP (d p : List UInt8) : List UInt8 := if d = [] then p else p.drop (d.length + 1)
/-- a path below a directory -/
def mvT (d q : List UInt8) : List UInt8 := if d = [] then q else d ++ 47 :: q
def subE (d : List UInt8) (e : Ent) : Ent := (cutP d e.1, e.2)
def mvE (d : List UInt8) (e : Ent) : Ent := (mvT d e.1, e.2)
theorem mv_cut {d p : List UInt8} (h : lyP d p = true) : mvT d (cutP d p) = p := by
  unfold mvT cutP
  by_cases hd : d = []
  · rw [if_pos hd, if_pos hd]
  · rw [if_neg hd, if_neg hd]
    unfold lyP at h
    rw [decide_eq_false hd, Bool.false_or, List.isPrefixOf_iff_prefix] at h
    obtain ⟨r, rfl⟩ := h
    rw [List.append_assoc, ← List.drop_drop, List.drop_left]
    rfl
theorem cut_mv (d q : List UInt8) : cutP d (mvT d q) = q := by
  unfold mvT cutP
  by_cases hd : d = []
  · rw [if_pos hd, if_pos hd]
  · rw [if_neg hd, if_neg hd, ← List.drop_drop, List.drop_left]
    rfl
theorem ly_mv (d q : List UInt8) : lyP d (mvT d q) = true := by
  unfold lyP mvT
  by_cases hd : d = []
  · rw [decide_eq_true hd, Bool.true_or]
  · rw [if_neg hd, decide_eq_false hd, Bool.false_or, List.isPrefixOf_iff_prefix]
    exact ⟨q, by rw [List.append_assoc]; rfl⟩
theorem nms_mv {d q : List UInt8} (h0 : q ≠ []) : nms (mvT d q) = nms d ++ nms q := by
  unfold mvT
  by_cases hd : d = []
  · rw [if_pos hd, hd, nms_e, List.nil_append]
  · rw [if_neg hd]
    unfold nms
    rw [if_neg hd, if_neg h0, if_neg (by simp), pcs_append]
theorem mv_ne {d q : List UInt8} (h0 : q ≠ []) : mvT d q ≠ [] := by
  unfold mvT
  split
  · exact h0
  · simp
theorem cut_ok {d p : List UInt8} (hp : okP p = true) (h0 : p ≠ []) (h : lyP d p = true) : okP (cutP d p) = true ∧ cutP d p ≠ [] ∧ nms p = nms d ++ nms (cutP d p) := by
  have e := mv_cut h
  have hq : cutP d p ≠ [] := by
    intro hq
    rw [hq] at e
    unfold mvT at e
    split at e
    · exact h0 e.symm
    · rename_i hd
      have h1 := ((okP_iff p).1 hp).1 [] (by
        unfold nms
        rw [if_neg h0, ← e, pcs_append]
        exact List.mem_append.2 (Or.inr (by simp [pcs])))
      simp [nmP] at h1
  have hn := nms_mv (d := d) hq
  rw [e] at hn
  have h2 := (okP_iff p).1 hp
  rw [hn] at h2
  refine ⟨(okP_iff _).2 ⟨fun x hx => h2.1 x (List.mem_append.2 (Or.inr hx)), ?_⟩, hq, hn⟩
  have := h2.2
  rw [List.length_append] at this
  omega
theorem mv_ok {d q : List UInt8} (hd : okP d = true) (hq : okP q = true) (h0 : q ≠ []) : okP (mvT d q) = decide ((nms d).length + (nms q).length ≤ 32) := by
  have h1 := ((okP_iff d).1 hd).1
  have h2 := ((okP_iff q).1 hq).1
  unfold okP
  rw [nms_mv h0, List.length_append, show (nms d ++ nms q).all nmP = true from List.all_eq_true.2 (fun x hx => (List.mem_append.1 hx).elim (h1 x) (h2 x)), Bool.true_and]
theorem cmpL_app : ∀ (a x y : List (List UInt8)), cmpL (a ++ x) (a ++ y) = cmpL x y
  | [], x, y => rfl
  | z :: a, x, y => by
    rw [List.cons_append, List.cons_append, show cmpL (z :: (a ++ x)) (z :: (a ++ y)) = if cb z z = 0 then cmpL (a ++ x) (a ++ y) else cb z z from rfl, if_pos (cb_self z), cmpL_app a x y]
theorem ly_self {d : List UInt8} (hd : d ≠ []) : lyP d d = false := by
  cases h : lyP d d with
  | false => rfl
  | true =>
    have := ((under_is hd).1 h).1
    omega
theorem ly_of {d p : List UInt8} {r : List (List UInt8)} (hr : r ≠ []) (h : nms p = nms d ++ r) : lyP d p = true := by
  by_cases h0 : d = []
  · unfold lyP
    rw [decide_eq_true h0, Bool.true_or]
  · have h1 : nms d ≠ [] := fun e => h0 (nms_nil.1 e)
    have h2 := txt_app h1 hr
    rw [← h, txt_nms, txt_nms] at h2
    rw [h2]
    have := ly_mv d (txt r)
    unfold mvT at this
    rwa [if_neg h0] at this
theorem ly_lt {d : List UInt8} {m : Ent} (hm : okP m.1 = true) (h0 : m.1 ≠ []) (h : lyP d m.1 = true) : cmpL (nms d) (nms m.1) < 0 := by
  obtain ⟨h1, h2, h3⟩ := cut_ok hm h0 h
  rw [h3, cmpL_pre (fun e => h2 (nms_nil.1 e))]
  decide
/-- what stands behind a directory and not below it stands behind all that is below it -/
theorem ly_behind {d : List UInt8} {m e : Ent} (hm : okP m.1 = true) (h0 : m.1 ≠ []) (h : lyP d m.1 = true) (hn : lyP d e.1 = false) (hlt : cmpL (nms d) (nms e.1) < 0) : ltE m e := by
  obtain ⟨h1, h2, h3⟩ := cut_ok hm h0 h
  have hr : nms (cutP d m.1) ≠ [] := fun e => h2 (nms_nil.1 e)
  have no : ∀ r, r ≠ [] → nms e.1 ≠ nms d ++ r := fun r h4 h5 => by
    rw [ly_of h4 h5] at hn
    cases hn
  unfold ltE
  rcases cmpL_range (nms m.1) (nms e.1) with h4 | h4 | h4
  · omega
  · exact absurd ((cmpL_zero h4).symm.trans h3) (no _ hr)
  · have h5 := cmpL_anti (nms m.1) (nms e.1)
    rw [h4, h3] at h5
    obtain ⟨t, h6, h7⟩ := cmpL_between hlt (r := nms (cutP d m.1)) (by omega)
    exact absurd h7 (no t h6)

theorem sz_map (f : Ent → Ent) (h : ∀ e, (f e).2 = e.2) (t : List Ent) : szP (t.map f) = szP t := by
  unfold szP
  rw [List.map_map]
  congr 2
  funext e
  rw [Function.comp, h]
theorem szL_filter (f : Ent → Bool) : ∀ t : List Ent, szP (t.filter f) ≤ szP t
  | [] => Nat.le_refl _
  | x :: t => by
    have ih := szL_filter f t
    have h4 : szP (x :: t) = x.2.2.length + szP t := by simp [szP]
    rw [List.filter_cons]
    split
    · have h5 : szP (x :: t.filter f) = x.2.2.length + szP (t.filter f) := by simp [szP]
      omega
    · omega
theorem may_of {e f : Ent} (h : mayP e = true) (h1 : f.2 = e.2) (h2 : okP f.1 = true) (h3 : f.1 ≠ []) : mayP f = true := by
  unfold mayP at h ⊢
  rw [Bool.and_eq_true, Bool.and_eq_true] at h
  rw [h1, h2, decide_eq_true h3, h.2]
  rfl
/-- what lies below a directory of a right tree -/
def subL (t : List Ent) (d : List UInt8) : List Ent := (t.filter (fun e => lyP d e.1)).map (subE d)
theorem sub_rgt {t : List Ent} (d : List UInt8) (h : Rgt t) : Rgt (subL t d) := by
  unfold subL
  refine ⟨⟨fun e he => ?_, ?_, fun e he => ?_⟩, ?_, ?_⟩
  · obtain ⟨f, hf, rfl⟩ := List.mem_map.1 he
    obtain ⟨h1, h2⟩ := List.mem_filter.1 hf
    have hm := h.may f h1
    obtain ⟨h3, h4, _⟩ := cut_ok (mayP_ok hm) (mayP_ne hm) h2
    exact may_of hm rfl h3 h4
  · rw [List.pairwise_map]
    refine List.Pairwise.imp_of_mem ?_ (h.up.sublist List.filter_sublist)
    intro a b ha hb hab
    obtain ⟨a1, a2⟩ := List.mem_filter.1 ha
    obtain ⟨b1, b2⟩ := List.mem_filter.1 hb
    obtain ⟨_, _, a3⟩ := cut_ok (mayP_ok (h.may a a1)) (mayP_ne (h.may a a1)) a2
    obtain ⟨_, _, b3⟩ := cut_ok (mayP_ok (h.may b b1)) (mayP_ne (h.may b b1)) b2
    unfold ltE at hab ⊢
    rw [a3, b3, cmpL_app] at hab
    exact hab
  · obtain ⟨f, hf, rfl⟩ := List.mem_map.1 he
    obtain ⟨h1, h2⟩ := List.mem_filter.1 hf
    have hm := h.may f h1
    obtain ⟨h3, h4, h5⟩ := cut_ok (mayP_ok hm) (mayP_ne hm) h2
    by_cases h6 : spD (cutP d f.1) = []
    · exact Or.inl h6
    · right
      have h7 : nms (spD f.1) = nms (mvT d (spD (cutP d f.1))) := by
        have hne : nms (cutP d f.1) ≠ [] := fun e => h4 (nms_nil.1 e)
        rw [nms_spD (mayP_ok hm), nms_mv h6, nms_spD h3, h5, List.dropLast_append_of_ne_nil hne]
      have h8 := nms_inj h7
      rcases h.dir f h1 with h9 | ⟨g, h9, h10, h11⟩
      · rw [h9] at h8
        exact absurd h8.symm (mv_ne h6)
      · refine ⟨subE d g, List.mem_map.2 ⟨g, List.mem_filter.2 ⟨h9, ?_⟩, rfl⟩, ?_, h11⟩
        · rw [h10, h8]
          exact ly_mv _ _
        · show cutP d g.1 = spD (cutP d f.1)
          rw [h10, h8, cut_mv]
  · rw [List.length_map]
    exact Nat.le_trans (List.length_filter_le _ _) h.many
  · rw [sz_map (subE d) (fun _ => rfl)]
    exact Nat.le_trans (szL_filter _ _) h.big

/-- entries laid right behind their directory, in the place of what lies below it -/
def rpB (d : List UInt8) (t M : List Ent) : List Ent :=
  if d = [] then M else t.flatMap (fun e => (if lyP d e.1 = true then [] else [e]) ++ (if e.1 = d then M else []))
theorem mem_rpB {d : List UInt8} {t M : List Ent} (h : d = [] ∨ ∃ f ∈ t, f.1 = d) {e : Ent} : e ∈ rpB d t M ↔ (e ∈ t ∧ lyP d e.1 = false) ∨ e ∈ M := by
  unfold rpB
  by_cases hd : d = []
  · rw [if_pos hd]
    constructor
    · exact Or.inr
    · rintro (h1 | h1)
      · have := h1.2
        unfold lyP at this
        rw [decide_eq_true hd, Bool.true_or] at this
        cases this
      · exact h1
  · rw [if_neg hd, List.mem_flatMap]
    constructor
    · rintro ⟨f, hf, hm⟩
      rcases List.mem_append.1 hm with h1 | h1
      · split at h1
        · simp at h1
        · rename_i h2
          rw [List.mem_singleton] at h1
          subst h1
          exact Or.inl ⟨hf, by simpa using h2⟩
      · split at h1
        · exact Or.inr h1
        · simp at h1
    · rintro (⟨h1, h2⟩ | h1)
      · exact ⟨e, h1, List.mem_append.2 (Or.inl (by rw [h2]; simp))⟩
      · rcases h with h | ⟨f, hf, h3⟩
        · exact absurd h hd
        · exact ⟨f, hf, List.mem_append.2 (Or.inr (by rw [if_pos h3]; exact h1))⟩
/-- entries that all lie below a directory -/
structure LyM (d : List UInt8) (M : List Ent) : Prop where
  up : M.Pairwise ltE
  ly : ∀ m ∈ M, lyP d m.1 = true ∧ okP m.1 = true ∧ m.1 ≠ []
theorem rpB_up {d : List UInt8} {t M : List Ent} (ht : Rgt t) (hM : LyM d M) : (rpB d t M).Pairwise ltE := by
  unfold rpB
  by_cases h0 : d = []
  · rw [if_pos h0]
    exact hM.up
  · rw [if_neg h0, List.pairwise_flatMap]
    refine ⟨fun e he => ?_, List.Pairwise.imp_of_mem ?_ ht.up⟩
    · rw [List.pairwise_append]
      refine ⟨by split <;> simp, by split <;> simp [hM.up], fun x hx y hy => ?_⟩
      split at hx
      · simp at hx
      · rw [List.mem_singleton] at hx
        subst hx
        split at hy
        · rename_i h1
          obtain ⟨h2, h3, h4⟩ := hM.ly y hy
          unfold ltE
          rw [h1]
          exact ly_lt h3 h4 h2
        · simp at hy
    · intro a b ha hb hab x hx y hy
      rcases List.mem_append.1 hx with hx | hx
      · split at hx
        · simp at hx
        · rw [List.mem_singleton] at hx
          subst hx
          rcases List.mem_append.1 hy with hy | hy
          · split at hy
            · simp at hy
            · rw [List.mem_singleton] at hy
              subst hy
              exact hab
          · split at hy
            · rename_i h1
              obtain ⟨h2, h3, h4⟩ := hM.ly y hy
              have h5 := ly_lt h3 h4 h2
              unfold ltE at hab ⊢
              rw [h1] at hab
              exact cmpL_lt_trans hab h5
            · simp at hy
      · split at hx
        · rename_i h1
          obtain ⟨h2, h3, h4⟩ := hM.ly x hx
          rcases List.mem_append.1 hy with hy | hy
          · split at hy
            · simp at hy
            · rename_i h5
              rw [List.mem_singleton] at hy
              subst hy
              unfold ltE at hab
              rw [h1] at hab
              exact ly_behind h3 h4 h2 (by simpa using h5) hab
          · split at hy
            · rename_i h5
              exact absurd (h1.trans h5.symm) (ltE_ne hab)
            · simp at hy
        · simp at hx
theorem mv_ly {d : List UInt8} {s : List Ent} (hs : Rgt s) (hok : ∀ e ∈ s, okP (mvT d e.1) = true) : LyM d (s.map (mvE d)) := by
  constructor
  · rw [List.pairwise_map]
    refine List.Pairwise.imp_of_mem ?_ hs.up
    intro a b ha hb hab
    unfold ltE at hab ⊢
    show cmpL (nms (mvT d a.1)) (nms (mvT d b.1)) < 0
    rw [nms_mv (mayP_ne (hs.may a ha)), nms_mv (mayP_ne (hs.may b hb)), cmpL_app]
    exact hab
  · intro m hm
    obtain ⟨e, he, rfl⟩ := List.mem_map.1 hm
    exact ⟨ly_mv _ _, hok e he, mv_ne (mayP_ne (hs.may e he))⟩
/-- a right tree in the place of a directory of a right tree: a right tree, if it is not too much -/
theorem rpB_rgt {d : List UInt8} {t s : List Ent} (ht : Rgt t) (hs : Rgt s) (hdir : dirP t d = true) (hok : ∀ e ∈ s, okP (mvT d e.1) = true)
    (hm : (rpB d t (s.map (mvE d))).length ≤ 1024) (hb : szP (rpB d t (s.map (mvE d))) ≤ 1048576) : Rgt (rpB d t (s.map (mvE d))) := by
  have hL := mv_ly hs hok
  have hw := (dirP_of ht.up).1 hdir
  have hw' : d = [] ∨ ∃ f ∈ t, f.1 = d := hw.imp id (fun ⟨f, h1, h2, _⟩ => ⟨f, h1, h2⟩)
  refine ⟨⟨fun e he => ?_, rpB_up ht hL, fun e he => ?_⟩, hm, hb⟩
  · rcases (mem_rpB hw').1 he with h1 | h1
    · exact ht.may e h1.1
    · obtain ⟨f, hf, rfl⟩ := List.mem_map.1 h1
      exact may_of (hs.may f hf) rfl (hok f hf) (mv_ne (mayP_ne (hs.may f hf)))
  · rcases (mem_rpB hw').1 he with ⟨h1, h2⟩ | h1
    · by_cases h3 : spD e.1 = []
      · exact Or.inl h3
      · rcases ht.dir e h1 with h4 | ⟨g, h4, h5, h6⟩
        · exact absurd h4 h3
        · refine Or.inr ⟨g, (mem_rpB hw').2 (Or.inl ⟨h4, ?_⟩), h5, h6⟩
          by_cases h0 : d = []
          · unfold lyP at h2
            rw [decide_eq_true h0, Bool.true_or] at h2
            cases h2
          · cases h7 : lyP d g.1 with
            | false => rfl
            | true =>
              rw [h5] at h7
              rw [ly_up (ht.may e h1) h0 h3 (Or.inr h7)] at h2
              cases h2
    · obtain ⟨f, hf, rfl⟩ := List.mem_map.1 h1
      have hmf := hs.may f hf
      have h3 : nms (spD (mvT d f.1)) = nms d ++ nms (spD f.1) := by
        rw [nms_spD (hok f hf), nms_mv (mayP_ne hmf), nms_spD (mayP_ok hmf), List.dropLast_append_of_ne_nil (mayP_nms hmf)]
      by_cases h4 : spD f.1 = []
      · rw [h4, nms_e, List.append_nil] at h3
        have h5 := nms_inj h3
        rcases hw with h6 | ⟨g, h6, h7, h8⟩
        · left
          show spD (mvT d f.1) = []
          rw [h5, h6]
        · by_cases h0 : d = []
          · left
            show spD (mvT d f.1) = []
            rw [h5, h0]
          · right
            refine ⟨g, (mem_rpB hw').2 (Or.inl ⟨h6, by rw [h7]; exact ly_self h0⟩), ?_, h8⟩
            show g.1 = spD (mvT d f.1)
            rw [h5, h7]
      · rw [← nms_mv h4] at h3
        have h5 := nms_inj h3
        rcases hs.dir f hf with h6 | ⟨g, h6, h7, h8⟩
        · exact absurd h6 h4
        · right
          refine ⟨mvE d g, (mem_rpB hw').2 (Or.inr (List.mem_map.2 ⟨g, h6, rfl⟩)), ?_, h8⟩
          show mvT d g.1 = spD (mvT d f.1)
          rw [h5, h7]
theorem mv_sub (t : List Ent) (d : List UInt8) : (subL t d).map (mvE d) = t.filter (fun e => lyP d e.1) := by
  unfold subL
  rw [List.map_map]
  conv => rhs; rw [← List.map_id (t.filter (fun e => lyP d e.1))]
  refine List.map_congr_left (fun e he => ?_)
  show (mvT d (cutP d e.1), e.2) = e
  rw [mv_cut (List.mem_filter.1 he).2]
theorem sub_mv (s : List Ent) (d : List UInt8) : (s.map (mvE d)).map (subE d) = s := by
  rw [List.map_map]
  conv => rhs; rw [← List.map_id s]
  refine List.map_congr_left (fun e _ => ?_)
  show (cutP d (mvT d e.1), e.2) = e
  rw [cut_mv]
theorem rpB_sub {d : List UInt8} {t : List Ent} (ht : Rgt t) (hdir : dirP t d = true) : rpB d t ((subL t d).map (mvE d)) = t := by
  have hw' : d = [] ∨ ∃ f ∈ t, f.1 = d := ((dirP_of ht.up).1 hdir).imp id (fun ⟨f, h1, h2, _⟩ => ⟨f, h1, h2⟩)
  rw [mv_sub]
  refine pair_ext (rpB_up ht ⟨ht.up.sublist List.filter_sublist, fun m hm => ?_⟩) ht.up (fun e => ?_)
  · obtain ⟨h1, h2⟩ := List.mem_filter.1 hm
    exact ⟨h2, mayP_ok (ht.may m h1), mayP_ne (ht.may m h1)⟩
  · rw [mem_rpB hw', List.mem_filter]
    constructor
    · rintro (h | h) <;> exact h.1
    · intro h
      cases hl : lyP d e.1 with
      | false => exact Or.inl ⟨h, rfl⟩
      | true => exact Or.inr ⟨h, rfl⟩
theorem sub_rpB {d : List UInt8} {t s : List Ent} (ht : Rgt t) (hs : Rgt s) (hdir : dirP t d = true) (hok : ∀ e ∈ s, okP (mvT d e.1) = true) : subL (rpB d t (s.map (mvE d))) d = s := by
  have hw' : d = [] ∨ ∃ f ∈ t, f.1 = d := ((dirP_of ht.up).1 hdir).imp id (fun ⟨f, h1, h2, _⟩ => ⟨f, h1, h2⟩)
  have hL := mv_ly hs hok
  have h1 : (rpB d t (s.map (mvE d))).filter (fun e => lyP d e.1) = s.map (mvE d) := by
    refine pair_ext ((rpB_up ht hL).sublist List.filter_sublist) hL.up (fun e => ?_)
    rw [List.mem_filter, mem_rpB hw']
    constructor
    · rintro ⟨h | h, h2⟩
      · rw [h.2] at h2
        cases h2
      · exact h
    · exact fun h => ⟨Or.inr h, (hL.ly e h).1⟩
  unfold subL
  rw [h1, sub_mv]

end Go.Proofs.Yteijkbanlpodpaa

/- under: its value, and how it goes. -/
namespace Go.Proofs.Yteijkbanlpodpaa
open Go.RowKit Go.Shelf Go.BigFrame

attribute [local go_sem] Oper.semAt_some

theorem Lies.one {w : World} {f : Value} {d : List UInt8} (h : Lies w f d) (h0 : d = []) : f = .func (.func 60) #[] #[] := by
  rcases h with h | h
  · exact h.2
  · exact absurd h0 h.1

set_option maxRecDepth 100000 in
set_option maxHeartbeats 1000000 in
/-- below, with the place of the text that it keeps -/
theorem below_new (d : List UInt8) (w : World) (hd : d.length ≤ 4611686018427387904) (h0 : d ≠ []) :
    Calls Try.prog 40 #[.string (mk d)] w fun r w' => ∃ f, r = .returned f ∧ (∃ B, f = .func (.func 61) #[] #[.pointer (some ⟨B, 0, none⟩)] ∧ B < w'.heap.size ∧ w'.cell? ⟨B, 0, none⟩ = some (.string (mk (d ++ [47]))) ∧ w.heap.size ≤ B) ∧ Below w.heap.size w w' := by
  have e1 : ¬ (mk d).toList = [] := fun h => h0 ((bl_mk d).symm.trans h)
  have e2 : ((mk d).toList == []) = false := by simpa using e1
  have e3 : (mk d).toList.isEmpty = false := by simpa using e1
  have hadd := fun W => str_add d [47] (by simp; omega) W
  have HB := hid (below_walk w (.cells #[.string (mk (d ++ [47]))] 9))
  have HN := hid (hp_new w (.cells #[.string (mk (d ++ [47]))] 9))
  change ∀ W, (Op.stringOp .add (mk d) ⟨#[47]⟩).run Try.prog W = .ok (.string (mk (d ++ [47]))) W at hadd
  clear h0
  generalize mk (d ++ [47]) = s2 at *
  generalize mk d = s at *
  go_enter Try.func40, Try.ntmps40
  go_wp2
  go_ret
  exact ⟨_, rfl, ⟨_, rfl, hp_lt HN.out, by rw [row_cell HN.out 0]; rfl, Nat.le_refl _⟩, HB.out⟩

/-- an entry that may be -/
abbrev MEnt := { e : Ent // mayP e = true }
def vals (T : List MEnt) : List Ent := T.map (·.1)
theorem vals_of {t : List Ent} (h : ∀ e ∈ t, mayP e = true) : ∃ T : List MEnt, t = vals T := by
  induction t with
  | nil => exact ⟨[], rfl⟩
  | cons e t ih =>
    obtain ⟨T, hT⟩ := ih (fun x hx => h x (List.mem_cons_of_mem _ hx))
    have he := h e (by simp)
    exact ⟨⟨e, he⟩ :: T, by rw [hT]; rfl⟩
theorem vals_len (T : List MEnt) : (vals T).length = T.length := by unfold vals; rw [List.length_map]
/-- those below a directory -/
def undL (d : List UInt8) (T : List MEnt) : List MEnt := T.filter (fun y => lyP d y.1.1)
theorem vals_und (d : List UInt8) (T : List MEnt) : vals (undL d T) = (vals T).filter (fun e => lyP d e.1) := by
  unfold vals undL
  rw [List.filter_map]
  rfl
/-- what a round is handed: the last name, the entry -/
def undE (y : MEnt) : Array Value := #[.string (mk (spN y.1.1)), entA y.1]

/-- a round keeps all below n0 but one block -/
def KpS (n0 x : Nat) (W W' : World) : Prop := W.heap.size ≤ W'.heap.size ∧ ∀ b, b < n0 → b ≠ x → W'.heap[b]? = W.heap[b]?
theorem kpS_r (n0 x : Nat) (W : World) : KpS n0 x W W := ⟨Nat.le_refl _, fun _ _ _ => rfl⟩
theorem kpS_t {n0 x : Nat} {A B C : World} (h : KpS n0 x A B) (k : KpS n0 x B C) : KpS n0 x A C := ⟨Nat.le_trans h.1 k.1, fun b h1 h2 => (k.2 b h1 h2).trans (h.2 b h1 h2)⟩
theorem kpS_b {n0 x : Nat} {w : World} (hb : n0 ≤ w.heap.size) (W : World) (l : Nat) (o o' : Obj) (hl : w.heap.size ≤ l) (_ : W.heap[l]? = some o) (_ : o.isCells = false) (_ : o.isWalk = false) : KpS n0 x W (W.putObj l o') := by
  refine ⟨by simp [World.putObj], fun b h1 _ => ?_⟩
  have hne : l ≠ b := by omega
  simp [World.putObj, hne]
theorem kpS_below {n0 x : Nat} {W W' : World} (h : Below W.heap.size W W') (hn : n0 ≤ W.heap.size) : KpS n0 x W W' := ⟨h.size, fun b h1 _ => h.block b (Nat.lt_of_lt_of_le h1 hn)⟩
theorem KpS.cell {n0 x : Nat} {W W' : World} (h : KpS n0 x W W') {b o : Nat} (h1 : b < n0) (h2 : b ≠ x) : W'.cell? ⟨b, o, none⟩ = W.cell? ⟨b, o, none⟩ := World.cell?_of_block (h.2 b h1 h2)

theorem Ents.low {w : World} {v : Value} {t : List Ent} (h : Ents w v t) {g o n c : Nat} (h0 : 0 < t.length) (e : v = .slice (some ⟨g, o, none⟩) n c) : g < w.heap.size := by
  subst e
  obtain ⟨g', o', e1, h1, _⟩ := h.at 0 h0
  injection e1 with e1
  injection e1 with e1 _
  rw [e1]
  exact h1
/-- what under's value goes over: all of it below n0, and not at x -/
structure Und (w : World) (n0 x : Nat) (tv : Value) (t : List Ent) (f : Value) (d : List UInt8) (Bt Bl : Nat) : Prop where
  ct : w.cell? ⟨Bt, 0, none⟩ = some tv
  cl : w.cell? ⟨Bl, 0, none⟩ = some f
  lt : Bt < n0 ∧ Bt ≠ x
  ll : Bl < n0 ∧ Bl ≠ x
  sh : ∃ ao c, tv = .slice ao t.length c
  et : ∀ k, k < t.length → ∃ g o c, tv = .slice (some ⟨g, o, none⟩) t.length c ∧ g < n0 ∧ g ≠ x ∧ EntAt w g (o + k * 3) (t.getD k zE)
  fl : (d = [] ∧ f = .func (.func 60) #[] #[]) ∨ (d ≠ [] ∧ ∃ B, f = .func (.func 61) #[] #[.pointer (some ⟨B, 0, none⟩)] ∧ B < n0 ∧ B ≠ x ∧ w.cell? ⟨B, 0, none⟩ = some (.string (mk (d ++ [47]))))
theorem Und.kept {w w' : World} {n0 x : Nat} {tv : Value} {t : List Ent} {f : Value} {d : List UInt8} {Bt Bl : Nat} (h : Und w n0 x tv t f d Bt Bl) (k : KpS n0 x w w') : Und w' n0 x tv t f d Bt Bl := by
  refine ⟨(k.cell h.lt.1 h.lt.2).trans h.ct, (k.cell h.ll.1 h.ll.2).trans h.cl, h.lt, h.ll, h.sh, fun j hj => ?_, ?_⟩
  · obtain ⟨g, o, c, h1, h2, h3, h4, h5, h6⟩ := h.et j hj
    exact ⟨g, o, c, h1, h2, h3, (k.cell h2 h3).trans h4, (k.cell h2 h3).trans h5, (k.cell h2 h3).trans h6⟩
  · rcases h.fl with h1 | ⟨h0, B, h1, h2, h3, h4⟩
    · exact Or.inl h1
    · exact Or.inr ⟨h0, B, h1, h2, h3, (k.cell h2 h3).trans h4⟩

set_option maxRecDepth 100000 in
set_option maxHeartbeats 1000000 in
theorem under_any (tv : Value) (t : List Ent) (d : List UInt8) (w : World) (h : Ents w tv t) (hd : d.length ≤ 4611686018427387904) (x : Nat) (hx : x < w.heap.size) (hap : ∀ g o n c, 0 < t.length → tv = .slice (some ⟨g, o, none⟩) n c → g ≠ x) :
    Calls Try.prog 22 #[tv, .string (mk d)] w fun r w' => ∃ Bt Bl f, r = .returned (.func (.func 41) #[] #[.pointer (some ⟨Bt, 0, none⟩), .pointer (some ⟨Bl, 0, none⟩)]) ∧ Und w' w'.heap.size x tv t f d Bt Bl ∧ w.heap.size ≤ Bt ∧ w.heap.size ≤ Bl ∧ Below w.heap.size w w' := by
  have hmf : ∀ (fn : Fn) (first cap : Array Value) (w : World), (Instr.makeFunc fn first cap).run Try.prog w = .ok (.func fn first cap) w := fun _ _ _ _ => rfl
  obtain ⟨ao, c, e0⟩ := h.shape
  have HET := hid h
  have HAP := hid hap
  subst e0
  clear h hap
  by_cases h0 : d = []
  · have HB := hid (fun W => below_fn d W hd)
    have H0 := hid h0
    clear h0
    go_enter Try.func22, Try.ntmps22
    go_wp2_with (go_at_call 40; go_loud (refine (HB.out _).mono ?_; rintro r w1 ⟨f, rfl, hf, hb1⟩; have hf1 := hf.one H0.out; subst hf1; have HB1 := hid hb1; clear hb1 hf))
    go_ret
    have hb0 := below_walk w (.cells #[.slice ao t.length c] 22)
    have hb1 := below_then hb0 HB1.out
    have hz1 : w.heap.size + 1 ≤ w1.heap.size := by have := HB1.out.size; simpa using this
    have hb2 := hb1.alloc hb1.size (.cells #[.func (.func 60) #[] #[]] 65)
    have hz2 : (w1.alloc (.cells #[.func (.func 60) #[] #[]] 65)).heap.size = w1.heap.size + 1 := by simp
    refine ⟨_, _, .func (.func 60) #[] #[], rfl, ?_, Nat.le_refl _, by omega, hb2⟩
    refine ⟨?_, by simp, ⟨by rw [hz2]; omega, by omega⟩, ⟨by rw [hz2]; omega, by omega⟩, ⟨_, _, rfl⟩, fun k hk => ?_, Or.inl ⟨H0.out, rfl⟩⟩
    · rw [(below_walk w1 _).cell (p := ⟨w.heap.size, 0, none⟩) (by show w.heap.size < w1.heap.size; omega), HB1.out.cell (p := ⟨w.heap.size, 0, none⟩) (by simp)]
      simp
    · obtain ⟨g, o, rfl, h2, h3⟩ := HET.out.at k hk
      exact ⟨g, o, c, rfl, by rw [hz2]; omega, HAP.out _ _ _ _ (by omega) rfl, h3.below h2 hb2⟩
  · have HB := hid (fun W => below_new d W hd h0)
    have H0 := hid h0
    clear h0
    go_enter Try.func22, Try.ntmps22
    go_wp2_with (go_at_call 40; refine (HB.out _).mono ?_; rintro r w1 ⟨f, rfl, hf, hb1⟩; obtain ⟨B, rfl, hB1, hB2, hB3⟩ := hf; have HBL := hid hB1; have HBC := hid hB2; have HBN := hid hB3; clear hB1 hB2 hB3; have HB1 := hid hb1; clear hb1)
    go_ret
    have hb0 := below_walk w (.cells #[.slice ao t.length c] 22)
    have hb1 := below_then hb0 HB1.out
    have hz1 : w.heap.size + 1 ≤ w1.heap.size := by have := HB1.out.size; simpa using this
    have hb2 := hb1.alloc hb1.size (.cells #[.func (.func 61) #[] #[.pointer (some ⟨B, 0, none⟩)]] 65)
    have hz2 : (w1.alloc (.cells #[.func (.func 61) #[] #[.pointer (some ⟨B, 0, none⟩)]] 65)).heap.size = w1.heap.size + 1 := by simp
    refine ⟨_, _, .func (.func 61) #[] #[.pointer (some ⟨B, 0, none⟩)], rfl, ?_, Nat.le_refl _, by omega, hb2⟩
    refine ⟨?_, by simp, ⟨by rw [hz2]; omega, by omega⟩, ⟨by rw [hz2]; omega, by omega⟩, ⟨_, _, rfl⟩, fun k hk => ?_, Or.inr ⟨H0.out, B, rfl, by rw [hz2]; have := HBL.out; omega, by have h4 := HBN.out; simp at h4; omega, ((below_walk w1 _).cell (p := ⟨B, 0, none⟩) HBL.out).trans HBC.out⟩⟩
    · rw [(below_walk w1 _).cell (p := ⟨w.heap.size, 0, none⟩) (by show w.heap.size < w1.heap.size; omega), HB1.out.cell (p := ⟨w.heap.size, 0, none⟩) (by simp)]
      simp
    · obtain ⟨g, o, rfl, h2, h3⟩ := HET.out.at k hk
      exact ⟨g, o, c, rfl, by rw [hz2]; omega, HAP.out _ _ _ _ (by omega) rfl, h3.below h2 hb2⟩

theorem und_snoc (d : List UInt8) (T : List MEnt) (k : Nat) (y : MEnt) (hy : T[k]? = some y) : undL d (T.take (k + 1)) = undL d (T.take k) ++ (if lyP d y.1.1 = true then [y] else []) := by
  unfold undL
  rw [List.take_add_one, hy, List.filter_append]
  congr 1
  simp only [Option.toList, List.filter_cons, List.filter_nil]

set_option maxRecDepth 100000 in
set_option maxHeartbeats 2000000 in
theorem und_in (n : Nat) (hn : 1 ≤ n) (l Bt Bl n0 x : Nat) (T : List MEnt) (hT : T.length ≤ 1024) (tv f : Value) (d : List UInt8) (J Jx : List MEnt → World → Prop)
    (hY : ∀ pre y W, J pre W → pre.length < T.length → YieldAt Fence.wide (n - 1) Try.prog l (undE y) W fun e W' =>
      (e = .returned (.bool true) ∧ J (pre ++ [y]) W' ∧ KpS n0 x W W') ∨ (e = .returned (.bool false) ∧ Jx (pre ++ [y]) W'))
    (W : World) (hU : Und W n0 x tv (vals T) f d Bt Bl) (hnW : n0 ≤ W.heap.size) (hJ' : AbidesFrom W.heap.size J) (h0 : J [] W) :
    CallsIn Fence.wide n Try.prog 41 #[.func (.yield l) #[] #[], .pointer (some ⟨Bt, 0, none⟩), .pointer (some ⟨Bl, 0, none⟩)] W fun e W' => (∃ v, e = .returned v) ∧
      ((∃ ys, ys = undL d T ∧ J ys W') ∨ (∃ pre, pre <+: undL d T ∧ Jx pre W')) := by
  obtain ⟨ao, c, rfl⟩ := hU.sh
  rw [vals_len] at hU
  have HU := hid hU
  have ct := hU.ct
  clear hU
  refine callsIn_of_wp Try.func41 rfl trivial ?_ rfl
  simp only [Try.ntmps41, List.size_toArray, List.length_cons, List.length_nil, Nat.reduceAdd, Nat.reduceSub, Array.replicate_succ, Array.replicate_zero, List.push_toArray, List.append_toArray, List.nil_append, List.cons_append]
  gi_wp2
  gi_loopw [11] (fun i wr => ∃ k : Nat, k ≤ T.length ∧ i = .int .i64 k ∧ J (undL d (T.take k)) wr ∧ KpS n0 x W wr) (fun i _ => T.length - (intOf i).toNat)
  case atStart => exact ⟨0, Nat.zero_le _, rfl, h0, kpS_r _ _ _⟩
  case round =>
    obtain ⟨k, hk, rfl, hJs, hkp⟩ := hrel
    have HJs := hid hJs
    have HKP := hid hkp
    clear hJs hkp
    by_cases hlt : k < T.length
    · obtain ⟨y, hy⟩ : ∃ y, T[k]? = some y := ⟨_, List.getElem?_eq_getElem hlt⟩
      have hge : (vals T).getD k zE = y.1 := by
        unfold vals
        rw [List.getD_eq_getElem?_getD, List.getElem?_map, hy]
        rfl
      have HS := hid (und_snoc d T k y hy)
      obtain ⟨g, o, c', e0, h2, h3, h4, h5, h6⟩ := (HU.out.kept HKP.out).et k (by rw [vals_len]; exact hlt)
      rw [hge] at h4 h5 h6
      injection e0 with e0 e1 e2
      clear e1 e2
      subst e0
      have cl := (HU.out.kept HKP.out).cl
      have hnw : n0 ≤ wr.heap.size := Nat.le_trans hnW HKP.out.1
      have q1 : (k : Int) < (T.length : Int) := by omega
      have hw1 : IntKind.i64.wrap ((k : Int) + 1) = ((k + 1 : Nat) : Int) := by rw [IntKind.wrap_i64]; omega
      have HBE := hid (below_walk wr (.cells #[.string (mk y.1.1), .int .i64 y.1.2.1, .string (mk y.1.2.2)] 25))
      have HUE := hid ((HU.out.kept HKP.out).kept (kpS_below HBE.out hnw))
      have cl2 := HUE.out.cl
      have HPS := hid (fun W => psplit_any (mk y.1.1) W (by rw [bl_mk]; have := okP_short (mayP_ok y.2); omega))
      rw [bl_mk] at HPS
      have HPX := hid (show undL d (T.take (k + 1)) <+: undL d T from List.IsPrefix.filter _ (List.take_prefix _ _))
      have HYW := hid (fun W (hJW : J (undL d (T.take k)) W) => hY _ y W hJW (Nat.lt_of_le_of_lt (by unfold undL; have := List.length_filter_le (fun y : MEnt => lyP d y.1.1) (T.take k); rw [List.length_take] at this; exact Nat.le_trans this (Nat.min_le_left _ _)) hlt))
      have HFL := hid (HUE.out.fl)
      have HLN := hid hnw
      clear hy hge cl hnw ct
      rcases HFL.out with ⟨hd0, hf⟩ | ⟨hd0, B, hf, hB1, hB2, hB3⟩
      · subst hf
        have HS1 := hid (show undL d (T.take (k + 1)) = undL d (T.take k) ++ [y] from by rw [HS.out, if_pos (by unfold lyP; rw [decide_eq_true hd0, Bool.true_or])])
        have HL := hid (fun W => lies_one y.1.1 W)
        clear HS hd0
        have HS := HS1; clear HS1
        gi_wp2_with (first | (refine ⟨trivial, ?_⟩; gi_at_call 60; refine (callsIn_wide.2 (HL.out _)).mono ?_; rintro e w5 ⟨rfl, hw5⟩; have hw5 := hw5.symm; subst hw5) | (refine ⟨trivial, ?_⟩; gi_at_call 42; refine (callsIn_wide.2 (HPS.out _)).mono ?_; rintro e w6 ⟨rfl, n1, hw6⟩; subst hw6; obtain ⟨fn, tmps, assign, body, hy, hR⟩ := HYW.out _ (hJ' _ _ _ none HJs.out (below_gb (below_n HBE.out n1) none) (by simp)); dsimp only [undE, entA] at hy))
        refine hR.mono ?_
        rintro e W3 (⟨rfl, hJ3, hk3⟩ | ⟨rfl, hJx3⟩)
        · gi_wp2
          go_roundw
          case rel => exact ⟨k + 1, by omega, by simp, by rw [HS.out]; exact hJ3, kpS_t HKP.out (kpS_t (kpS_below (below_n HBE.out n1) HLN.out) hk3)⟩
          case measure => simp [intOf]; omega
        · gi_wp2
          refine bodyPost_ret (results_none rfl _ _ _) rfl ?_
          exact ⟨⟨_, rfl⟩, .inr ⟨_, by rw [← HS.out]; exact HPX.out, hJx3⟩⟩
      · subst hf
        have HD0 := hid hd0
        have HLP := hid (show lyP d y.1.1 = (d ++ [47]).isPrefixOf y.1.1 from by unfold lyP; rw [decide_eq_false hd0, Bool.false_or])
        rw [HLP.out] at HS
        have HL := hid (fun W hW => lies_two B d y.1.1 W hW)
        have HBC := hid hB3
        clear hd0 hB1 hB2 hB3 HLP
        generalize (d ++ [47]).isPrefixOf y.1.1 = X at *
        cases X with
        | true =>
          have HS1 := hid (show undL d (T.take (k + 1)) = undL d (T.take k) ++ [y] from by rw [HS.out, if_pos rfl])
          clear HS
          have HS := HS1; clear HS1
          gi_wp2_with (first | (refine ⟨trivial, ?_⟩; gi_at_call 61; refine (callsIn_wide.2 (HL.out _ HBC.out)).mono ?_; rintro e w5 ⟨rfl, hw5⟩; have hw5 := hw5.symm; subst hw5) | (refine ⟨trivial, ?_⟩; gi_at_call 42; refine (callsIn_wide.2 (HPS.out _)).mono ?_; rintro e w6 ⟨rfl, n1, hw6⟩; subst hw6; obtain ⟨fn, tmps, assign, body, hy, hR⟩ := HYW.out _ (hJ' _ _ _ none HJs.out (below_gb (below_n HBE.out n1) none) (by simp)); dsimp only [undE, entA] at hy))
          refine hR.mono ?_
          rintro e W3 (⟨rfl, hJ3, hk3⟩ | ⟨rfl, hJx3⟩)
          · gi_wp2
            go_roundw
            case rel => exact ⟨k + 1, by omega, by simp, by rw [HS.out]; exact hJ3, kpS_t HKP.out (kpS_t (kpS_below (below_n HBE.out n1) HLN.out) hk3)⟩
            case measure => simp [intOf]; omega
          · gi_wp2
            refine bodyPost_ret (results_none rfl _ _ _) rfl ?_
            exact ⟨⟨_, rfl⟩, .inr ⟨_, by rw [← HS.out]; exact HPX.out, hJx3⟩⟩
        | false =>
          have HS1 := hid (show undL d (T.take (k + 1)) = undL d (T.take k) from by rw [HS.out, if_neg (by simp), List.append_nil])
          clear HS
          gi_wp2_with (refine ⟨trivial, ?_⟩; gi_at_call 61; refine (callsIn_wide.2 (HL.out _ HBC.out)).mono ?_; rintro e w5 ⟨rfl, hw5⟩; have hw5 := hw5.symm; subst hw5)
          go_roundw
          case rel => exact ⟨k + 1, by omega, by simp, by rw [HS1.out]; exact hJ' _ _ _ none HJs.out (below_gb HBE.out none) (by simp), kpS_t HKP.out (kpS_below HBE.out HLN.out)⟩
          case measure => simp [intOf]; omega
    · obtain rfl : k = T.length := by omega
      have HJ := hid (show J (undL d T) wr by have := HJs.out; rwa [List.take_length] at this)
      gi_wp2
      go_end0
      exact ⟨⟨_, rfl⟩, .inl ⟨_, rfl, HJ.out⟩⟩

end Go.Proofs.Yteijkbanlpodpaa

/- What Sub and Graft answer; what is cut out and put back: plainly. -/
namespace Go.Proofs.Yteijkbanlpodpaa

/-- why a text is no directory -/
def whP (t : List Ent) (d : List UInt8) : Int := if okP d = false then 45 else if dirP t d = true then 0 else if thP t d = false then 8 else 102
def sbP (t : List Ent) (d : List UInt8) : Except Int (List Ent) := if (chkP t).2 ≠ 0 then .error (chkP t).2 else if whP t d ≠ 0 then .error (whP t d) else .ok (subL t d)
/-- do all paths fit below a directory? -/
def mvOk (d : List UInt8) (s : List Ent) : Bool := s.all (fun e => okP (mvT d e.1))
def grP (t : List Ent) (d : List UInt8) (s : List Ent) : Except Int (List Ent) :=
  if (chkP t).2 ≠ 0 then .error (chkP t).2 else if (chkP s).2 ≠ 0 then .error (chkP s).2 else if whP t d ≠ 0 then .error (whP t d)
  else if mvOk d s = false then .error 44 else fitP (rpB d t (s.map (mvE d)))
theorem wh_zero {t : List Ent} {d : List UInt8} : whP t d = 0 ↔ okP d = true ∧ dirP t d = true := by
  unfold whP
  cases h1 : okP d <;> cases h2 : dirP t d <;> cases h3 : thP t d <;> simp
theorem sb_ok {t u : List Ent} {d : List UInt8} (h : sbP t d = .ok u) : Rgt t ∧ okP d = true ∧ dirP t d = true ∧ u = subL t d := by
  unfold sbP at h
  split at h
  · cases h
  · rename_i h0
    split at h
    · cases h
    · rename_i h1
      obtain ⟨h2, h3⟩ := wh_zero.1 (Decidable.not_not.1 h1)
      injection h with h
      exact ⟨rgt_iff.1 (Decidable.not_not.1 h0), h2, h3, h.symm⟩
theorem fit_rgt {t : List Ent} (h : Rgt t) : fitP t = .ok t := by
  unfold fitP
  rw [if_neg (by have := h.many; omega), if_neg (by have := h.big; omega)]
theorem fit_ok {t u : List Ent} (h : fitP t = .ok u) : u = t ∧ t.length ≤ 1024 ∧ szP t ≤ 1048576 := by
  unfold fitP at h
  split at h
  · cases h
  · split at h
    · cases h
    · injection h with h
      exact ⟨h.symm, by omega, by omega⟩
/-- what is cut out and put back leaves the tree as it was -/
theorem graft_back {t u : List Ent} {d : List UInt8} (h : sbP t d = .ok u) : grP t d u = .ok t := by
  obtain ⟨h1, h2, h3, rfl⟩ := sb_ok h
  unfold grP
  rw [rgt_iff.2 h1, rgt_iff.2 (sub_rgt d h1), wh_zero.2 ⟨h2, h3⟩, if_neg (by simp), if_neg (by simp), if_neg (by simp), if_neg, rpB_sub h1 h3, fit_rgt h1]
  intro h4
  have : mvOk d (subL t d) = true := by
    unfold mvOk
    rw [List.all_eq_true]
    intro e he
    have := List.mem_map_of_mem (f := mvE d) he
    rw [mv_sub] at this
    exact mayP_ok (h1.may _ (List.mem_filter.1 this).1)
  rw [this] at h4
  cases h4
/-- what is put in is what is cut out -/
theorem sub_back {t s w : List Ent} {d : List UInt8} (h : grP t d s = .ok w) : sbP w d = .ok s := by
  unfold grP at h
  split at h
  · cases h
  · rename_i h0
    split at h
    · cases h
    · rename_i h1
      split at h
      · cases h
      · rename_i h2
        split at h
        · cases h
        · rename_i h3
          have ht := rgt_iff.1 (Decidable.not_not.1 h0)
          have hs := rgt_iff.1 (Decidable.not_not.1 h1)
          obtain ⟨h4, h5⟩ := wh_zero.1 (Decidable.not_not.1 h2)
          have hok : ∀ e ∈ s, okP (mvT d e.1) = true := by
            have h6 : mvOk d s = true := by cases e : mvOk d s <;> simp_all
            exact List.all_eq_true.1 h6
          obtain ⟨rfl, h6, h7⟩ := fit_ok h
          have hw := rpB_rgt ht hs h5 hok h6 h7
          have hdir : dirP (rpB d t (s.map (mvE d))) d = true := by
            have h8 := (dirP_of ht.up).1 h5
            refine (dirP_of hw.up).2 ?_
            by_cases h9 : d = []
            · exact Or.inl h9
            · rcases h8 with h8 | ⟨g, g1, g2, g3⟩
              · exact Or.inl h8
              · exact Or.inr ⟨g, (mem_rpB (Or.inr ⟨g, g1, g2⟩)).2 (Or.inl ⟨g1, by rw [g2]; exact ly_self h9⟩), g2, g3⟩
          unfold sbP
          rw [rgt_iff.2 hw, wh_zero.2 ⟨h4, hdir⟩, if_neg (by simp), if_neg (by simp), sub_rpB ht hs h5 hok]

theorem sbP_err {t : List Ent} {d : List UInt8} {E : Int} (h : sbP t d = .error E) : E ≠ 0 := by
  unfold sbP at h
  split at h
  · injection h with h; rw [← h]; assumption
  · split at h
    · injection h with h; rw [← h]; assumption
    · cases h
theorem grP_err {t s : List Ent} {d : List UInt8} {E : Int} (h : grP t d s = .error E) : E ≠ 0 := by
  unfold grP at h
  split at h
  · injection h with h; rw [← h]; assumption
  · split at h
    · injection h with h; rw [← h]; assumption
    · split at h
      · injection h with h; rw [← h]; assumption
      · split at h
        · injection h with h; rw [← h]; decide
        · unfold fitP at h
          split at h
          · injection h with h; rw [← h]; decide
          · split at h
            · injection h with h; rw [← h]; decide
            · cases h

end Go.Proofs.Yteijkbanlpodpaa

/- Entries that may be are not long. -/
namespace Go.Proofs.Yteijkbanlpodpaa
open Go.RowKit

theorem may_short {t : List Ent} (h : ∀ e ∈ t, mayP e = true) : Short t := by
  intro e he
  have h1 := okP_short (mayP_ok (h e he))
  have h2 := h e he
  unfold mayP at h2
  simp only [Bool.and_eq_true, decide_eq_true_iff] at h2
  refine ⟨by omega, ?_⟩
  rcases h2.2 with h3 | h3 | h3
  · omega
  · rw [h3.2]; simp
  · omega
theorem may_shr' {e : Ent} (h : mayP e = true) : Shr e := by
  have h1 := okP_short (mayP_ok h)
  refine ⟨by omega, ?_⟩
  unfold mayP at h
  simp only [Bool.and_eq_true, decide_eq_true_iff] at h
  rcases h.2 with h2 | h2 | h2
  · omega
  · rw [h2.2]; simp
  · omega

end Go.Proofs.Yteijkbanlpodpaa

/- directory; under's value as a contract for loops. -/
namespace Go.Proofs.Yteijkbanlpodpaa
open Go.RowKit Go.BigFrame

theorem und_stops (n : Nat) (hn : 1 ≤ n) (Bt Bl n0 x : Nat) (T : List MEnt) (hT : T.length ≤ 1024) (tv f : Value) (d : List UInt8) (w : World) (hU : Und w n0 x tv (vals T) f d Bt Bl) (hnw : n0 ≤ w.heap.size) :
    SeqStopsK Fence.wide n Try.prog 41 #[.pointer (some ⟨Bt, 0, none⟩), .pointer (some ⟨Bl, 0, none⟩)] undE (KpS n0 x) (fun ys => ys = undL d T) (fun pre => pre <+: undL d T) T.length w := by
  intro l J Jx W hW hJ hJx hY h0
  exact und_in n hn l Bt Bl n0 x T hT tv f d J Jx hY W (hU.kept (kpS_below hW hnw)) (Nat.le_trans hnw hW.size) hJ h0

set_option maxRecDepth 100000 in
set_option maxHeartbeats 1000000 in
theorem directory_any (v : Value) (t : List Ent) (d : List UInt8) (w : World) (h : Ents w v t) (hr : Rgt t) (hd : d.length ≤ 4611686018427387904) :
    Calls Try.prog 21 #[v, .string (mk d)] w fun r w' => r = .returned (.int .i64 (whP t d)) ∧ Below w.heap.size w w' := by
  have hoks : ∀ e ∈ t, okP e.1 = true := fun e he => mayP_ok (hr.may e he)
  obtain ⟨ao, c, e0⟩ := h.shape
  cases hok : okP d with
  | false =>
    have HC := hid (check_is (mk d) 45 (by rw [bl_mk]; unfold chN; rw [hok]; rfl) (by rw [bl_mk]; omega))
    have HW := hid (show whP t d = 45 from by unfold whP; rw [if_pos hok])
    clear hok h hr hoks
    subst e0
    generalize mk d = s at *
    go_enter Try.func21, Try.ntmps21
    go_wp2_with (go_at_call 18; refine (HC.out _).mono ?_; rintro r w1 ⟨rfl, n1, rfl⟩)
    go_ret
    exact ⟨by rw [HW.out]; rfl, below_n (Below.refl _ _) n1⟩
  | true =>
    have HC := hid (check_is (mk d) 0 (by rw [bl_mk]; unfold chN; rw [hok]; rfl) (by rw [bl_mk]; omega))
    have HD := hid (fun W (hW : Below w.heap.size w W) => isDir_any v t d W (h.below hW) hr.up hoks hok hr.many)
    have HS := hid (fun W (hW : Below w.heap.size w W) => standing_any v t d W (h.below hW) hr.up hoks hok hr.many)
    cases hdir : dirP t d with
    | true =>
      have HW := hid (show whP t d = 0 from by unfold whP; rw [hok, hdir]; rfl)
      rw [hdir] at HD
      clear hok h hr hoks hdir
      subst e0
      generalize mk d = s at *
      go_enter Try.func21, Try.ntmps21
      go_wp2_with (first | (go_at_call 18; refine (HC.out _).mono ?_; rintro r w1 ⟨rfl, n1, rfl⟩; have HB1 := hid (below_n (Below.refl w.heap.size w) n1)) | (go_at_call 39; refine (HD.out _ HB1.out).mono ?_; rintro r w2 ⟨rfl, hb2⟩; have HB2 := hid (below_then HB1.out hb2); clear hb2))
      go_ret
      exact ⟨by rw [HW.out]; rfl, HB2.out⟩
    | false =>
      obtain ⟨K, HK⟩ : ∃ K : Int, Hid ((stP t d).2.1 = K) := ⟨_, rfl⟩
      have hz : thP t d = false → K = 0 := fun h => by
        rw [← HK.out]
        unfold thP at h
        unfold stP
        cases e : fdP t d with
        | none => rfl
        | some x => rw [e] at h; cases h
      have hz2 : thP t d = true → K ≠ 0 := fun h h0 => by
        unfold thP at h
        obtain ⟨e, he⟩ := Option.isSome_iff_exists.1 h
        have hm := hr.may e (fdP_some he).1
        have : (stP t d).2.1 = e.2.1 := by unfold stP; rw [he]; rfl
        rw [HK.out, h0] at this
        unfold mayP at hm
        rw [← this] at hm
        simp at hm
      have HW := hid (show whP t d = if K = 0 then 8 else 102 from by
        unfold whP
        rw [hok, hdir]
        cases hth : thP t d with
        | false => rw [hz hth]; rfl
        | true => rw [if_neg (hz2 hth)]; rfl)
      rw [hdir] at HD
      unfold entA at HS
      rw [HK.out] at HS
      clear hok h hr hoks hdir hz hz2 HK
      subst e0
      generalize mk (stP t d).1 = s1 at *
      generalize mk (stP t d).2.2 = s2 at *
      generalize mk d = s at *
      have hfk := fun W => field_kind s1 s2 K W
      by_cases h0 : K = 0
      · have HW2 := hid (HW.out.trans (if_pos h0))
        subst h0
        clear HW
        go_enter Try.func21, Try.ntmps21
        go_wp2_with (first | (go_at_call 18; refine (HC.out _).mono ?_; rintro r w1 ⟨rfl, n1, rfl⟩; have HB1 := hid (below_n (Below.refl w.heap.size w) n1)) | (go_at_call 39; refine (HD.out _ HB1.out).mono ?_; rintro r w2 ⟨rfl, hb2⟩; have HB2 := hid (below_then HB1.out hb2); clear hb2) | (go_at_call 19; refine (HS.out _ HB2.out).mono ?_; rintro r w3 ⟨rfl, hb3⟩; have HB3 := hid (below_then HB2.out hb3); clear hb3))
        go_ret
        exact ⟨by rw [HW2.out]; rfl, HB3.out⟩
      · have HW2 := hid (HW.out.trans (if_neg h0))
        have e4 : (K == 0) = false := by simpa using h0
        clear HW
        go_enter Try.func21, Try.ntmps21
        go_wp2_with (first | (go_at_call 18; refine (HC.out _).mono ?_; rintro r w1 ⟨rfl, n1, rfl⟩; have HB1 := hid (below_n (Below.refl w.heap.size w) n1)) | (go_at_call 39; refine (HD.out _ HB1.out).mono ?_; rintro r w2 ⟨rfl, hb2⟩; have HB2 := hid (below_then HB1.out hb2); clear hb2) | (go_at_call 19; refine (HS.out _ HB2.out).mono ?_; rintro r w3 ⟨rfl, hb3⟩; have HB3 := hid (below_then HB2.out hb3); clear hb3))
        go_ret
        exact ⟨by rw [HW2.out]; rfl, HB3.out⟩

end Go.Proofs.Yteijkbanlpodpaa

/- A region within a round of a range over a function, by what is proved of it outside. -/
namespace Go.Proofs.Yteijkbanlpodpaa
open Go.RowKit
variable {P : Program}

/-- no operation of the region is a defer statement -/
def noDefer (l : List Oper) : Bool := l.all fun o => match o.op with | .defer _ => false | _ => true
theorem noDefer_mem {l : List Oper} (h : noDefer l = true) {o : Oper} (hm : o ∈ l) (c) : o.op ≠ .defer c := by
  intro e
  have := (List.all_eq_true.mp h) o hm
  rw [e] at this
  exact absurd this Bool.false_ne_true
theorem rowsIn_of {n : Nat} {row : String} {args : Array Value} {w : World} {R : Value → World → Prop} (l : Nat) (h : Rows P row args w R) : RowsIn (Fence.wide.inRound l) n P row args w R :=
  fun c cs _ => let ⟨v, w', r, s⟩ := h c cs; ⟨v, w', r, stepsIn_wide.2 s⟩
theorem uponIn_of {o : Oper} {a : Act} {next next' : Act → World → Prop} {Q Q' : Exit → Act → World → Prop} {r : Result Next} (l n : Nat) (hk : ∀ a w, next a w → next' a w) (hp : ∀ ch a w, Q (.panic ch) a w → Q' (.panic ch) a w) (ho : LetsOut Q → LetsOut Q') (h : o.upon P a next Q r) :
    o.uponIn (Fence.wide.inRound l) n P a next' Q' r := by
  have hdp : ∀ (p : Prop), (Fence.wide.inRound l).depth.isSome = true → p := fun p e => by simp [Fence.wide, Fence.inRound] at e
  cases r with
  | ok x w =>
    cases x with
    | value v => exact hk _ _ h
    | skip => exact hk _ _ h
    | defer d => exact hk _ _ h
    | enter f args =>
      refine ⟨hdp _, CallsIn.inRound l (callsIn_wide.2 (Calls.mono h ?_))⟩
      intro e w' he
      cases e with
      | returned v => exact hk _ _ he
      | panicked ch => exact hp _ _ _ he
      | outgrown => exact ho he
    | row row args => exact ⟨hdp _, rowsIn_of l (Rows.mono h (fun v w' he => hk _ _ he))⟩
    | _ => exact h.elim
  | halt x w =>
    cases x with
    | panic v => exact hp _ _ _ h
    | _ => exact h.elim
theorem wpIn_of {o : Oper} {a : Act} {w : World} {next next' : Act → World → Prop} {Q : Exit → Act → World → Prop} (l n : Nat) (hd : ∀ c, o.op ≠ .defer c) (hk : ∀ a w, next a w → next' a w) (h : o.wp P a w next Q) :
    o.wpIn (Fence.wide.inRound l) n P a w next' Q := by
  refine ⟨fun _ _ => trivial, ?_⟩
  rw [Fence.inRound_round, Oper.semAt_some l _ _ hd]
  exact uponIn_of l n hk (fun _ _ _ h => h) id h
theorem list_in {ops : Array Oper} {Q : Exit → Act → World → Prop} (l n : Nat) (hno : ¬ LetsOut Q) : ∀ (L : List Oper) (a : Act) (w : World), (∀ o ∈ L, ∀ c, o.op ≠ .defer c) → wpList P ops Q L a w → wpListIn (Fence.wide.inRound l) n P ops Q L a w
  | [], _, _, _, h => h
  | o :: L, a, w, hd, h => by
    unfold wpList at h
    unfold wpListIn
    have ih : ∀ a w, wpList P ops Q L a w → wpListIn (Fence.wide.inRound l) n P ops Q L a w := fun a w h => list_in l n hno L a w (fun o ho => hd o (List.mem_cons_of_mem _ ho)) h
    split at h
    · rename_i hw
      rw [if_pos hw]
      rcases h with h | h
      · exact wpIn_of l n (hd o (by simp)) ih h
      · exact absurd h.2 hno
    · rename_i hw
      rw [if_neg hw]
      exact ⟨fun _ _ => trivial, ih _ _ h⟩
theorem any_in {ops : Array Oper} {Q : Exit → Act → World → Prop} (l n : Nat) (hno : ¬ LetsOut Q) (hd : ∀ o ∈ ops, ∀ c, o.op ≠ .defer c) : ∀ (f : Nat) (s : Array Bool) (a : Act) (w : World), wpAny P .any ops Q f s a w → wpAnyIn (Fence.wide.inRound l) n P .any ops Q f s a w
  | 0, _, _, _, h => h
  | f + 1, s, a, w, h => by
    refine ⟨h.1, fun i hi => ?_⟩
    have hq := h.2 i hi
    unfold wpOp at hq
    unfold wpOpIn
    cases ho : ops[i]? with
    | none => simp only [ho] at hq ⊢; exact any_in l n hno hd f _ _ _ hq
    | some o =>
      simp only [ho] at hq ⊢
      split at hq
      · rename_i hw
        rw [if_pos hw]
        rcases hq with hq | hq
        · exact wpIn_of l n (hd o (Array.mem_of_getElem? ho)) (fun a w h => any_in l n hno hd f _ a w h) hq
        · exact absurd hq.2 hno
      · rename_i hw
        rw [if_neg hw]
        exact ⟨fun _ _ => trivial, any_in l n hno hd f _ _ _ hq⟩
theorem region_in_list {id l n : Nat} {Q : Exit → Act → World → Prop} {a : Act} {w : World} {L : List Oper} (hd : noDefer L = true) (hno : ¬ LetsOut Q) (h : wpList P L.toArray Q L a w) : (Code.region id L.toArray false).wpIn (Fence.wide.inRound l) n P Q a w :=
  wpIn_region_lit (list_in l n hno L a w (fun _ ho => noDefer_mem hd ho) h)
theorem region_in_any {id l n : Nat} {Q : Exit → Act → World → Prop} {a : Act} {w : World} {L : List Oper} (hm : P.follows .mixedOrders = true) (hd : noDefer L = true) (hno : ¬ LetsOut Q)
    (h : wpAny P .any L.toArray Q L.toArray.size (Array.replicate L.toArray.size false) a { w with drawn := w.drawn + 1 }) : (Code.region id L.toArray true).wpIn (Fence.wide.inRound l) n P Q a w :=
  wpIn_region_any hm (any_in l n hno (fun _ ho => noDefer_mem hd (by simpa using ho)) _ _ _ _ h)

/-- one operation within a round, by a law of it outside -/
theorem list_step_in {ops : Array Oper} {rest : List Oper} {o : Oper} {a : Act} {w : World} {Q : Exit → Act → World → Prop} (l n : Nat) (hg : o.guard = none) (hnd : ∀ c, o.op ≠ .defer c) (hno : ¬ LetsOut Q)
    (h : wpList P ops (Exit.then (wpListIn (Fence.wide.inRound l) n P ops Q rest) Q) [o] a w) : wpListIn (Fence.wide.inRound l) n P ops Q (o :: rest) a w := by
  unfold wpList at h
  rw [if_pos (by simp only [Region.wanted, hg])] at h
  rcases h with h | h
  · refine wpListIn_plain hg fun K hK => ⟨fun _ _ => trivial, ?_⟩
    rw [Fence.inRound_round, Oper.semAt_some l _ _ hnd]
    exact uponIn_of l n (fun a w h => hK a w h) (fun _ _ _ h => h) (fun h => h) h
  · exact absurd h.2 hno

/-- as wp_region_bel_tail, within a round -/
theorem wpIn_region_bel_tail {id r m : Nat} {Q : Exit → Act → World → Prop} {a : Act} {w : World} {l : List Oper} (n : Nat) (hm : P.follows .mixedOrders = true) (hB : Region.lexTailB .any l.toArray n = true) (hd : noDefer l = true) (hno : ¬ LetsOut Q)
    (h : wpQuiet P l.toArray (fun w' => ∃ p : Bel w, w' = p.out) (fun a' => ∀ w', (∃ p : Bel w, w' = p.out) → wpList P l.toArray Q (l.drop n) a' w') (l.take n) a) : (Code.region id l.toArray true).wpIn (Fence.wide.inRound r) m P Q a w := by
  simp only [Region.lexTailB, Bool.and_eq_true, decide_eq_true_eq] at hB
  obtain ⟨⟨⟨⟨hns, hn⟩, hs⟩, hc⟩, hlex⟩ := hB
  have hn' : n < l.length := by simpa using hn
  have e1 : (l.take n).length = n := by rw [List.length_take]; omega
  have e2 : (l.drop n).length = l.toArray.size - n := by simp
  have inv : HeadInv .any l.toArray n (Array.replicate l.toArray.size false) :=
    ⟨by simp, fun j oj _ hl => (by rw [getD_replicate_false] at hl; cases hl), fun t _ ht => getD_in (by simpa using ht) (getD_replicate_false _ _)⟩
  have H := headQ_lex (md := .any) (g := l.toArray.size - n) hns hs hc hn (l.take n) 0 _ a (fun j hj => by
    rw [e1] at hj
    simp [hj]) (by simpa using e1) inv (by rw [e1]; exact hlex) h
  refine region_in_any hm hd hno ?_
  have := headQ_any (Q := Q) (g := l.toArray.size - n) (fun s a' w' hw' hL => by
    have := wpAny_of_seq (md := .any) (Q' := Q) (l.drop n) n s a' w' (fun j => by simp [List.getElem?_drop]) (by rw [e2]; exact hL.1) (hL.2 w' hw')
    rwa [e2] at this) _ _ _ _ (show ∃ p : Bel w, { w with drawn := w.drawn + 1 } = p.out from ⟨⟨{ w with drawn := w.drawn + 1 }, ⟨rfl, rfl, rfl, Nat.le_refl _, fun _ _ => rfl⟩⟩, rfl⟩) H
  rw [e1, show n + (l.toArray.size - n) = l.toArray.size by omega] at this
  exact this

end Go.Proofs.Yteijkbanlpodpaa

/- A range over what lies below, with a row of one's own that grows: what stands meanwhile. -/
namespace Go.Proofs.Yteijkbanlpodpaa
open Go.RowKit Go.Shelf Go.BigFrame

attribute [local go_sem] Oper.semAt_some

/-- the answer under way, the directory -/
structure Sbx (w W : World) (base bD bS : Nat) (d : List UInt8) (l : List Ent) : Prop where
  s : ∃ v, Boxed W bS 22 v ∧ OwnE W base v l
  d : Boxed W bD 9 (.string (mk d))
  b : Below w.heap.size w W
  z : base ≤ W.heap.size
theorem OwnE.alloc' {w : World} {base : Nat} {v : Value} {es : List Ent} (h : OwnE w base v es) (o : Obj) : OwnE (w.alloc o) base v es := h.below (below_walk w o)
theorem OwnE.cells' {w : World} {base : Nat} {v : Value} {es : List Ent} (h : OwnE w base v es) {k : Nat} (hk : v.ownBlock = some k) : ∃ cur, w.heap[k]? = some (.cells cur 25 (0, 0)) := by
  rcases h.2 with ⟨rfl, _⟩ | ⟨g, cap, cur, rfl, _, hh, _⟩
  · cases hk
  · cases hk
    exact ⟨cur, hh⟩
theorem Sbx.step {w W W' : World} {base bD bS : Nat} {d : List UInt8} {l : List Ent} (h : Sbx w W base bD bS d l) (hb : Below W.heap.size W W') : Sbx w W' base bD bS d l := by
  obtain ⟨v, h1, h2⟩ := h.s
  exact ⟨⟨v, (hb.block _ h1.lt).trans h1, h2.below hb⟩, (hb.block _ h.d.lt).trans h.d, below_then h.b hb, Nat.le_trans h.z hb.size⟩
theorem sbx_own {w : World} {B base bD bS : Nat} {d : List UInt8} (hB : w.heap.size ≤ B) (f : List MEnt → List Ent) : OwnFrom B (fun pre W => Sbx w W base bD bS d (f pre)) := by
  intro s X Y row hs hg hr
  obtain ⟨v, h1, h2⟩ := hs.s
  obtain ⟨v', h1', h2', _⟩ := holdsRow_own base bS 22 25 3 (fun s => (f s).length) (fun s => entsV (f s)) (fun _ _ => True) s X Y row ⟨v, h1, h2, trivial⟩ hg (fun r e => (hr r e).2)
  refine ⟨⟨v', h1', h2'⟩, ?_, ownFrom_below (β := Unit) (Nat.le_refl _) hB () X Y row hs.b hg hr, Nat.le_trans hs.z hg.size⟩
  refine hs.d.kept hg (fun e => ?_)
  obtain ⟨_, o, ho, hc⟩ := hr bD e.symm
  rw [show X.heap[bD]? = _ from hs.d] at ho
  cases ho
  cases hc
/-- where a round begins: the entry in a block of its own, which is not the answer's -/
def SbA (base bS : Nat) (fr : Nat → MEnt → Array Value) (y : MEnt) (a : Act) (W : World) : Prop :=
  ∃ Be, base ≤ Be ∧ Eb W Be y.1 ∧ (∀ v, Boxed W bS 22 v → v.ownBlock ≠ some Be) ∧ a = { tmps := fr Be y, defers := [] }
theorem sbA_own {B base bS : Nat} {fr : Nat → MEnt → Array Value} (hS : bS < B) (hS2 : bS < base) (y : MEnt) (a : Act) : OwnFrom B (fun (_ : Unit) W => SbA base bS fr y a W) := by
  intro s X Y row hs hg hr
  obtain ⟨Be, h1, h2, h3, h4⟩ := hs
  have hlt := hp_lt (show X.heap[Be]? = _ from h2)
  refine ⟨Be, h1, h2.kept hg (fun e => ?_), fun v hv => h3 v ?_, h4⟩
  · obtain ⟨_, o, ho, hc⟩ := hr Be e.symm
    rw [show X.heap[Be]? = _ from h2] at ho
    cases ho
    cases hc
  · refine (hg.block bS (by omega) (fun e => ?_)).symm.trans hv
    have := (hr bS e.symm).1
    omega
theorem Sbx.put {w W : World} {base bD bS : Nat} {d : List UInt8} {l : List Ent} (h : Sbx w W base bD bS d l) {Be : Nat} (hB : base ≤ Be) (hw : w.heap.size ≤ base) (hD : bD < base) (hS : bS < base) (hne : ∀ v, Boxed W bS 22 v → v.ownBlock ≠ some Be) (i : Nat) (u : Value) :
    Sbx w (W.setCell ⟨Be, i, none⟩ u) base bD bS d l := by
  obtain ⟨v, h1, h2⟩ := h.s
  have hg : W.grownBy (W.setCell ⟨Be, i, none⟩ u) (some Be) := ⟨rfl, rfl, rfl, (KeepsWalks.setCell W _ u).size, fun k _ hk => Below.heap_setCell _ _ _ k (fun e => hk (by rw [e]))⟩
  refine ⟨⟨v, h1.kept hg (fun e => by cases e; omega), h2.kept hg (Or.inr (hne v h1))⟩, h.d.kept hg (fun e => by cases e; omega), h.b.setCell (p := ⟨Be, i, none⟩) (by show w.heap.size ≤ Be; omega) u, Nat.le_trans h.z hg.size⟩
theorem KeepsFrom.below {B : Nat} {W W' : World} (h : Below W.heap.size W W') : KeepsFrom B W W' := ⟨h.size, fun k _ _ hk _ => (h.block k (hp_lt hk)).trans hk⟩
theorem kpS_set {n0 x : Nat} (W : World) {Be : Nat} (hB : n0 ≤ Be) (i : Nat) (u : Value) : KpS n0 x W (W.setCell ⟨Be, i, none⟩ u) :=
  ⟨(KeepsWalks.setCell W _ u).size, fun k hk _ => Below.heap_setCell _ _ _ k (by show k ≠ Be; omega)⟩
theorem sb_new {w W : World} {base bD bS : Nat} {d : List UInt8} {l : List Ent} {o : Obj} (h : Sbx w W base bD bS d l) : ∀ v, Boxed (W.alloc o) bS 22 v → v.ownBlock ≠ some W.heap.size := by
  intro v hv e
  obtain ⟨v', h1, h2⟩ := h.s
  have h3 := (h1.alloc o).symm.trans hv
  injection h3 with h3
  injection h3 with h3 _ _
  injection h3 with h3
  injection h3 with h3 _
  subst h3
  have := (h2.lt _ e).2
  omega
/-- behind an append to the answer and its store -/
theorem Sbx.app {w W wA : World} {base bD bS : Nat} {d : List UInt8} {l l' : List Ent} {vs vA : Value} {tmp : Obj} (h : Sbx w W base bD bS d l) (hv : Boxed W bS 22 vs) (ho : OwnE W base vs l) (hwS : w.heap.size ≤ bS) (hS : bS < base) (hD : bD < bS)
    (hoA : OwnE wA base vA l') (hgA : (W.alloc tmp).grownBy wA vs.ownBlock) :
    Boxed wA bS 22 vs ∧ KeepsFrom base W (wA.setCell ⟨bS, 0, none⟩ vA) ∧ KpS base bS W (wA.setCell ⟨bS, 0, none⟩ vA) ∧ Sbx w (wA.setCell ⟨bS, 0, none⟩ vA) base bD bS d l' := by
  have hlow := (ho.alloc' tmp).lt
  have hvS : some bS ≠ vs.ownBlock := hv.not_row (by decide) ho
  have hv1 : Boxed wA bS 22 vs := (hv.alloc tmp).kept hgA hvS
  have hg2 := grownBy_setCell' wA bS vA
  have hblk : ∀ b, b < base → wA.heap[b]? = W.heap[b]? := fun b hb => by
    have h1 : b < W.heap.size := Nat.lt_of_lt_of_le hb h.z
    rw [hgA.block b (by simp; omega) (fun e => by have := hlow b e.symm; omega)]
    exact Below.heap_alloc W tmp b h1
  have hnA : some bS ≠ vA.ownBlock := hv1.not_row (by decide) hoA
  refine ⟨hv1, ⟨by have h5 := hgA.size; have h6 := hg2.size; rw [World.size_alloc] at h5; omega, fun k o hk hko hoc => ?_⟩, ⟨by have h5 := hgA.size; have h6 := hg2.size; rw [World.size_alloc] at h5; omega, fun b hb hne => ?_⟩, ⟨⟨vA, hv1.set vA, hoA.kept hg2 (Or.inr hnA.symm)⟩, ?_, ?_, ?_⟩⟩
  · have h1 := hp_lt hko
    rw [hg2.block k (by have h5 := hgA.size; rw [World.size_alloc] at h5; omega) (fun e => by cases e; omega)]
    rw [hgA.block k (by simp; omega) (fun e => ?_)]
    · exact (Below.heap_alloc W tmp k h1).trans hko
    · obtain ⟨cur, hc⟩ := ho.cells' e.symm
      rw [hc] at hko
      cases hko
      cases hoc
  · rw [hg2.block b (by have h5 := hgA.size; have h6 := h.z; rw [World.size_alloc] at h5; omega) (fun e => by cases e; exact hne rfl)]
    exact hblk b hb
  · refine Boxed.kept ?_ hg2 (fun e => by cases e; omega)
    exact (hblk bD (by omega)).trans h.d
  · refine Below.setCell (p := ⟨bS, 0, none⟩) ?_ hwS vA
    refine (h.b.alloc h.b.size tmp).grown hgA (by have := h.b.size; simp; omega) (fun k e => by have := hlow k e; omega)
  · have h5 := hgA.size
    have h6 := hg2.size
    have h7 := h.z
    rw [World.size_alloc] at h5
    omega

end Go.Proofs.Yteijkbanlpodpaa

/- As TSbx, with no directory in a box (written by wbx.py). -/
namespace Go.Proofs.Yteijkbanlpodpaa
open Go.RowKit Go.Shelf Go.BigFrame

attribute [local go_sem] Oper.semAt_some

/-- the answer under way, the directory -/
structure Wbx (w W : World) (base bS : Nat) (l : List Ent) : Prop where
  s : ∃ v, Boxed W bS 22 v ∧ OwnE W base v l
  b : Below w.heap.size w W
  z : base ≤ W.heap.size
theorem Wbx.step {w W W' : World} {base bS : Nat} {l : List Ent} (h : Wbx w W base bS l) (hb : Below W.heap.size W W') : Wbx w W' base bS l := by
  obtain ⟨v, h1, h2⟩ := h.s
  exact ⟨⟨v, (hb.block _ h1.lt).trans h1, h2.below hb⟩, below_then h.b hb, Nat.le_trans h.z hb.size⟩
theorem wbx_own {w : World} {B base bS : Nat} (hB : w.heap.size ≤ B) (f : List MEnt → List Ent) : OwnFrom B (fun pre W => Wbx w W base bS (f pre)) := by
  intro s X Y row hs hg hr
  obtain ⟨v, h1, h2⟩ := hs.s
  obtain ⟨v', h1', h2', _⟩ := holdsRow_own base bS 22 25 3 (fun s => (f s).length) (fun s => entsV (f s)) (fun _ _ => True) s X Y row ⟨v, h1, h2, trivial⟩ hg (fun r e => (hr r e).2)
  exact ⟨⟨v', h1', h2'⟩, ownFrom_below (β := Unit) (Nat.le_refl _) hB () X Y row hs.b hg hr, Nat.le_trans hs.z hg.size⟩
/-- where a round begins: the entry in a block of its own, which is not the answer's -/
def WbA (base bS : Nat) (fr : Nat → MEnt → Array Value) (y : MEnt) (a : Act) (W : World) : Prop :=
  ∃ Be, base ≤ Be ∧ Eb W Be y.1 ∧ (∀ v, Boxed W bS 22 v → v.ownBlock ≠ some Be) ∧ a = { tmps := fr Be y, defers := [] }
theorem wbA_own {B base bS : Nat} {fr : Nat → MEnt → Array Value} (hS : bS < B) (hS2 : bS < base) (y : MEnt) (a : Act) : OwnFrom B (fun (_ : Unit) W => WbA base bS fr y a W) := by
  intro s X Y row hs hg hr
  obtain ⟨Be, h1, h2, h3, h4⟩ := hs
  have hlt := hp_lt (show X.heap[Be]? = _ from h2)
  refine ⟨Be, h1, h2.kept hg (fun e => ?_), fun v hv => h3 v ?_, h4⟩
  · obtain ⟨_, o, ho, hc⟩ := hr Be e.symm
    rw [show X.heap[Be]? = _ from h2] at ho
    cases ho
    cases hc
  · refine (hg.block bS (by omega) (fun e => ?_)).symm.trans hv
    have := (hr bS e.symm).1
    omega
theorem wb_new {w W : World} {base bS : Nat} {l : List Ent} {o : Obj} (h : Wbx w W base bS l) : ∀ v, Boxed (W.alloc o) bS 22 v → v.ownBlock ≠ some W.heap.size := by
  intro v hv e
  obtain ⟨v', h1, h2⟩ := h.s
  have h3 := (h1.alloc o).symm.trans hv
  injection h3 with h3
  injection h3 with h3 _ _
  injection h3 with h3
  injection h3 with h3 _
  subst h3
  have := (h2.lt _ e).2
  omega
/-- behind an append to the answer and its store -/
theorem Wbx.app {w W wA : World} {base bS : Nat} {l l' : List Ent} {vs vA : Value} {tmp : Obj} (h : Wbx w W base bS l) (hv : Boxed W bS 22 vs) (ho : OwnE W base vs l) (hwS : w.heap.size ≤ bS) (hS : bS < base)
    (hoA : OwnE wA base vA l') (hgA : (W.alloc tmp).grownBy wA vs.ownBlock) :
    Boxed wA bS 22 vs ∧ KeepsFrom base W (wA.setCell ⟨bS, 0, none⟩ vA) ∧ KpS base bS W (wA.setCell ⟨bS, 0, none⟩ vA) ∧ Wbx w (wA.setCell ⟨bS, 0, none⟩ vA) base bS l' := by
  have hlow := (ho.alloc' tmp).lt
  have hvS : some bS ≠ vs.ownBlock := hv.not_row (by decide) ho
  have hv1 : Boxed wA bS 22 vs := (hv.alloc tmp).kept hgA hvS
  have hg2 := grownBy_setCell' wA bS vA
  have hblk : ∀ b, b < base → wA.heap[b]? = W.heap[b]? := fun b hb => by
    have h1 : b < W.heap.size := Nat.lt_of_lt_of_le hb h.z
    rw [hgA.block b (by simp; omega) (fun e => by have := hlow b e.symm; omega)]
    exact Below.heap_alloc W tmp b h1
  have hnA : some bS ≠ vA.ownBlock := hv1.not_row (by decide) hoA
  refine ⟨hv1, ⟨by have h5 := hgA.size; have h6 := hg2.size; rw [World.size_alloc] at h5; omega, fun k o hk hko hoc => ?_⟩, ⟨by have h5 := hgA.size; have h6 := hg2.size; rw [World.size_alloc] at h5; omega, fun b hb hne => ?_⟩, ⟨⟨vA, hv1.set vA, hoA.kept hg2 (Or.inr hnA.symm)⟩, ?_, ?_⟩⟩
  · have h1 := hp_lt hko
    rw [hg2.block k (by have h5 := hgA.size; rw [World.size_alloc] at h5; omega) (fun e => by cases e; omega)]
    rw [hgA.block k (by simp; omega) (fun e => ?_)]
    · exact (Below.heap_alloc W tmp k h1).trans hko
    · obtain ⟨cur, hc⟩ := ho.cells' e.symm
      rw [hc] at hko
      cases hko
      cases hoc
  · rw [hg2.block b (by have h5 := hgA.size; have h6 := h.z; rw [World.size_alloc] at h5; omega) (fun e => by cases e; exact hne rfl)]
    exact hblk b hb
  · refine Below.setCell (p := ⟨bS, 0, none⟩) ?_ hwS vA
    refine (h.b.alloc h.b.size tmp).grown hgA (by have := h.b.size; simp; omega) (fun k e => by have := hlow k e; omega)
  · have h5 := hgA.size
    have h6 := hg2.size
    have h7 := h.z
    rw [World.size_alloc] at h5
    omega

end Go.Proofs.Yteijkbanlpodpaa

/- under, with whatever older block left out. -/
namespace Go.Proofs.Yteijkbanlpodpaa
open Go.RowKit Go.Shelf Go.BigFrame

attribute [local go_sem] Oper.semAt_some

set_option maxRecDepth 100000 in
set_option maxHeartbeats 1000000 in
theorem under_all (tv : Value) (t : List Ent) (d : List UInt8) (w : World) (h : Ents w tv t) (hd : d.length ≤ 4611686018427387904) :
    Calls Try.prog 22 #[tv, .string (mk d)] w fun r w' => ∃ Bt Bl f, r = .returned (.func (.func 41) #[] #[.pointer (some ⟨Bt, 0, none⟩), .pointer (some ⟨Bl, 0, none⟩)]) ∧ (∀ x, x < w.heap.size → (∀ g o n c, 0 < t.length → tv = .slice (some ⟨g, o, none⟩) n c → g ≠ x) → Und w' w'.heap.size x tv t f d Bt Bl) ∧ w.heap.size ≤ Bt ∧ w.heap.size ≤ Bl ∧ Below w.heap.size w w' := by
  have hmf : ∀ (fn : Fn) (first cap : Array Value) (w : World), (Instr.makeFunc fn first cap).run Try.prog w = .ok (.func fn first cap) w := fun _ _ _ _ => rfl
  obtain ⟨ao, c, e0⟩ := h.shape
  have HET := hid h
  subst e0
  clear h
  by_cases h0 : d = []
  · have HB := hid (fun W => below_fn d W hd)
    have H0 := hid h0
    clear h0
    go_enter Try.func22, Try.ntmps22
    go_wp2_with (go_at_call 40; go_loud (refine (HB.out _).mono ?_; rintro r w1 ⟨f, rfl, hf, hb1⟩; have hf1 := hf.one H0.out; subst hf1; have HB1 := hid hb1; clear hb1 hf))
    go_ret
    have hb0 := below_walk w (.cells #[.slice ao t.length c] 22)
    have hb1 := below_then hb0 HB1.out
    have hz1 : w.heap.size + 1 ≤ w1.heap.size := by have := HB1.out.size; simpa using this
    have hb2 := hb1.alloc hb1.size (.cells #[.func (.func 60) #[] #[]] 65)
    have hz2 : (w1.alloc (.cells #[.func (.func 60) #[] #[]] 65)).heap.size = w1.heap.size + 1 := by simp
    refine ⟨_, _, .func (.func 60) #[] #[], rfl, ?_, Nat.le_refl _, by omega, hb2⟩
    intro x hx hap
    have HAP := hid hap
    refine ⟨?_, by simp, ⟨by rw [hz2]; omega, by omega⟩, ⟨by rw [hz2]; omega, by omega⟩, ⟨_, _, rfl⟩, fun k hk => ?_, Or.inl ⟨H0.out, rfl⟩⟩
    · rw [(below_walk w1 _).cell (p := ⟨w.heap.size, 0, none⟩) (by show w.heap.size < w1.heap.size; omega), HB1.out.cell (p := ⟨w.heap.size, 0, none⟩) (by simp)]
      simp
    · obtain ⟨g, o, rfl, h2, h3⟩ := HET.out.at k hk
      exact ⟨g, o, c, rfl, by rw [hz2]; omega, HAP.out _ _ _ _ (by omega) rfl, h3.below h2 hb2⟩
  · have HB := hid (fun W => below_new d W hd h0)
    have H0 := hid h0
    clear h0
    go_enter Try.func22, Try.ntmps22
    go_wp2_with (go_at_call 40; refine (HB.out _).mono ?_; rintro r w1 ⟨f, rfl, hf, hb1⟩; obtain ⟨B, rfl, hB1, hB2, hB3⟩ := hf; have HBL := hid hB1; have HBC := hid hB2; have HBN := hid hB3; clear hB1 hB2 hB3; have HB1 := hid hb1; clear hb1)
    go_ret
    have hb0 := below_walk w (.cells #[.slice ao t.length c] 22)
    have hb1 := below_then hb0 HB1.out
    have hz1 : w.heap.size + 1 ≤ w1.heap.size := by have := HB1.out.size; simpa using this
    have hb2 := hb1.alloc hb1.size (.cells #[.func (.func 61) #[] #[.pointer (some ⟨B, 0, none⟩)]] 65)
    have hz2 : (w1.alloc (.cells #[.func (.func 61) #[] #[.pointer (some ⟨B, 0, none⟩)]] 65)).heap.size = w1.heap.size + 1 := by simp
    refine ⟨_, _, .func (.func 61) #[] #[.pointer (some ⟨B, 0, none⟩)], rfl, ?_, Nat.le_refl _, by omega, hb2⟩
    intro x hx hap
    have HAP := hid hap
    refine ⟨?_, by simp, ⟨by rw [hz2]; omega, by omega⟩, ⟨by rw [hz2]; omega, by omega⟩, ⟨_, _, rfl⟩, fun k hk => ?_, Or.inr ⟨H0.out, B, rfl, by rw [hz2]; have := HBL.out; omega, by have h4 := HBN.out; simp at h4; omega, ((below_walk w1 _).cell (p := ⟨B, 0, none⟩) HBL.out).trans HBC.out⟩⟩
    · rw [(below_walk w1 _).cell (p := ⟨w.heap.size, 0, none⟩) (by show w.heap.size < w1.heap.size; omega), HB1.out.cell (p := ⟨w.heap.size, 0, none⟩) (by simp)]
      simp
    · obtain ⟨g, o, rfl, h2, h3⟩ := HET.out.at k hk
      exact ⟨g, o, c, rfl, by rw [hz2]; omega, HAP.out _ _ _ _ (by omega) rfl, h3.below h2 hb2⟩

end Go.Proofs.Yteijkbanlpodpaa

/- append(own, entries...) as one step of a region that draws its order. -/
namespace Go.Proofs.Yteijkbanlpodpaa
open Go.RowKit Go.BigFrame

theorem step_app_ent {ops : Array Oper} {o : Oper} {a : Act} {w : World} {K : Act → World → Prop} {Q : Exit → Act → World → Prop} {E : Prop} (hgd : o.guard = none) (s x : Operand)
    (ho : o.op = .call { callee := .builtin .append, args := #[s, x], argTypes := #[22, 22] })
    (base : Nat) (v : Value) (ts : List Ent) (hs : a.eval s = v) (hown : OwnE w base v ts) (vx : Value) (us : List Ent) (hx : a.eval x = vx) (hc : Ents w vx us)
    (hlen : ts.length + us.length ≤ 3298534883328) (hbase : base ≤ w.heap.size)
    (h : ∀ v' w', OwnE w' base v' (ts ++ us) → w.grownBy w' v.ownBlock → K (a.put o.dst v') w') : if Region.wanted o (yielded ops a.tmps) = true then Oper.wp Try.prog o a w K Q else E := by
  rw [if_pos (by simp [Region.wanted, hgd])]
  obtain ⟨i0, hi, hz0, hz1, hz2⟩ := info_parts Try.infoEnt
  have fin : ∀ (ad : Addr) (m c : Nat) (news : List Value), news = entsV us → vx = .slice (some ad) m c → m = us.length → (∀ j u, news[j]? = some u → w.cell? (ad.add j) = some u) → Oper.wp Try.prog o a w K Q := by
    intro ad m c news hn hv hm hcl
    subst hn hv hm
    have hl : (entsV us).length = us.length * 3 := entsV_length us
    obtain ⟨v', w', hr, h2, h3, _⟩ := run_append_own (P := Try.prog) w base 22 o.type 25 i0 (.agg #[.string ⟨#[]⟩, .int .i64 0, .string ⟨#[]⟩]) 3 40 Try.underlying22 hi hz0 hz1 hz2 rfl (by decide) v ts.length (entsV ts) hown ad us.length c (entsV us) hl hcl (entsV_one us) (by unfold maxLen; omega) (by omega) hbase
    unfold Oper.wp
    simp [execOp, ho, resolve, invoke, builtin, hs, hx, hr, Result.andThen]
    refine h v' w' ?_ h3
    unfold OwnE
    rw [List.length_append, entsV_app]
    exact h2
  rcases hc with ⟨ao, c, rfl, rfl, h0⟩ | ⟨g, off, c, rfl, hlt, h1, h2⟩
  · cases ao with
    | none =>
      obtain rfl := h0 rfl
      have hrun := run_append_owned_none (P := Try.prog) (w := w) base 22 o.type 25 i0 3 Try.underlying22 hi v ts.length (entsV ts) hown
      unfold Oper.wp
      simp [execOp, ho, resolve, invoke, builtin, hs, hx, hrun, Result.andThen]
      exact h v w (by simpa using hown) (gb_refl _ _)
    | some ad => exact fin ad 0 c [] rfl rfl rfl (fun j u hj => by simp at hj)
  · refine fin ⟨g, off, none⟩ _ c _ rfl rfl rfl ?_
    intro i u hi
    obtain ⟨j, hj, h3⟩ := entsV_inv hi
    obtain ⟨c0, c1, c2⟩ := h2 j hj
    rw [show (⟨g, off, none⟩ : Addr).add i = ⟨g, off + i, none⟩ by by_cases h0 : i = 0 <;> simp [Addr.add, h0]]
    rcases h3 with ⟨rfl, rfl⟩ | ⟨rfl, rfl⟩ | ⟨rfl, rfl⟩
    · exact c0
    · rw [← Nat.add_assoc]; exact c1
    · rw [← Nat.add_assoc]; exact c2

end Go.Proofs.Yteijkbanlpodpaa

/- The program's Walk, with whatever older block left out (TWalk by its contract alone changed). -/
namespace Go.Proofs.Yteijkbanlpodpaa
open Go.RowKit Go.Shelf Go.BigFrame

attribute [local go_sem] Oper.semAt_some

/-- what Walk goes over -/
def wkL (t : List Ent) (d : List UInt8) : List Ent := if (chkP t).2 = 0 then t.filter (fun e => lyP d e.1) else []
theorem cell_put {w : World} {D b k : Nat} {u : Value} {o : Obj} {o' : Option (List Deferred)} (hD : w.heap[D]? = some (.deferred o')) (h : w.cell? ⟨b, k, none⟩ = some u) : (w.putObj D o).cell? ⟨b, k, none⟩ = some u := by
  have hne : D ≠ b := by
    rintro rfl
    simp [World.cell?, hD] at h
  exact (World.cell?_of_block (by simp [World.putObj, hne])).trans h
theorem Und.put {w : World} {n0 x : Nat} {tv : Value} {t : List Ent} {f : Value} {d : List UInt8} {Bt Bl D : Nat} {o : Obj} {o' : Option (List Deferred)} (h : Und w n0 x tv t f d Bt Bl) (hD : w.heap[D]? = some (.deferred o')) : Und (w.putObj D o) n0 x tv t f d Bt Bl := by
  refine ⟨cell_put hD h.ct, cell_put hD h.cl, h.lt, h.ll, h.sh, fun j hj => ?_, ?_⟩
  · obtain ⟨g, o, c, h1, h2, h3, h4, h5, h6⟩ := h.et j hj
    exact ⟨g, o, c, h1, h2, h3, cell_put hD h4, cell_put hD h5, cell_put hD h6⟩
  · rcases h.fl with h1 | ⟨h0, B, h1, h2, h3, h4⟩
    · exact Or.inl h1
    · exact Or.inr ⟨h0, B, h1, h2, h3, cell_put hD h4⟩

set_option maxRecDepth 100000 in
set_option maxHeartbeats 4000000 in
theorem walk_all (v : Value) (t : List Ent) (d : List UInt8) (w : World) (h : Ents w v t) (hs : Short t) (hn : t.length ≤ 4611686018427387904) (hd : d.length ≤ 4611686018427387904) :
    Calls Try.prog 14 #[v, .string (mk d)] w fun r w' => ∃ Bt Bl f vl, r = .returned (.func (.func 41) #[] #[.pointer (some ⟨Bt, 0, none⟩), .pointer (some ⟨Bl, 0, none⟩)]) ∧ (∀ x, x < w.heap.size → Und w' w'.heap.size x vl (wkL t d) f d Bt Bl) ∧ Below w.heap.size w w' := by
  obtain ⟨E0, HE0⟩ : ∃ E : Int, Hid ((chkP t).2 = E) := ⟨_, rfl⟩
  have HR := hid (right_one v t w h hs hn E0 HE0.out)
  have HET := hid h
  obtain ⟨ao, c, e0⟩ := h.shape
  subst e0
  clear h hs
  by_cases h0 : E0 = 0
  · subst h0
    have HRT := hid (rgt_iff.1 HE0.out)
    obtain ⟨T, hT⟩ := vals_of HRT.out.may
    have HT := hid hT
    have hTl : T.length ≤ 1024 := by have := HRT.out.many; rw [HT.out, vals_len] at this; exact this
    have HWK := hid (show wkL t d = t.filter (fun e => lyP d e.1) from by unfold wkL; rw [if_pos HE0.out])
    clear hT
    refine (callsIn_wide (n := 9)).1 ?_
    refine callsIn_of_wp_marks Try.func14 rfl trivial ?_ rfl
    simp only [Try.ntmps14, List.size_toArray, List.length_cons, List.length_nil, Nat.reduceAdd, Nat.reduceSub, Array.replicate_succ, Array.replicate_zero, List.push_toArray, List.append_toArray, List.nil_append, List.cons_append]
    gi_wp2_with fail
    refine ⟨trivial, (callsIn_wide.2 HR.out).mono ?_⟩
    rintro r w2 ⟨rfl, hb1⟩
    have HB2 := hid hb1
    clear hb1 HR
    have HTV := hid (show Ents w (.slice ao t.length c) t from HET.out)
    have HB3 := hid (HB2.out.alloc HB2.out.size (.cells #[.slice none 0 0] 22))
    have HS3 := hid (Boxed.new w2 22 (.slice none 0 0))
    have HUN := hid (under_any (.slice ao t.length c) t d (w2.alloc (.cells #[.slice none 0 0] 22)) (HTV.out.below HB3.out) hd w2.heap.size HS3.out.lt (fun g o n c h0 e => by have := HTV.out.low h0 e; have := HB2.out.size; omega))
    have HDS := hid (show w.heap.size ≤ w2.heap.size from HB2.out.size)
    gi_wp2_with fail
    refine ⟨trivial, (callsIn_wide.2 HUN.out).mono ?_⟩
    rintro r w4 ⟨Bt, Bl, f, rfl, hU, hBt, hBl, hb4⟩
    have HB4 := hid (below_then HB3.out hb4)
    have HS4 := hid (show Boxed w4 w2.heap.size 22 (.slice none 0 0) from (hb4.block _ HS3.out.lt).trans HS3.out)
    have HU := hid hU
    clear hU hb4 hBt hBl HUN HB3 HS3
    gi_wp2_with fail
    have HSL := hid (show w2.heap.size < w4.heap.size from HS4.out.lt)
    have HU2 := hid (show Und w4 w4.heap.size w2.heap.size (.slice ao t.length c) (vals T) f d Bt Bl from by rw [← HT.out]; exact HU.out)
    refine wpIn_rangeFunc_ownH rfl (by omega) (gf := 41) (lb := #[.pointer (some ⟨Bt, 0, none⟩), .pointer (some ⟨Bl, 0, none⟩)]) rfl trivial (enters_of Try.func41 (by kernel_rfl) rfl)
      (und_stops _ (by omega) Bt Bl w4.heap.size w2.heap.size T hTl (.slice ao t.length c) f d w4 HU2.out (Nat.le_refl _))
      (fun h k => kpS_t h k) (kpS_b (Nat.le_refl _)) (Below.refl _ _) (fun _ => rfl)
      (fun pre W => Wbx w W w4.heap.size w2.heap.size (vals pre))
      (fun _ _ _ => False)
      (wbx_own HB4.out.size (fun pre => vals pre)) (fun _ _ _ _ _ hs _ _ => hs)
      ⟨⟨_, HS4.out, OwnE.nil _ _⟩, HB4.out, Nat.le_refl _⟩
      (WbA w4.heap.size w2.heap.size (fun Be y => #[(.slice ao t.length c), .string (mk d), undef, undef, .nilFunc, .pointer (some ⟨w2.heap.size, 0, none⟩), undef, .pointer (some ⟨Be, 0, none⟩), .slice ao t.length c, .slice (some ⟨w.heap.size, 0, none⟩) 1 1, .int .i64 0, .bool false, (.slice ao t.length c), .string (mk d), .func (.func 41) #[] #[.pointer (some ⟨Bt, 0, none⟩), .pointer (some ⟨Bl, 0, none⟩)], .string (mk (spN y.1.1)), entA y.1, undef, undef, undef, undef, undef, undef, undef, undef]))
      (fun y a' => wbA_own HSL.out HSL.out y a') ?assign ?body ?done ?stop
    case assign =>
      intro l pre y W K hi hK
      unfold undE entA
      gi_wp2
      exact hK _ _ ((KeepsOthers.alloc _ _).from _) (kpS_below (below_walk W _) hi.z) (hi.step (below_walk W _)) ⟨W.heap.size, hi.z, Eb.new W y.1, wb_new hi, rfl⟩
    case body =>
      rintro l pre y a' W hl _ hi ⟨Be, hBe, heb, hnb, rfl⟩ hlt
      obtain ⟨vs, hv, ho⟩ := hi.s
      obtain ⟨av, cv, hvs⟩ := ho.ents.shape
      subst hvs
      have HCL := hid (fun W => ownEntry_any y.1 W (may_shr' y.2))
      unfold entA at HCL ⊢
      have HPL := hid (show (vals pre).length + 1 ≤ 3298534883328 by rw [vals_len]; omega)
      have HMP := hid (show vals (pre ++ [y]) = vals pre ++ [y.1] by unfold vals; rw [List.map_append]; rfl)
      generalize vals pre = L at *
      have HBd : Hid (Below W.heap.size W W.drew) := hid (Below.refl _ W).drew
      have HI := hid hi
      have HId : Hid (Wbx w W.drew w4.heap.size w2.heap.size L) := hid (HI.out.step HBd.out)
      have HVd : Hid (Boxed W.drew w2.heap.size 22 (.slice av L.length cv)) := hid hv
      have HOd : Hid (OwnE W.drew w4.heap.size (.slice av L.length cv) L) := hid (ho.below HBd.out)
      have HEd : Hid (Eb W.drew Be y.1) := hid heb
      clear hi heb hnb hv ho hBe
      gi_wp2_with fail
      refine region_in_any (by kernel_rfl) (by kernel_rfl) (by rintro ⟨_, _, h⟩; exact h) ?_
      change wpAny _ _ _ _ _ _ _ (World.drew _)
      generalize W.drew = wd at *
      refine wpAny_ready (rs := [0, 1]) (by kernel_rfl) (by simp) ?_
      refine (AllReady.cons rfl (fun K hK => ?_) (AllReady.cons rfl (fun K hK => ?_) AllReady.nil))
      · have c0 := HVd.out.cell
        go_simp
        refine hK _ _ ?_
        clear hK K c0
        refine wpAny_ready (rs := [1]) (by kernel_rfl) (by simp) ?_
        refine (AllReady.cons rfl (fun K hK => ?_) AllReady.nil)
        · obtain ⟨z0, z1, z2⟩ := HEd.out.at
          go_simp
          refine hK _ _ ?_
          clear hK K z0 z1 z2
          refine wpAny_ready (rs := [2]) (by kernel_rfl) (by simp) ?_
          refine (AllReady.cons rfl (fun K hK => ?_) AllReady.nil)
          · go_simp
            refine (HCL.out _).mono ?_
            rintro r w6 ⟨rfl, hb6⟩
            have HV6 := hid (show Boxed w6 w2.heap.size 22 (.slice av L.length cv) from (hb6.block _ HVd.out.lt).trans HVd.out)
            have HI6 := hid (HId.out.step hb6)
            have HO6 := hid (HOd.out.below hb6)
            have HK6 := hid ((KeepsFrom.below (B := w4.heap.size) HBd.out).trans (KeepsFrom.below hb6))
            have HP6 := hid (kpS_t (kpS_below (x := w2.heap.size) HBd.out HI.out.z) (kpS_below hb6 HId.out.z))
            clear hb6
            refine hK _ _ ?_
            clear hK K
            refine wpAny_ready (rs := [3]) (by kernel_rfl) (by simp) ?_
            refine (AllReady.cons rfl (fun K hK => ?_) AllReady.nil)
            · go_simp
              refine hK _ _ ?_
              clear hK K
              have HV7 := hid (show Boxed (w6.alloc (.cells #[.string (mk y.1.1), .int .i64 y.1.2.1, .string (mk y.1.2.2)] 25)) w2.heap.size 22 (.slice av L.length cv) from HV6.out.alloc (.cells #[.string (mk y.1.1), .int .i64 y.1.2.1, .string (mk y.1.2.2)] 25))
              refine wpAny_ready (rs := [4]) (by kernel_rfl) (by simp) ?_
              refine (AllReady.cons rfl (fun K hK => ?_) AllReady.nil)
              · have HOX := hid (HO6.out.alloc' (.cells #[.string (mk y.1.1), .int .i64 y.1.2.1, .string (mk y.1.2.2)] 25))
                have HBX := hid (show w4.heap.size ≤ (w6.alloc (.cells #[.string (mk y.1.1), .int .i64 y.1.2.1, .string (mk y.1.2.2)] 25)).heap.size by have := HI6.out.z; rw [World.size_alloc]; omega)
                refine step_app_ent (by rfl) (.tmp 17) (.tmp 20) (by rfl) w4.heap.size _ L (by rfl) HOX.out _ [y.1] (by rfl) (ents_one _ _) (by have := HPL.out; simp; omega) HBX.out ?_
                intro vA wA hoA hgA
                obtain ⟨hvA, hK1, hK2, hI⟩ := HI6.out.app HV6.out HO6.out HDS.out HSL.out hoA hgA
                have HKA := hid (HK6.out.trans hK1)
                have HPA := hid (kpS_t HP6.out hK2)
                have HIA := hid hI
                have cA1 := hvA.cell
                have fA1 := hvA.frozen
                obtain ⟨aA, cA, eA⟩ := hoA.ents.shape
                generalize (L ++ [y.1]).length = nL at eA
                subst eA
                clear hoA hgA hvA hK1 hK2 hI
                refine hK _ _ ?_
                clear hK K
                refine wpAny_ready (rs := [5]) (by kernel_rfl) (by simp) ?_
                refine (AllReady.cons rfl (fun K hK => ?_) AllReady.nil)
                · go_simp
                  refine hK _ _ ?_
                  clear hK K
                  refine wpAny_done (by kernel_rfl) ?_ _
                  gi_wp2_with fail
                  exact ⟨HKA.out, HPA.out, by show Wbx _ _ _ _ (vals (pre ++ [y])); rw [HMP.out]; exact HIA.out⟩
      · obtain ⟨z0, z1, z2⟩ := HEd.out.at
        go_simp
        refine hK _ _ ?_
        clear hK K z0 z1 z2
        refine wpAny_ready (rs := [0, 2]) (by kernel_rfl) (by simp) ?_
        refine (AllReady.cons rfl (fun K hK => ?_) (AllReady.cons rfl (fun K hK => ?_) AllReady.nil))
        · have c0 := HVd.out.cell
          go_simp
          refine hK _ _ ?_
          clear hK K c0
          refine wpAny_ready (rs := [2]) (by kernel_rfl) (by simp) ?_
          refine (AllReady.cons rfl (fun K hK => ?_) AllReady.nil)
          · go_simp
            refine (HCL.out _).mono ?_
            rintro r w6 ⟨rfl, hb6⟩
            have HV6 := hid (show Boxed w6 w2.heap.size 22 (.slice av L.length cv) from (hb6.block _ HVd.out.lt).trans HVd.out)
            have HI6 := hid (HId.out.step hb6)
            have HO6 := hid (HOd.out.below hb6)
            have HK6 := hid ((KeepsFrom.below (B := w4.heap.size) HBd.out).trans (KeepsFrom.below hb6))
            have HP6 := hid (kpS_t (kpS_below (x := w2.heap.size) HBd.out HI.out.z) (kpS_below hb6 HId.out.z))
            clear hb6
            refine hK _ _ ?_
            clear hK K
            refine wpAny_ready (rs := [3]) (by kernel_rfl) (by simp) ?_
            refine (AllReady.cons rfl (fun K hK => ?_) AllReady.nil)
            · go_simp
              refine hK _ _ ?_
              clear hK K
              have HV7 := hid (show Boxed (w6.alloc (.cells #[.string (mk y.1.1), .int .i64 y.1.2.1, .string (mk y.1.2.2)] 25)) w2.heap.size 22 (.slice av L.length cv) from HV6.out.alloc (.cells #[.string (mk y.1.1), .int .i64 y.1.2.1, .string (mk y.1.2.2)] 25))
              refine wpAny_ready (rs := [4]) (by kernel_rfl) (by simp) ?_
              refine (AllReady.cons rfl (fun K hK => ?_) AllReady.nil)
              · have HOX := hid (HO6.out.alloc' (.cells #[.string (mk y.1.1), .int .i64 y.1.2.1, .string (mk y.1.2.2)] 25))
                have HBX := hid (show w4.heap.size ≤ (w6.alloc (.cells #[.string (mk y.1.1), .int .i64 y.1.2.1, .string (mk y.1.2.2)] 25)).heap.size by have := HI6.out.z; rw [World.size_alloc]; omega)
                refine step_app_ent (by rfl) (.tmp 17) (.tmp 20) (by rfl) w4.heap.size _ L (by rfl) HOX.out _ [y.1] (by rfl) (ents_one _ _) (by have := HPL.out; simp; omega) HBX.out ?_
                intro vA wA hoA hgA
                obtain ⟨hvA, hK1, hK2, hI⟩ := HI6.out.app HV6.out HO6.out HDS.out HSL.out hoA hgA
                have HKA := hid (HK6.out.trans hK1)
                have HPA := hid (kpS_t HP6.out hK2)
                have HIA := hid hI
                have cA1 := hvA.cell
                have fA1 := hvA.frozen
                obtain ⟨aA, cA, eA⟩ := hoA.ents.shape
                generalize (L ++ [y.1]).length = nL at eA
                subst eA
                clear hoA hgA hvA hK1 hK2 hI
                refine hK _ _ ?_
                clear hK K
                refine wpAny_ready (rs := [5]) (by kernel_rfl) (by simp) ?_
                refine (AllReady.cons rfl (fun K hK => ?_) AllReady.nil)
                · go_simp
                  refine hK _ _ ?_
                  clear hK K
                  refine wpAny_done (by kernel_rfl) ?_ _
                  gi_wp2_with fail
                  exact ⟨HKA.out, HPA.out, by show Wbx _ _ _ _ (vals (pre ++ [y])); rw [HMP.out]; exact HIA.out⟩
        · go_simp
          refine (HCL.out _).mono ?_
          rintro r w6 ⟨rfl, hb6⟩
          have HV6 := hid (show Boxed w6 w2.heap.size 22 (.slice av L.length cv) from (hb6.block _ HVd.out.lt).trans HVd.out)
          have HI6 := hid (HId.out.step hb6)
          have HO6 := hid (HOd.out.below hb6)
          have HK6 := hid ((KeepsFrom.below (B := w4.heap.size) HBd.out).trans (KeepsFrom.below hb6))
          have HP6 := hid (kpS_t (kpS_below (x := w2.heap.size) HBd.out HI.out.z) (kpS_below hb6 HId.out.z))
          clear hb6
          refine hK _ _ ?_
          clear hK K
          refine wpAny_ready (rs := [0, 3]) (by kernel_rfl) (by simp) ?_
          refine (AllReady.cons rfl (fun K hK => ?_) (AllReady.cons rfl (fun K hK => ?_) AllReady.nil))
          · have c0 := HV6.out.cell
            go_simp
            refine hK _ _ ?_
            clear hK K c0
            refine wpAny_ready (rs := [3]) (by kernel_rfl) (by simp) ?_
            refine (AllReady.cons rfl (fun K hK => ?_) AllReady.nil)
            · go_simp
              refine hK _ _ ?_
              clear hK K
              have HV7 := hid (show Boxed (w6.alloc (.cells #[.string (mk y.1.1), .int .i64 y.1.2.1, .string (mk y.1.2.2)] 25)) w2.heap.size 22 (.slice av L.length cv) from HV6.out.alloc (.cells #[.string (mk y.1.1), .int .i64 y.1.2.1, .string (mk y.1.2.2)] 25))
              refine wpAny_ready (rs := [4]) (by kernel_rfl) (by simp) ?_
              refine (AllReady.cons rfl (fun K hK => ?_) AllReady.nil)
              · have HOX := hid (HO6.out.alloc' (.cells #[.string (mk y.1.1), .int .i64 y.1.2.1, .string (mk y.1.2.2)] 25))
                have HBX := hid (show w4.heap.size ≤ (w6.alloc (.cells #[.string (mk y.1.1), .int .i64 y.1.2.1, .string (mk y.1.2.2)] 25)).heap.size by have := HI6.out.z; rw [World.size_alloc]; omega)
                refine step_app_ent (by rfl) (.tmp 17) (.tmp 20) (by rfl) w4.heap.size _ L (by rfl) HOX.out _ [y.1] (by rfl) (ents_one _ _) (by have := HPL.out; simp; omega) HBX.out ?_
                intro vA wA hoA hgA
                obtain ⟨hvA, hK1, hK2, hI⟩ := HI6.out.app HV6.out HO6.out HDS.out HSL.out hoA hgA
                have HKA := hid (HK6.out.trans hK1)
                have HPA := hid (kpS_t HP6.out hK2)
                have HIA := hid hI
                have cA1 := hvA.cell
                have fA1 := hvA.frozen
                obtain ⟨aA, cA, eA⟩ := hoA.ents.shape
                generalize (L ++ [y.1]).length = nL at eA
                subst eA
                clear hoA hgA hvA hK1 hK2 hI
                refine hK _ _ ?_
                clear hK K
                refine wpAny_ready (rs := [5]) (by kernel_rfl) (by simp) ?_
                refine (AllReady.cons rfl (fun K hK => ?_) AllReady.nil)
                · go_simp
                  refine hK _ _ ?_
                  clear hK K
                  refine wpAny_done (by kernel_rfl) ?_ _
                  gi_wp2_with fail
                  exact ⟨HKA.out, HPA.out, by show Wbx _ _ _ _ (vals (pre ++ [y])); rw [HMP.out]; exact HIA.out⟩
          · go_simp
            refine hK _ _ ?_
            clear hK K
            have HV7 := hid (show Boxed (w6.alloc (.cells #[.string (mk y.1.1), .int .i64 y.1.2.1, .string (mk y.1.2.2)] 25)) w2.heap.size 22 (.slice av L.length cv) from HV6.out.alloc (.cells #[.string (mk y.1.1), .int .i64 y.1.2.1, .string (mk y.1.2.2)] 25))
            refine wpAny_ready (rs := [0]) (by kernel_rfl) (by simp) ?_
            refine (AllReady.cons rfl (fun K hK => ?_) AllReady.nil)
            · have c0 := HV7.out.cell
              go_simp
              refine hK _ _ ?_
              clear hK K c0
              refine wpAny_ready (rs := [4]) (by kernel_rfl) (by simp) ?_
              refine (AllReady.cons rfl (fun K hK => ?_) AllReady.nil)
              · have HOX := hid (HO6.out.alloc' (.cells #[.string (mk y.1.1), .int .i64 y.1.2.1, .string (mk y.1.2.2)] 25))
                have HBX := hid (show w4.heap.size ≤ (w6.alloc (.cells #[.string (mk y.1.1), .int .i64 y.1.2.1, .string (mk y.1.2.2)] 25)).heap.size by have := HI6.out.z; rw [World.size_alloc]; omega)
                refine step_app_ent (by rfl) (.tmp 17) (.tmp 20) (by rfl) w4.heap.size _ L (by rfl) HOX.out _ [y.1] (by rfl) (ents_one _ _) (by have := HPL.out; simp; omega) HBX.out ?_
                intro vA wA hoA hgA
                obtain ⟨hvA, hK1, hK2, hI⟩ := HI6.out.app HV6.out HO6.out HDS.out HSL.out hoA hgA
                have HKA := hid (HK6.out.trans hK1)
                have HPA := hid (kpS_t HP6.out hK2)
                have HIA := hid hI
                have cA1 := hvA.cell
                have fA1 := hvA.frozen
                obtain ⟨aA, cA, eA⟩ := hoA.ents.shape
                generalize (L ++ [y.1]).length = nL at eA
                subst eA
                clear hoA hgA hvA hK1 hK2 hI
                refine hK _ _ ?_
                clear hK K
                refine wpAny_ready (rs := [5]) (by kernel_rfl) (by simp) ?_
                refine (AllReady.cons rfl (fun K hK => ?_) AllReady.nil)
                · go_simp
                  refine hK _ _ ?_
                  clear hK K
                  refine wpAny_done (by kernel_rfl) ?_ _
                  gi_wp2_with fail
                  exact ⟨HKA.out, HPA.out, by show Wbx _ _ _ _ (vals (pre ++ [y])); rw [HMP.out]; exact HIA.out⟩
    case done =>
      rintro D ys W hD rfl hi hK
      have hi : Wbx w W w4.heap.size w2.heap.size (vals (undL d T)) := hi
      rw [vals_und, ← HT.out] at hi
      obtain ⟨vs, hv, ho⟩ := hi.s
      obtain ⟨av, cv, hvs⟩ := ho.ents.shape
      subst hvs
      have HOW := hid (under_all _ _ d W ho.ents hd)
      have HXS := hid (show w.heap.size ≤ W.heap.size from hi.b.size)
      have HXX := hid (fun (x : Nat) (hx : x < w.heap.size) g h9 => show g ≠ x by have h8 := ho.lt g h9; have := HDS.out; have := HSL.out; omega)
      have HBW := hid hi.b
      have HKD := hid hK
      have HDL := hid hD
      have cv1 := hv.cell
      clear hi hv ho hK hD
      gi_wp2_with (refine ⟨trivial, ?_⟩; gi_at_call 22; refine (callsIn_wide.2 HOW.out).mono ?_; rintro r w8 ⟨Bt8, Bl8, f8, rfl, hU8, hBt8, hBl8, hb8⟩; have HB8 := hid (below_then HBW.out hb8); have HU8 := hid hU8; have HK8 := hid ((hb8.block D (hp_lt HKD.out)).trans HKD.out); clear hU8 hb8 cv1)
      refine ⟨by simp, .inl ⟨_, _, rfl, run_takeDeferred HK8.out, ?_⟩⟩
      refine ⟨_, results_tmp rfl _ _ _, ?_⟩
      have hsz : (w8.putObj D (.deferred none)).heap.size = w8.heap.size := by simp [World.putObj]
      refine ⟨Bt8, Bl8, f8, .slice av ((t : List Ent).filter (fun e => lyP d e.1)).length cv, rfl, ?_, HB8.out.grown (grownBy_putObj' _ D (.deferred none)) HB8.out.size (fun k e => by cases e; exact Nat.le_trans HB4.out.size HDL.out)⟩
      rw [HWK.out, hsz]
      exact fun x hx => (HU8.out x (Nat.lt_of_lt_of_le hx HXS.out) (fun g o n c _ e => HXX.out x hx g (by rw [e]; rfl))).put HK8.out
    case stop =>
      rintro D c' pre W _ _ h _
      exact h.elim
  · have e1 : (E0 == 0) = false := by simpa using h0
    have hT : ([] : List Ent) = vals [] := rfl
    obtain ⟨T, HT0⟩ : ∃ T : List MEnt, Hid ([] = T) := ⟨_, rfl⟩
    rw [HT0.out] at hT
    have HT := hid hT
    have hTl : T.length ≤ 1024 := by rw [← HT0.out]; exact Nat.zero_le _
    have HWK := hid (show wkL t d = ([] : List Ent).filter (fun e => lyP d e.1) from by unfold wkL; rw [if_neg (by rw [HE0.out]; exact h0)]; rfl)
    clear hT h0
    refine (callsIn_wide (n := 9)).1 ?_
    refine callsIn_of_wp_marks Try.func14 rfl trivial ?_ rfl
    simp only [Try.ntmps14, List.size_toArray, List.length_cons, List.length_nil, Nat.reduceAdd, Nat.reduceSub, Array.replicate_succ, Array.replicate_zero, List.push_toArray, List.append_toArray, List.nil_append, List.cons_append]
    gi_wp2_with fail
    refine ⟨trivial, (callsIn_wide.2 HR.out).mono ?_⟩
    rintro r w2 ⟨rfl, hb1⟩
    have HB2 := hid hb1
    clear hb1 HR
    have HTV := hid (show Ents w (.slice none 0 0) [] from Ents.nil _)
    have HB3 := hid (HB2.out.alloc HB2.out.size (.cells #[.slice none 0 0] 22))
    have HS3 := hid (Boxed.new w2 22 (.slice none 0 0))
    have HUN := hid (under_any (.slice none 0 0) [] d (w2.alloc (.cells #[.slice none 0 0] 22)) (HTV.out.below HB3.out) hd w2.heap.size HS3.out.lt (fun g o n c h0 e => by have := HTV.out.low h0 e; have := HB2.out.size; omega))
    have HDS := hid (show w.heap.size ≤ w2.heap.size from HB2.out.size)
    gi_wp2_with fail
    refine ⟨trivial, (callsIn_wide.2 HUN.out).mono ?_⟩
    rintro r w4 ⟨Bt, Bl, f, rfl, hU, hBt, hBl, hb4⟩
    have HB4 := hid (below_then HB3.out hb4)
    have HS4 := hid (show Boxed w4 w2.heap.size 22 (.slice none 0 0) from (hb4.block _ HS3.out.lt).trans HS3.out)
    have HU := hid hU
    clear hU hb4 hBt hBl HUN HB3 HS3
    gi_wp2_with fail
    have HSL := hid (show w2.heap.size < w4.heap.size from HS4.out.lt)
    have HU2 := hid (show Und w4 w4.heap.size w2.heap.size (.slice none 0 0) (vals T) f d Bt Bl from by rw [← HT.out]; exact HU.out)
    refine wpIn_rangeFunc_ownH rfl (by omega) (gf := 41) (lb := #[.pointer (some ⟨Bt, 0, none⟩), .pointer (some ⟨Bl, 0, none⟩)]) rfl trivial (enters_of Try.func41 (by kernel_rfl) rfl)
      (und_stops _ (by omega) Bt Bl w4.heap.size w2.heap.size T hTl (.slice none 0 0) f d w4 HU2.out (Nat.le_refl _))
      (fun h k => kpS_t h k) (kpS_b (Nat.le_refl _)) (Below.refl _ _) (fun _ => rfl)
      (fun pre W => Wbx w W w4.heap.size w2.heap.size (vals pre))
      (fun _ _ _ => False)
      (wbx_own HB4.out.size (fun pre => vals pre)) (fun _ _ _ _ _ hs _ _ => hs)
      ⟨⟨_, HS4.out, OwnE.nil _ _⟩, HB4.out, Nat.le_refl _⟩
      (WbA w4.heap.size w2.heap.size (fun Be y => #[(.slice none 0 0), .string (mk d), undef, undef, .nilFunc, .pointer (some ⟨w2.heap.size, 0, none⟩), undef, .pointer (some ⟨Be, 0, none⟩), .slice ao t.length c, .slice (some ⟨w.heap.size, 0, none⟩) 1 1, .int .i64 E0, .bool true, (.slice none 0 0), .string (mk d), .func (.func 41) #[] #[.pointer (some ⟨Bt, 0, none⟩), .pointer (some ⟨Bl, 0, none⟩)], .string (mk (spN y.1.1)), entA y.1, undef, undef, undef, undef, undef, undef, undef, undef]))
      (fun y a' => wbA_own HSL.out HSL.out y a') ?assign ?body ?done ?stop
    case assign =>
      intro l pre y W K hi hK
      unfold undE entA
      gi_wp2
      exact hK _ _ ((KeepsOthers.alloc _ _).from _) (kpS_below (below_walk W _) hi.z) (hi.step (below_walk W _)) ⟨W.heap.size, hi.z, Eb.new W y.1, wb_new hi, rfl⟩
    case body =>
      rintro l pre y a' W hl _ hi ⟨Be, hBe, heb, hnb, rfl⟩ hlt
      obtain ⟨vs, hv, ho⟩ := hi.s
      obtain ⟨av, cv, hvs⟩ := ho.ents.shape
      subst hvs
      have HCL := hid (fun W => ownEntry_any y.1 W (may_shr' y.2))
      unfold entA at HCL ⊢
      have HPL := hid (show (vals pre).length + 1 ≤ 3298534883328 by rw [vals_len]; omega)
      have HMP := hid (show vals (pre ++ [y]) = vals pre ++ [y.1] by unfold vals; rw [List.map_append]; rfl)
      generalize vals pre = L at *
      have HBd : Hid (Below W.heap.size W W.drew) := hid (Below.refl _ W).drew
      have HI := hid hi
      have HId : Hid (Wbx w W.drew w4.heap.size w2.heap.size L) := hid (HI.out.step HBd.out)
      have HVd : Hid (Boxed W.drew w2.heap.size 22 (.slice av L.length cv)) := hid hv
      have HOd : Hid (OwnE W.drew w4.heap.size (.slice av L.length cv) L) := hid (ho.below HBd.out)
      have HEd : Hid (Eb W.drew Be y.1) := hid heb
      clear hi heb hnb hv ho hBe
      gi_wp2_with fail
      refine region_in_any (by kernel_rfl) (by kernel_rfl) (by rintro ⟨_, _, h⟩; exact h) ?_
      change wpAny _ _ _ _ _ _ _ (World.drew _)
      generalize W.drew = wd at *
      refine wpAny_ready (rs := [0, 1]) (by kernel_rfl) (by simp) ?_
      refine (AllReady.cons rfl (fun K hK => ?_) (AllReady.cons rfl (fun K hK => ?_) AllReady.nil))
      · have c0 := HVd.out.cell
        go_simp
        refine hK _ _ ?_
        clear hK K c0
        refine wpAny_ready (rs := [1]) (by kernel_rfl) (by simp) ?_
        refine (AllReady.cons rfl (fun K hK => ?_) AllReady.nil)
        · obtain ⟨z0, z1, z2⟩ := HEd.out.at
          go_simp
          refine hK _ _ ?_
          clear hK K z0 z1 z2
          refine wpAny_ready (rs := [2]) (by kernel_rfl) (by simp) ?_
          refine (AllReady.cons rfl (fun K hK => ?_) AllReady.nil)
          · go_simp
            refine (HCL.out _).mono ?_
            rintro r w6 ⟨rfl, hb6⟩
            have HV6 := hid (show Boxed w6 w2.heap.size 22 (.slice av L.length cv) from (hb6.block _ HVd.out.lt).trans HVd.out)
            have HI6 := hid (HId.out.step hb6)
            have HO6 := hid (HOd.out.below hb6)
            have HK6 := hid ((KeepsFrom.below (B := w4.heap.size) HBd.out).trans (KeepsFrom.below hb6))
            have HP6 := hid (kpS_t (kpS_below (x := w2.heap.size) HBd.out HI.out.z) (kpS_below hb6 HId.out.z))
            clear hb6
            refine hK _ _ ?_
            clear hK K
            refine wpAny_ready (rs := [3]) (by kernel_rfl) (by simp) ?_
            refine (AllReady.cons rfl (fun K hK => ?_) AllReady.nil)
            · go_simp
              refine hK _ _ ?_
              clear hK K
              have HV7 := hid (show Boxed (w6.alloc (.cells #[.string (mk y.1.1), .int .i64 y.1.2.1, .string (mk y.1.2.2)] 25)) w2.heap.size 22 (.slice av L.length cv) from HV6.out.alloc (.cells #[.string (mk y.1.1), .int .i64 y.1.2.1, .string (mk y.1.2.2)] 25))
              refine wpAny_ready (rs := [4]) (by kernel_rfl) (by simp) ?_
              refine (AllReady.cons rfl (fun K hK => ?_) AllReady.nil)
              · have HOX := hid (HO6.out.alloc' (.cells #[.string (mk y.1.1), .int .i64 y.1.2.1, .string (mk y.1.2.2)] 25))
                have HBX := hid (show w4.heap.size ≤ (w6.alloc (.cells #[.string (mk y.1.1), .int .i64 y.1.2.1, .string (mk y.1.2.2)] 25)).heap.size by have := HI6.out.z; rw [World.size_alloc]; omega)
                refine step_app_ent (by rfl) (.tmp 17) (.tmp 20) (by rfl) w4.heap.size _ L (by rfl) HOX.out _ [y.1] (by rfl) (ents_one _ _) (by have := HPL.out; simp; omega) HBX.out ?_
                intro vA wA hoA hgA
                obtain ⟨hvA, hK1, hK2, hI⟩ := HI6.out.app HV6.out HO6.out HDS.out HSL.out hoA hgA
                have HKA := hid (HK6.out.trans hK1)
                have HPA := hid (kpS_t HP6.out hK2)
                have HIA := hid hI
                have cA1 := hvA.cell
                have fA1 := hvA.frozen
                obtain ⟨aA, cA, eA⟩ := hoA.ents.shape
                generalize (L ++ [y.1]).length = nL at eA
                subst eA
                clear hoA hgA hvA hK1 hK2 hI
                refine hK _ _ ?_
                clear hK K
                refine wpAny_ready (rs := [5]) (by kernel_rfl) (by simp) ?_
                refine (AllReady.cons rfl (fun K hK => ?_) AllReady.nil)
                · go_simp
                  refine hK _ _ ?_
                  clear hK K
                  refine wpAny_done (by kernel_rfl) ?_ _
                  gi_wp2_with fail
                  exact ⟨HKA.out, HPA.out, by show Wbx _ _ _ _ (vals (pre ++ [y])); rw [HMP.out]; exact HIA.out⟩
      · obtain ⟨z0, z1, z2⟩ := HEd.out.at
        go_simp
        refine hK _ _ ?_
        clear hK K z0 z1 z2
        refine wpAny_ready (rs := [0, 2]) (by kernel_rfl) (by simp) ?_
        refine (AllReady.cons rfl (fun K hK => ?_) (AllReady.cons rfl (fun K hK => ?_) AllReady.nil))
        · have c0 := HVd.out.cell
          go_simp
          refine hK _ _ ?_
          clear hK K c0
          refine wpAny_ready (rs := [2]) (by kernel_rfl) (by simp) ?_
          refine (AllReady.cons rfl (fun K hK => ?_) AllReady.nil)
          · go_simp
            refine (HCL.out _).mono ?_
            rintro r w6 ⟨rfl, hb6⟩
            have HV6 := hid (show Boxed w6 w2.heap.size 22 (.slice av L.length cv) from (hb6.block _ HVd.out.lt).trans HVd.out)
            have HI6 := hid (HId.out.step hb6)
            have HO6 := hid (HOd.out.below hb6)
            have HK6 := hid ((KeepsFrom.below (B := w4.heap.size) HBd.out).trans (KeepsFrom.below hb6))
            have HP6 := hid (kpS_t (kpS_below (x := w2.heap.size) HBd.out HI.out.z) (kpS_below hb6 HId.out.z))
            clear hb6
            refine hK _ _ ?_
            clear hK K
            refine wpAny_ready (rs := [3]) (by kernel_rfl) (by simp) ?_
            refine (AllReady.cons rfl (fun K hK => ?_) AllReady.nil)
            · go_simp
              refine hK _ _ ?_
              clear hK K
              have HV7 := hid (show Boxed (w6.alloc (.cells #[.string (mk y.1.1), .int .i64 y.1.2.1, .string (mk y.1.2.2)] 25)) w2.heap.size 22 (.slice av L.length cv) from HV6.out.alloc (.cells #[.string (mk y.1.1), .int .i64 y.1.2.1, .string (mk y.1.2.2)] 25))
              refine wpAny_ready (rs := [4]) (by kernel_rfl) (by simp) ?_
              refine (AllReady.cons rfl (fun K hK => ?_) AllReady.nil)
              · have HOX := hid (HO6.out.alloc' (.cells #[.string (mk y.1.1), .int .i64 y.1.2.1, .string (mk y.1.2.2)] 25))
                have HBX := hid (show w4.heap.size ≤ (w6.alloc (.cells #[.string (mk y.1.1), .int .i64 y.1.2.1, .string (mk y.1.2.2)] 25)).heap.size by have := HI6.out.z; rw [World.size_alloc]; omega)
                refine step_app_ent (by rfl) (.tmp 17) (.tmp 20) (by rfl) w4.heap.size _ L (by rfl) HOX.out _ [y.1] (by rfl) (ents_one _ _) (by have := HPL.out; simp; omega) HBX.out ?_
                intro vA wA hoA hgA
                obtain ⟨hvA, hK1, hK2, hI⟩ := HI6.out.app HV6.out HO6.out HDS.out HSL.out hoA hgA
                have HKA := hid (HK6.out.trans hK1)
                have HPA := hid (kpS_t HP6.out hK2)
                have HIA := hid hI
                have cA1 := hvA.cell
                have fA1 := hvA.frozen
                obtain ⟨aA, cA, eA⟩ := hoA.ents.shape
                generalize (L ++ [y.1]).length = nL at eA
                subst eA
                clear hoA hgA hvA hK1 hK2 hI
                refine hK _ _ ?_
                clear hK K
                refine wpAny_ready (rs := [5]) (by kernel_rfl) (by simp) ?_
                refine (AllReady.cons rfl (fun K hK => ?_) AllReady.nil)
                · go_simp
                  refine hK _ _ ?_
                  clear hK K
                  refine wpAny_done (by kernel_rfl) ?_ _
                  gi_wp2_with fail
                  exact ⟨HKA.out, HPA.out, by show Wbx _ _ _ _ (vals (pre ++ [y])); rw [HMP.out]; exact HIA.out⟩
        · go_simp
          refine (HCL.out _).mono ?_
          rintro r w6 ⟨rfl, hb6⟩
          have HV6 := hid (show Boxed w6 w2.heap.size 22 (.slice av L.length cv) from (hb6.block _ HVd.out.lt).trans HVd.out)
          have HI6 := hid (HId.out.step hb6)
          have HO6 := hid (HOd.out.below hb6)
          have HK6 := hid ((KeepsFrom.below (B := w4.heap.size) HBd.out).trans (KeepsFrom.below hb6))
          have HP6 := hid (kpS_t (kpS_below (x := w2.heap.size) HBd.out HI.out.z) (kpS_below hb6 HId.out.z))
          clear hb6
          refine hK _ _ ?_
          clear hK K
          refine wpAny_ready (rs := [0, 3]) (by kernel_rfl) (by simp) ?_
          refine (AllReady.cons rfl (fun K hK => ?_) (AllReady.cons rfl (fun K hK => ?_) AllReady.nil))
          · have c0 := HV6.out.cell
            go_simp
            refine hK _ _ ?_
            clear hK K c0
            refine wpAny_ready (rs := [3]) (by kernel_rfl) (by simp) ?_
            refine (AllReady.cons rfl (fun K hK => ?_) AllReady.nil)
            · go_simp
              refine hK _ _ ?_
              clear hK K
              have HV7 := hid (show Boxed (w6.alloc (.cells #[.string (mk y.1.1), .int .i64 y.1.2.1, .string (mk y.1.2.2)] 25)) w2.heap.size 22 (.slice av L.length cv) from HV6.out.alloc (.cells #[.string (mk y.1.1), .int .i64 y.1.2.1, .string (mk y.1.2.2)] 25))
              refine wpAny_ready (rs := [4]) (by kernel_rfl) (by simp) ?_
              refine (AllReady.cons rfl (fun K hK => ?_) AllReady.nil)
              · have HOX := hid (HO6.out.alloc' (.cells #[.string (mk y.1.1), .int .i64 y.1.2.1, .string (mk y.1.2.2)] 25))
                have HBX := hid (show w4.heap.size ≤ (w6.alloc (.cells #[.string (mk y.1.1), .int .i64 y.1.2.1, .string (mk y.1.2.2)] 25)).heap.size by have := HI6.out.z; rw [World.size_alloc]; omega)
                refine step_app_ent (by rfl) (.tmp 17) (.tmp 20) (by rfl) w4.heap.size _ L (by rfl) HOX.out _ [y.1] (by rfl) (ents_one _ _) (by have := HPL.out; simp; omega) HBX.out ?_
                intro vA wA hoA hgA
                obtain ⟨hvA, hK1, hK2, hI⟩ := HI6.out.app HV6.out HO6.out HDS.out HSL.out hoA hgA
                have HKA := hid (HK6.out.trans hK1)
                have HPA := hid (kpS_t HP6.out hK2)
                have HIA := hid hI
                have cA1 := hvA.cell
                have fA1 := hvA.frozen
                obtain ⟨aA, cA, eA⟩ := hoA.ents.shape
                generalize (L ++ [y.1]).length = nL at eA
                subst eA
                clear hoA hgA hvA hK1 hK2 hI
                refine hK _ _ ?_
                clear hK K
                refine wpAny_ready (rs := [5]) (by kernel_rfl) (by simp) ?_
                refine (AllReady.cons rfl (fun K hK => ?_) AllReady.nil)
                · go_simp
                  refine hK _ _ ?_
                  clear hK K
                  refine wpAny_done (by kernel_rfl) ?_ _
                  gi_wp2_with fail
                  exact ⟨HKA.out, HPA.out, by show Wbx _ _ _ _ (vals (pre ++ [y])); rw [HMP.out]; exact HIA.out⟩
          · go_simp
            refine hK _ _ ?_
            clear hK K
            have HV7 := hid (show Boxed (w6.alloc (.cells #[.string (mk y.1.1), .int .i64 y.1.2.1, .string (mk y.1.2.2)] 25)) w2.heap.size 22 (.slice av L.length cv) from HV6.out.alloc (.cells #[.string (mk y.1.1), .int .i64 y.1.2.1, .string (mk y.1.2.2)] 25))
            refine wpAny_ready (rs := [0]) (by kernel_rfl) (by simp) ?_
            refine (AllReady.cons rfl (fun K hK => ?_) AllReady.nil)
            · have c0 := HV7.out.cell
              go_simp
              refine hK _ _ ?_
              clear hK K c0
              refine wpAny_ready (rs := [4]) (by kernel_rfl) (by simp) ?_
              refine (AllReady.cons rfl (fun K hK => ?_) AllReady.nil)
              · have HOX := hid (HO6.out.alloc' (.cells #[.string (mk y.1.1), .int .i64 y.1.2.1, .string (mk y.1.2.2)] 25))
                have HBX := hid (show w4.heap.size ≤ (w6.alloc (.cells #[.string (mk y.1.1), .int .i64 y.1.2.1, .string (mk y.1.2.2)] 25)).heap.size by have := HI6.out.z; rw [World.size_alloc]; omega)
                refine step_app_ent (by rfl) (.tmp 17) (.tmp 20) (by rfl) w4.heap.size _ L (by rfl) HOX.out _ [y.1] (by rfl) (ents_one _ _) (by have := HPL.out; simp; omega) HBX.out ?_
                intro vA wA hoA hgA
                obtain ⟨hvA, hK1, hK2, hI⟩ := HI6.out.app HV6.out HO6.out HDS.out HSL.out hoA hgA
                have HKA := hid (HK6.out.trans hK1)
                have HPA := hid (kpS_t HP6.out hK2)
                have HIA := hid hI
                have cA1 := hvA.cell
                have fA1 := hvA.frozen
                obtain ⟨aA, cA, eA⟩ := hoA.ents.shape
                generalize (L ++ [y.1]).length = nL at eA
                subst eA
                clear hoA hgA hvA hK1 hK2 hI
                refine hK _ _ ?_
                clear hK K
                refine wpAny_ready (rs := [5]) (by kernel_rfl) (by simp) ?_
                refine (AllReady.cons rfl (fun K hK => ?_) AllReady.nil)
                · go_simp
                  refine hK _ _ ?_
                  clear hK K
                  refine wpAny_done (by kernel_rfl) ?_ _
                  gi_wp2_with fail
                  exact ⟨HKA.out, HPA.out, by show Wbx _ _ _ _ (vals (pre ++ [y])); rw [HMP.out]; exact HIA.out⟩
    case done =>
      rintro D ys W hD rfl hi hK
      have hi : Wbx w W w4.heap.size w2.heap.size (vals (undL d T)) := hi
      rw [vals_und, ← HT.out] at hi
      obtain ⟨vs, hv, ho⟩ := hi.s
      obtain ⟨av, cv, hvs⟩ := ho.ents.shape
      subst hvs
      have HOW := hid (under_all _ _ d W ho.ents hd)
      have HXS := hid (show w.heap.size ≤ W.heap.size from hi.b.size)
      have HXX := hid (fun (x : Nat) (hx : x < w.heap.size) g h9 => show g ≠ x by have h8 := ho.lt g h9; have := HDS.out; have := HSL.out; omega)
      have HBW := hid hi.b
      have HKD := hid hK
      have HDL := hid hD
      have cv1 := hv.cell
      clear hi hv ho hK hD
      gi_wp2_with (refine ⟨trivial, ?_⟩; gi_at_call 22; refine (callsIn_wide.2 HOW.out).mono ?_; rintro r w8 ⟨Bt8, Bl8, f8, rfl, hU8, hBt8, hBl8, hb8⟩; have HB8 := hid (below_then HBW.out hb8); have HU8 := hid hU8; have HK8 := hid ((hb8.block D (hp_lt HKD.out)).trans HKD.out); clear hU8 hb8 cv1)
      refine ⟨by simp, .inl ⟨_, _, rfl, run_takeDeferred HK8.out, ?_⟩⟩
      refine ⟨_, results_tmp rfl _ _ _, ?_⟩
      have hsz : (w8.putObj D (.deferred none)).heap.size = w8.heap.size := by simp [World.putObj]
      refine ⟨Bt8, Bl8, f8, .slice av (([] : List Ent).filter (fun e => lyP d e.1)).length cv, rfl, ?_, HB8.out.grown (grownBy_putObj' _ D (.deferred none)) HB8.out.size (fun k e => by cases e; exact Nat.le_trans HB4.out.size HDL.out)⟩
      rw [HWK.out, hsz]
      exact fun x hx => (HU8.out x (Nat.lt_of_lt_of_le hx HXS.out) (fun g o n c _ e => HXX.out x hx g (by rw [e]; rfl))).put HK8.out
    case stop =>
      rintro D c' pre W _ _ h _
      exact h.elim

end Go.Proofs.Yteijkbanlpodpaa

/- What a walk tells of a path. -/
namespace Go.Proofs.Yteijkbanlpodpaa

/-- the last name of a right path, and what stands ahead of it -/
theorem spN_last {p : List UInt8} (h : okP p = true) (h0 : p ≠ []) : (∀ c ∈ spN p, c ≠ 47) ∧ (p = spN p ∨ ∃ a, p = a ++ 47 :: spN p) := by
  obtain ⟨x, hx⟩ := nms_last h h0
  have e : spN p = x := by
    unfold spN
    rw [if_pos h, hx]
    simp
  have hm : nmP x = true := ((okP_iff p).1 h).1 x (by rw [hx]; simp)
  rw [e]
  refine ⟨fun c hc hc2 => ?_, ?_⟩
  · unfold nmP at hm
    rw [Bool.and_eq_true] at hm
    have h3 := List.all_eq_true.1 hm.2 c hc
    subst hc2
    revert h3
    decide
  · by_cases h1 : nms (spD p) = []
    · rw [h1, List.nil_append] at hx
      left
      have h2 := txt_nms p
      rw [hx, txt_one] at h2
      exact h2.symm
    · right
      have h3 := txt_app h1 (r := [x]) (by simp)
      rw [← hx, txt_nms, txt_nms, txt_one] at h3
      exact ⟨spD p, h3⟩
/-- what something lies below is a directory -/
theorem ly_dir {t : List Ent} (ht : Rgt t) {d : List UInt8} (hd : d ≠ []) : ∀ (n : Nat) (p : List UInt8), p.length ≤ n → okP p = true → p ≠ [] → (∃ e ∈ t, e.1 = p) → lyP d p = true → ∃ f ∈ t, f.1 = d ∧ f.2.1 = 2 := by
  intro n
  induction n with
  | zero => intro p hp _ h0 _ _; exact absurd (List.length_eq_zero_iff.1 (by omega)) h0
  | succ n ih =>
    intro p hp hok h0 ⟨e, he, hep⟩ hl
    obtain ⟨h1, h2, h3⟩ := cut_ok hok h0 hl
    have hs : nms (spD p) = nms d ++ (nms (cutP d p)).dropLast := by
      rw [nms_spD hok, h3, List.dropLast_append_of_ne_nil (fun h => h2 (nms_nil.1 h))]
    have hnd : nms d ≠ [] := fun h => hd (nms_nil.1 h)
    have hsne : spD p ≠ [] := fun h => by
      rw [h, nms_nil.2 rfl] at hs
      exact hnd (List.append_eq_nil_iff.1 hs.symm).1
    rcases ht.dir e he with h4 | ⟨f, hf, hf1, hf2⟩
    · rw [hep] at h4; exact absurd h4 hsne
    · rw [hep] at hf1
      by_cases h5 : (nms (cutP d p)).dropLast = []
      · rw [h5, List.append_nil] at hs
        have h6 : spD p = d := by rw [← txt_nms (spD p), hs, txt_nms]
        exact ⟨f, hf, hf1.trans h6, hf2⟩
      · have hlt : (spD p).length < p.length := by
          obtain ⟨x, hx⟩ := spD_pre hok h0 hsne
          have := congrArg List.length hx
          simp at this
          omega
        exact ih (spD p) (by omega) (by rw [← hf1]; exact mayP_ok (ht.may f hf)) hsne ⟨f, hf, hf1⟩ (ly_of h5 hs)
theorem ly_none {t : List Ent} (ht : Rgt t) {d : List UInt8} (hw : whP t d ≠ 0) : t.filter (fun e => lyP d e.1) = [] := by
  rw [List.filter_eq_nil_iff]
  intro e he hl
  apply hw
  by_cases h0 : d = []
  · subst h0
    exact wh_zero.2 ⟨by decide, by unfold dirP; simp⟩
  · obtain ⟨f, hf, h1, h2⟩ := ly_dir ht h0 _ e.1 (Nat.le_refl _) (mayP_ok (ht.may e he)) (mayP_ne (ht.may e he)) ⟨e, he, rfl⟩ hl
    refine wh_zero.2 ⟨by rw [← h1]; exact mayP_ok (ht.may f hf), ?_⟩
    unfold dirP
    rw [Bool.or_eq_true]
    right
    rw [← h1, fdP_nd (pair_nodup ht.up) hf]
    simpa using h2

end Go.Proofs.Yteijkbanlpodpaa

/- What walked looks at, round by round. -/
namespace Go.Proofs.Yteijkbanlpodpaa

theorem fi_at {t : List Ent} (h : t.Pairwise ltE) {e : Ent} (he : e ∈ t) : ∃ k, k < t.length ∧ fiN t e.1 = (k : Int) ∧ t.getD k zE = e := by
  cases hf : fiP t e.1 with
  | none => exact absurd rfl (fiP_none.1 hf e he)
  | some k =>
    obtain ⟨h1, h2, _⟩ := fiP_some.1 hf
    refine ⟨k, h1, by unfold fiN; rw [hf], ?_⟩
    refine pair_uniq h ?_ he h2
    rw [List.getD_eq_getElem?_getD, List.getElem?_eq_getElem h1]
    exact List.getElem_mem h1
theorem walk_at {t : List Ent} {d : List UInt8} (hr : Rgt t) {U : List MEnt} (hU : t.filter (fun e => lyP d e.1) = vals U) {n : Nat} {e : MEnt} (he : U[n]? = some e) :
    (subL t d).getD n zE = (cutP d e.1.1, e.1.2) ∧ mvT d (cutP d e.1.1) = e.1.1 ∧ ∃ k, k < t.length ∧ fiN t e.1.1 = (k : Int) ∧ t.getD k zE = e.1 := by
  have hm : e.1 ∈ t.filter (fun e => lyP d e.1) := by
    rw [hU]
    unfold vals
    exact List.mem_map.2 ⟨e, List.mem_of_getElem? he, rfl⟩
  obtain ⟨h1, h2⟩ := List.mem_filter.1 hm
  refine ⟨?_, mv_cut h2, fi_at hr.up h1⟩
  unfold subL
  rw [hU, List.getD_eq_getElem?_getD]
  unfold vals
  rw [List.getElem?_map, List.getElem?_map, he]
  rfl
theorem sub_len {t : List Ent} {d : List UInt8} {U : List MEnt} (hU : t.filter (fun e => lyP d e.1) = vals U) : (subL t d).length = U.length := by
  unfold subL
  rw [hU, List.length_map, vals_len]
theorem und_self (d : List UInt8) (T : List MEnt) : undL d (undL d T) = undL d T := by
  unfold undL
  rw [List.filter_filter]
  simp only [Bool.and_self]
/-- a beginning of what is gone over -/
theorem pre_at {U pre : List MEnt} {y : MEnt} (h : pre ++ [y] <+: U) : U[pre.length]? = some y := by
  obtain ⟨r, hr⟩ := h
  rw [← hr, List.append_assoc, List.getElem?_append_right (Nat.le_refl _), Nat.sub_self]
  rfl

end Go.Proofs.Yteijkbanlpodpaa

/- What TreeWalks goes over, and what stands meanwhile. -/
namespace Go.Proofs.Yteijkbanlpodpaa
open Go.RowKit Go.Shelf Go.BigFrame

attribute [local go_sem] Oper.semAt_some

theorem wk_none {t : List Ent} {d : List UInt8} {E : Int} (h : sbP t d = .error E) : wkL t d = [] ∧ E ≠ 0 := by
  unfold sbP at h
  unfold wkL
  by_cases h0 : (chkP t).2 = 0
  · rw [if_neg (by rw [h0]; simp)] at h
    by_cases h1 : whP t d = 0
    · rw [if_neg (by rw [h1]; simp)] at h
      cases h
    · rw [if_pos h1] at h
      injection h with h
      subst h
      rw [if_pos h0]
      exact ⟨ly_none (rgt_iff.1 h0) h1, h1⟩
  · rw [if_pos h0] at h
    injection h with h
    subst h
    rw [if_neg h0]
    exact ⟨rfl, h0⟩
/-- what is gone over, as entries that may be -/
theorem walk_list (t : List Ent) (d : List UInt8) : ∃ U : List MEnt, wkL t d = vals U ∧ undL d U = U ∧ U.length ≤ 1024 ∧ (0 < U.length → t.Pairwise ltE ∧ ∀ y ∈ U, y.1 ∈ t) := by
  unfold wkL
  by_cases h0 : (chkP t).2 = 0
  · rw [if_pos h0]
    have hr := rgt_iff.1 h0
    obtain ⟨T, hT⟩ := vals_of hr.may
    have hTl : T.length ≤ 1024 := by have := hr.many; rw [hT, vals_len] at this; exact this
    refine ⟨undL d T, by rw [vals_und, ← hT], und_self d T, Nat.le_trans (List.length_filter_le _ _) hTl, fun _ => ⟨hr.up, fun y hy => ?_⟩⟩
    have h1 := (List.mem_filter.1 (show y ∈ T.filter (fun y => lyP d y.1.1) from hy)).1
    rw [hT]
    exact List.mem_map.2 ⟨y, h1, rfl⟩
  · rw [if_neg h0]
    exact ⟨[], rfl, rfl, Nat.zero_le _, fun h => absurd h (Nat.lt_irrefl _)⟩
theorem sb_ways {t : List Ent} {d : List UInt8} {U : List MEnt} (hU : wkL t d = vals U) {w : World} {b : Nat} {r : Ending} (h : AnsE w b r (sbP t d)) :
    ∃ a c E, ∃ S : Nat, r = .returned (.tuple #[.slice a S c, .int .i64 E]) ∧ ((E = 0 ∧ S = U.length) ∨ (E ≠ 0 ∧ U.length = 0)) := by
  cases e : sbP t d with
  | ok l =>
    rw [e] at h
    obtain ⟨v, h1, h2⟩ := h
    obtain ⟨a, c, rfl⟩ := h2.ents.shape
    refine ⟨a, c, 0, l.length, h1, Or.inl ⟨rfl, ?_⟩⟩
    unfold sbP at e
    by_cases h0 : (chkP t).2 = 0
    · rw [if_neg (by rw [h0]; simp)] at e
      by_cases h3 : whP t d = 0
      · rw [if_neg (by rw [h3]; simp)] at e
        injection e with e
        subst e
        refine sub_len ?_
        rw [← hU]
        unfold wkL
        rw [if_pos h0]
      · rw [if_pos h3] at e; cases e
    · rw [if_pos h0] at e; cases e
  | error E =>
    rw [e] at h
    obtain ⟨h1, h2⟩ := wk_none e
    refine ⟨none, 0, E, 0, h, Or.inr ⟨h2, ?_⟩⟩
    rw [h1] at hU
    have := congrArg List.length hU
    rw [vals_len] at this
    exact this.symm
/-- what the walk needs lies between s and n0: it stands where that is as it was -/
theorem Und.up {w w' : World} {s n0 n1 x : Nat} {tv : Value} {t : List Ent} {f : Value} {d : List UInt8} {Bt Bl : Nat} (h : ∀ y, y < s → Und w n0 y tv t f d Bt Bl) (hs : 0 < s)
    (k : ∀ b, s ≤ b → b < n0 → w'.heap[b]? = w.heap[b]?) (h1 : n0 ≤ n1) (h2 : n0 ≤ x) : Und w' n1 x tv t f d Bt Bl := by
  have h0 := h 0 hs
  have far : ∀ b, (∀ y, y < s → b ≠ y) → s ≤ b := fun b hb => Nat.le_of_not_lt (fun hlt => hb b hlt rfl)
  have cel : ∀ b o, (∀ y, y < s → b ≠ y) → b < n0 → w'.cell? ⟨b, o, none⟩ = w.cell? ⟨b, o, none⟩ := fun b o hb hn => World.cell?_of_block (k b (far b hb) hn)
  refine ⟨(cel _ _ (fun y hy => (h y hy).lt.2) h0.lt.1).trans h0.ct, (cel _ _ (fun y hy => (h y hy).ll.2) h0.ll.1).trans h0.cl, ⟨by have := h0.lt.1; omega, by have := h0.lt.1; omega⟩, ⟨by have := h0.ll.1; omega, by have := h0.ll.1; omega⟩, h0.sh, fun j hj => ?_, ?_⟩
  · obtain ⟨g, o, c, e1, e2, e3, e4, e5, e6⟩ := h0.et j hj
    have hg : ∀ y, y < s → g ≠ y := fun y hy => by
      obtain ⟨g', o', c', e1', _, e3', _⟩ := (h y hy).et j hj
      rw [e1] at e1'
      injection e1' with e1'
      injection e1' with e1'
      injection e1' with e1'
      rw [e1']
      exact e3'
    exact ⟨g, o, c, e1, by omega, by omega, (cel _ _ hg e2).trans e4, (cel _ _ hg e2).trans e5, (cel _ _ hg e2).trans e6⟩
  · rcases h0.fl with e | ⟨e0, B, e1, e2, _, e4⟩
    · exact Or.inl e
    · refine Or.inr ⟨e0, B, e1, by omega, by omega, (cel _ _ (fun y hy => ?_) e2).trans e4⟩
      rcases (h y hy).fl with e | ⟨_, B', e1', _, e3', _⟩
      · exact absurd e.1 e0
      · rw [e1] at e1'
        injection e1' with _ _ e1'
        have e9 : B = B' := by simpa using e1'
        rw [e9]
        exact e3'
theorem Und.raise {w : World} {n0 x n1 x1 : Nat} {tv : Value} {t : List Ent} {f : Value} {d : List UInt8} {Bt Bl : Nat} (h : Und w n0 x tv t f d Bt Bl) (h1 : n0 ≤ n1) (h2 : n0 ≤ x1) : Und w n1 x1 tv t f d Bt Bl := by
  refine ⟨h.ct, h.cl, ⟨by have := h.lt.1; omega, by have := h.lt.1; omega⟩, ⟨by have := h.ll.1; omega, by have := h.ll.1; omega⟩, h.sh, fun j hj => ?_, ?_⟩
  · obtain ⟨g, o, c, e1, e2, e3, e4⟩ := h.et j hj
    exact ⟨g, o, c, e1, by omega, by omega, e4⟩
  · rcases h.fl with e | ⟨e0, B, e1, e2, _, e4⟩
    · exact Or.inl e
    · exact Or.inr ⟨e0, B, e1, by omega, by omega, e4⟩
/-- two counts behind n0, all below it stands -/
structure Two (w w4 : World) (n0 ba bp : Nat) (a p : Nat) (W : World) : Prop where
  k : KpS n0 n0 w4 W
  a : Boxed W ba 3 (.int .i64 a)
  p : Boxed W bp 3 (.int .i64 p)
  b : Below w.heap.size w W
theorem Two.step {w w4 W W' : World} {n0 ba bp a p : Nat} (h : Two w w4 n0 ba bp a p W) (hn : n0 ≤ w4.heap.size) (hb : Below W.heap.size W W') : Two w w4 n0 ba bp a p W' :=
  ⟨kpS_t h.k (kpS_below hb (Nat.le_trans hn h.k.1)), (hb.block _ h.a.lt).trans h.a, (hb.block _ h.p.lt).trans h.p, below_then h.b hb⟩
theorem Two.putA {w w4 W : World} {n0 ba bp a p : Nat} (h : Two w w4 n0 ba bp a p W) (hw : w.heap.size ≤ n0) (hn : n0 ≤ ba) (hne : bp ≠ ba) (m : Nat) : Two w w4 n0 ba bp m p (W.setCell ⟨ba, 0, none⟩ (.int .i64 m)) :=
  ⟨kpS_t h.k ⟨by rw [World.size_setCell]; exact Nat.le_refl _, fun b hb _ => Below.heap_setCell W ⟨ba, 0, none⟩ _ b (by show b ≠ ba; omega)⟩, h.a.set _, h.p.other hne _, h.b.setCell (p := ⟨ba, 0, none⟩) (Nat.le_trans hw hn) _⟩
theorem Two.putP {w w4 W : World} {n0 ba bp a p : Nat} (h : Two w w4 n0 ba bp a p W) (hw : w.heap.size ≤ n0) (hn : n0 ≤ bp) (hne : ba ≠ bp) (m : Nat) : Two w w4 n0 ba bp a m (W.setCell ⟨bp, 0, none⟩ (.int .i64 m)) :=
  ⟨kpS_t h.k ⟨by rw [World.size_setCell]; exact Nat.le_refl _, fun b hb _ => Below.heap_setCell W ⟨bp, 0, none⟩ _ b (by show b ≠ bp; omega)⟩, h.a.other hne _, h.p.set _, h.b.setCell (p := ⟨bp, 0, none⟩) (Nat.le_trans hw hn) _⟩
theorem two_own {α : Type} {w w4 : World} {n0 ba bp B : Nat} (hn : n0 ≤ w4.heap.size) (hB : n0 ≤ B) (ha : ba < B) (hp : bp < B) (hw : w.heap.size ≤ n0) (f g : α → Nat) : OwnFrom B (fun x W => Two w w4 n0 ba bp (f x) (g x) W) := by
  intro s X Y row hs hg hr
  refine ⟨⟨Nat.le_trans hs.k.1 hg.size, fun b hb hne => ?_⟩, ?_, ?_, ownFrom_below (β := Unit) (Nat.le_refl _) (Nat.le_trans hw hB) () X Y row hs.b hg hr⟩
  · have hX : b < X.heap.size := Nat.lt_of_lt_of_le hb (Nat.le_trans hn hs.k.1)
    rw [hg.block b hX (fun e => by have := (hr b e.symm).1; omega)]
    exact hs.k.2 b hb hne
  · exact (hg.block ba hs.a.lt (fun e => by have := (hr ba e.symm).1; omega)).trans hs.a
  · exact (hg.block bp hs.p.lt (fun e => by have := (hr bp e.symm).1; omega)).trans hs.p

end Go.Proofs.Yteijkbanlpodpaa

/- Rows of entries that may be written over. -/
namespace Go.Proofs.Yteijkbanlpodpaa
open Go.RowKit Go.BigFrame

theorem Try.infoEnt1 : (Try.prog.info? 25).map (·.size) = some 3 := by kernel_rfl
theorem row_rng {w : World} {b : Nat} {cs : List Value} {T : TypeId} (h : w.heap[b]? = some (.cells cs.toArray T (0, 0))) : w.rangeAt b 0 cs := fun j v hv => by
  rw [Nat.zero_add, cell_of_row w b j cs.toArray T (0, 0) h]; simpa using hv

/-- a row that may be written over: how many it has, not which -/
def RoE (w : World) (base : Nat) (v : Value) (n : Nat) : Prop := ∃ xs, w.ownsRow base 25 3 v n xs
theorem OwnE.ro {w : World} {base : Nat} {v : Value} {es : List Ent} (h : OwnE w base v es) : RoE w base v es.length := ⟨_, h⟩
theorem RoE.kept {base n : Nat} {w w' : World} {v : Value} {row : Option Nat} (h : RoE w base v n) (hg : w.grownBy w' row) (hne : v.ownBlock = none ∨ v.ownBlock ≠ row) : RoE w' base v n := let ⟨xs, hx⟩ := h; ⟨xs, World.ownsRow.kept hx hg hne⟩
theorem RoE.below {base n : Nat} {w w' : World} {v : Value} (h : RoE w base v n) (hb : Below w.heap.size w w') : RoE w' base v n :=
  h.kept (below_gb hb none) (by cases e : v.ownBlock <;> simp)
theorem RoE.lt {base n : Nat} {w : World} {v : Value} (h : RoE w base v n) : ∀ k, v.ownBlock = some k → base ≤ k ∧ k < w.heap.size := let ⟨_, hx⟩ := h; World.ownsRow.lt hx
theorem RoE.form {base n : Nat} {w : World} {v : Value} (h : RoE w base v n) (hn : 0 < n) : ∃ g cap, v = .slice (some ⟨g, 0, none⟩) n cap ∧ base ≤ g ∧ g < w.heap.size := by
  obtain ⟨xs, hx⟩ := h
  rcases hx.2 with ⟨_, h0⟩ | ⟨g, cap, cur, hv, hb, hh, _⟩
  · omega
  · exact ⟨g, cap, hv, hb, hp_lt hh⟩
theorem RoE.set {base n g cap : Nat} {w : World} (h : RoE w base (.slice (some ⟨g, 0, none⟩) n cap) n) (j : Nat) (u : Value) : RoE (w.setCell ⟨g, j, none⟩ u) base (.slice (some ⟨g, 0, none⟩) n cap) n := by
  obtain ⟨xs, hx⟩ := h
  obtain ⟨hl, h0 | ⟨g', cap', cur, hv, hb, hh, h1, h2, h3, h4⟩⟩ := hx
  · cases h0.1
  · injection hv with e1 e2 e3
    injection e1 with e1
    injection e1 with e1
    subst e1 e3
    refine ⟨(cur.setIfInBounds j u).toList.take (n * 3), ?_, Or.inr ⟨g, cap, cur.setIfInBounds j u, rfl, hb, blk_set hh u, h1, h2, by simpa using h3, rfl⟩⟩
    rw [List.length_take, Array.length_toList, Array.size_setIfInBounds]
    rw [← h4, List.length_take, Array.length_toList] at hl
    exact hl
theorem RoE.cell {base n g cap : Nat} {w : World} (h : RoE w base (.slice (some ⟨g, 0, none⟩) n cap) n) (j : Nat) (hj : j < n * 3) : (∃ u, w.cell? ⟨g, j, none⟩ = some u) ∧ w.frozen? ⟨g, j, none⟩ = false := by
  obtain ⟨xs, hx⟩ := h
  have hx' := hx
  obtain ⟨hl, h0 | ⟨g', cap', cur, hv, hb, hh, h1, h2, h3, h4⟩⟩ := hx
  · cases h0.1
  · injection hv with e1 e2 e3
    injection e1 with e1
    injection e1 with e1
    subst e1
    refine ⟨?_, by simp [World.frozen?, hh]⟩
    have := World.ownsRow.cells hx' (g := g) rfl j _ (List.getElem?_eq_getElem (by omega))
    rw [show (⟨g, 0, none⟩ : Addr).add j = ⟨g, j, none⟩ by by_cases h0 : j = 0 <;> simp [Addr.add, h0]] at this
    exact ⟨_, this⟩
theorem RoE.there3 {base n g cap : Nat} {w : World} (h : RoE w base (.slice (some ⟨g, 0, none⟩) n cap) n) (i : Nat) (hi : i < n) : w.there g (i * 3) 3 := fun j hj => by
  obtain ⟨⟨u, hu⟩, hf⟩ := h.cell (i * 3 + j) (by omega)
  exact ⟨by rw [hu]; rfl, hf⟩
theorem gb_sets3 (w : World) (g o : Nat) (a b c : Value) : w.grownBy (w.setCells g o [a, b, c]) (some g) :=
  gb_trans (gb_trans (gb_set w ⟨g, o, none⟩ a) (gb_set _ ⟨g, o + 1, none⟩ b)) (gb_set _ ⟨g, o + 1 + 1, none⟩ c)
set_option maxRecDepth 20000 in
theorem RoE.sets3 {base n g cap : Nat} {w : World} (h : RoE w base (.slice (some ⟨g, 0, none⟩) n cap) n) (o : Nat) (a b c : Value) : RoE (w.setCells g o [a, b, c]) base (.slice (some ⟨g, 0, none⟩) n cap) n :=
  ((h.set o a).set (o + 1) b).set (o + 1 + 1) c

end Go.Proofs.Yteijkbanlpodpaa

/- What stands while a law goes over a walk (TWlk, over TWalkA). -/
namespace Go.Proofs.Yteijkbanlpodpaa
open Go.RowKit Go.Shelf Go.BigFrame

attribute [local go_sem] Oper.semAt_some

/-- what stands while walked goes over what lies below: all below n0 but the count -/
structure Wlk (w w4 : World) (bN : Nat) (n : Nat) (W : World) : Prop where
  k : KpS w4.heap.size bN w4 W
  n : Boxed W bN 3 (.int .i64 n)
  b : Below w.heap.size w W
theorem Wlk.step {w w4 W W' : World} {bN n : Nat} (h : Wlk w w4 bN n W) (hb : Below W.heap.size W W') : Wlk w w4 bN n W' :=
  ⟨kpS_t h.k (kpS_below hb h.k.1), (hb.block _ h.n.lt).trans h.n, below_then h.b hb⟩
theorem wlk_own {w w4 : World} {bN : Nat} (hN : bN < w4.heap.size) (hw : w.heap.size ≤ w4.heap.size) (f : List MEnt → Nat) : OwnFrom w4.heap.size (fun pre W => Wlk w w4 bN (f pre) W) := by
  intro s X Y row hs hg hr
  refine ⟨⟨Nat.le_trans hs.k.1 hg.size, fun b hb hne => ?_⟩, ?_, ownFrom_below (β := Unit) (Nat.le_refl _) hw () X Y row hs.b hg hr⟩
  · rw [hg.block b (Nat.lt_of_lt_of_le hb hs.k.1) (fun e => by have := (hr b e.symm).1; omega)]
    exact hs.k.2 b hb hne
  · exact (hg.block bN hs.n.lt (fun e => by have := (hr bN e.symm).1; omega)).trans hs.n
theorem kpS_self {n0 : Nat} (W : World) (b i : Nat) (u : Value) : KpS n0 b W (W.setCell ⟨b, i, none⟩ u) :=
  ⟨by rw [World.size_setCell]; exact Nat.le_refl _, fun k _ hne => Below.heap_setCell W ⟨b, i, none⟩ u k (by simpa using hne)⟩
/-- the count is written -/
theorem Wlk.put {w w4 W : World} {bN n : Nat} (h : Wlk w w4 bN n W) (hw : w.heap.size ≤ bN) (m : Nat) : Wlk w w4 bN m (W.setCell ⟨bN, 0, none⟩ (.int .i64 m)) :=
  ⟨kpS_t h.k (kpS_self W bN 0 _), h.n.set _, h.b.setCell (p := ⟨bN, 0, none⟩) hw _⟩
/-- where a round begins -/
def WlkA (base : Nat) (fr : Nat → MEnt → Array Value) (y : MEnt) (a : Act) (W : World) : Prop := ∃ Be, base ≤ Be ∧ Eb W Be y.1 ∧ a = { tmps := fr Be y, defers := [] }
theorem wlkA_own {B base : Nat} {fr : Nat → MEnt → Array Value} (y : MEnt) (a : Act) : OwnFrom B (fun (_ : Unit) W => WlkA base fr y a W) := by
  intro s X Y row hs hg hr
  obtain ⟨Be, h1, h2, h4⟩ := hs
  refine ⟨Be, h1, h2.kept hg (fun e => ?_), h4⟩
  obtain ⟨_, o, ho, hc⟩ := hr Be e.symm
  rw [show X.heap[Be]? = _ from h2] at ho
  cases ho
  cases hc

end Go.Proofs.Yteijkbanlpodpaa

/- The marks that ranges over functions leave behind; a range that may be left; a frame made general. -/
namespace Go.Proofs.Yteijkbanlpodpaa
open Go.RowKit

/-- the marks that ranges left behind, the latest first -/
def Marks (B : Nat) (w : World) : List Deferred → Nat → Prop
  | [], _ => True
  | d :: ds, top => ∃ D, d = { target := .collected D, args := #[] } ∧ B ≤ D ∧ D < top ∧ w.heap[D]? = some (.deferred (some [])) ∧ Marks B w ds D
theorem Marks.keep {B : Nat} {w w' : World} : ∀ {ds : List Deferred} {top : Nat}, Marks B w ds top → (∀ k, B ≤ k → k < top → w'.heap[k]? = w.heap[k]?) → Marks B w' ds top
  | [], _, _, _ => trivial
  | _ :: _, _, ⟨D, h1, h2, h3, h4, h5⟩, hk => ⟨D, h1, h2, h3, (hk D h2 h3).trans h4, h5.keep (fun k hk1 hk2 => hk k hk1 (by omega))⟩
theorem Marks.up {B : Nat} {w : World} {ds : List Deferred} {top top' : Nat} (h : Marks B w ds top) (ht : top ≤ top') : Marks B w ds top' := by
  cases ds with
  | nil => trivial
  | cons d ds =>
    obtain ⟨D, h1, h2, h3, r⟩ := h
    exact ⟨D, h1, h2, by omega, r⟩
/-- a function leaves, its marks taken one by one -/
theorem leaves_marks {F : Fence} {n : Nat} {P : Program} {fn : Func} {tmps : Array Value} {R : Ending → World → Prop} {B : Nat} (v : Value) : ∀ (ds : List Deferred) (top : Nat) (w : World), Marks B w ds top → B ≤ w.heap.size →
    (∀ w', Below B w w' → (∀ k, (∀ D, B ≤ D → w.heap[D]? = some (.deferred (some [])) → k ≠ D) → w'.heap[k]? = w.heap[k]?) → (results fn tmps).run P w' = .ok v w' ∧ R (.returned v) w') → LeavesInM F n P fn tmps R ds .returning w
  | [], top, w, _, hB, hR => by
    obtain ⟨h1, h2⟩ := hR w (Below.refl _ _) (fun _ _ => rfl)
    exact ⟨v, h1, h2⟩
  | d :: ds, top, w, ⟨D, h1, h2, h3, h4, h5⟩, hB, hR => by
    subst h1
    have hb : Below B w (w.putObj D (.deferred none)) := (Below.refl _ _).grown (grownBy_putObj' _ D (.deferred none)) hB (fun k e => by cases e; exact h2)
    refine ⟨by simp, .inl ⟨D, _, rfl, run_takeDeferred h4, leaves_marks v ds D _ (h5.keep (fun k _ hk => World.putObj_heap_other (by omega))) (Nat.le_trans hB hb.size) (fun w' hb' hk => ?_)⟩⟩
    refine hR w' (hb.trans hb') (fun k hk2 => ?_)
    have hkD : k ≠ D := hk2 D h2 h4
    rw [hk k (fun D' h1' h2' => ?_)]
    · exact World.putObj_heap_other (by omega)
    · by_cases e : D' = D
      · rw [e]; exact hkD
      · rw [World.putObj_heap_other (Ne.symm (Ne.symm e))] at h2'
        exact hk2 D' h1' h2'

/-- a range over a function that may be left: what follows, once -/
theorem range_cut {P : Program} {g : Operand} {ps : Array Tmp} {assign body : Code} {Q : Exit → Act → World → Prop} {a : Act} {w : World} {id : Nat} (R : Nat → World → Prop)
    (h : (Code.rangeFunc g ps assign body).wp P (fun e a' W => (e = .normal ∨ e = .exit id) ∧ ∃ D, a' = { a with defers := { target := .collected D, args := #[] } :: a.defers } ∧ R D W) a w)
    (hn : ∀ D W, R D W → Q .normal { a with defers := { target := .collected D, args := #[] } :: a.defers } W) (he : ∀ a' W, Q .normal a' W → Q (.exit id) a' W) : (Code.rangeFunc g ps assign body).wp P Q a w :=
  Code.wp_mono (fun e a' W h => by
    obtain ⟨rfl | rfl, D, rfl, hR⟩ := h
    · exact hn D W hR
    · exact he _ _ (hn D W hR)) h
theorem frame_gen {P : Program} {c : Code} {Q : Exit → Act → World → Prop} {ds : List Deferred} {w : World} (f : Array Value → Array Value) (U : Array Value) (h : U = f U) (k : ∀ U, c.wp P Q { tmps := f U, defers := ds } w) : c.wp P Q { tmps := U, defers := ds } w := by
  have := k U
  rw [← h] at this
  exact this
theorem frame_genN {F : Fence} {n : Nat} {P : Program} {c : Code} {Q : Exit → Act → World → Prop} {ds : List Deferred} {w : World} (f : Array Value → Array Value) (U : Array Value) (h : U = f U) (k : ∀ U, c.wpIn F n P Q { tmps := f U, defers := ds } w) : c.wpIn F n P Q { tmps := U, defers := ds } w := by
  have := k U
  rw [← h] at this
  exact this
def slotOf (U : Array Value) (k : Nat) : Value := U.getD k undef

end Go.Proofs.Yteijkbanlpodpaa

/- The beginning of a text, cut; and its bytes. -/
namespace Go.Proofs.Yteijkbanlpodpaa
open Go.RowKit

theorem text_to (q : List UInt8) (k : Nat) (hk : k ≤ q.length) (W : World) : (Instr.slice 9 (.string (mk q)) none (some (.int .i64 (k : Int))) none).run Try.prog W = .ok (.string (mk (q.take k))) W := by
  have h1 : (mk q).size = q.length := mk_size q
  have h2 : (k : Int) ≤ ((mk q).size : Int) := by rw [h1]; omega
  have h3 : (mk q).extract 0 k = mk (q.take k) := by
    apply ByteArray.ext
    simp [ByteArray.data_extract, mk]
  go_simp
  first | done | simp [h3] | exact h3
theorem text_at (q : List UInt8) (k : Nat) (hk : k < q.length) (W : World) : (Instr.index 9 (.string (mk q)) (.int .i64 (k : Int))).run Try.prog W = .ok (.int .u8 ((q.getD k 0).toNat : Nat)) W := by
  have := bl_at (mk q) k (by rw [bl_mk]; exact hk) W
  rw [bl_mk] at this
  exact this

end Go.Proofs.Yteijkbanlpodpaa

/- Entries are compared. -/
namespace Go.Proofs.Yteijkbanlpodpaa
open Go.RowKit

theorem entG : Try.prog.eqGuardType Try.prog.depth 25 = false := by kernel_rfl
theorem eq_run (s1 s2 d1 d2 : ByteArray) (k1 k2 : Int) (w : World) : (Op.equalIn 10000 25 (.agg #[.string s1, .int .i64 k1, .string d1]) (.agg #[.string s2, .int .i64 k2, .string d2])).run Try.prog w = .ok (s1.toList == s2.toList && k1 == k2 && d1.toList == d2.toList) w := by
  have hS : Try.prog.underlying 25 = some (.struct (Try.prog.fieldsOf 25)) := by kernel_rfl
  have hp : Try.prog.stoodInHeld 25 = false := by kernel_rfl
  have u3 := Try.underlying3
  have a3 := Try.isAgg3
  have z3 := Try.sizeOf3
  have u9 := Try.underlying9
  have a9 := Try.isAgg9
  have z9 := Try.sizeOf9
  rw [show (10000 : Nat) = 9999 + 1 from rfl, run_equalIn_agg w 9999 25 _ _ hS hp]
  simp only [Program.fieldsOf, Try.underlying25]
  go_simp
  by_cases h1 : s1.toList = s2.toList <;> by_cases h2 : k1 = k2 <;> by_cases h3 : d1.toList = d2.toList <;> simp [h1, h2, h3]
theorem eqb_ent (a b : Ent) : ((mk a.1).toList == (mk b.1).toList && a.2.1 == b.2.1 && (mk a.2.2).toList == (mk b.2.2).toList) = decide (a = b) := by
  have e1 : ∀ l, (mk l).toList = l := bl_mk
  rw [e1, e1, e1, e1, Bool.eq_iff_iff]
  obtain ⟨p, k, d⟩ := a
  obtain ⟨p', k', d'⟩ := b
  simp [and_assoc]
theorem eql_ent (a b : Ent) (w : World) : (binOp .eql 25 (.agg #[.string (mk a.1), .int .i64 a.2.1, .string (mk a.2.2)]) (.agg #[.string (mk b.1), .int .i64 b.2.1, .string (mk b.2.2)])).run Try.prog w = .ok (.bool (decide (a = b))) w := by
  rw [run_eql_struct, eq_run, eqb_ent]
  rfl
theorem neq_ent (a b : Ent) (w : World) : (binOp .neq 25 (.agg #[.string (mk a.1), .int .i64 a.2.1, .string (mk a.2.2)]) (.agg #[.string (mk b.1), .int .i64 b.2.1, .string (mk b.2.2)])).run Try.prog w = .ok (.bool (!decide (a = b))) w := by
  rw [run_neq_struct, eq_run, eqb_ent]
  rfl

end Go.Proofs.Yteijkbanlpodpaa

/- The document's Size and Same. -/
namespace Go.Proofs.Yteijkbanlpodpaa
open Go.RowKit Go.BigFrame

set_option maxRecDepth 100000 in
set_option maxHeartbeats 1000000 in
theorem rsize_any (v : Value) (t : List Ent) (w : World) (h : Ents w v t) (hn : t.length ≤ 4611686018427387904) (hz : szP t ≤ 4611686018427387904) :
    Calls Try.prog 10 #[v] w fun r w' => r = .returned (.int .i64 (szP t : Nat)) ∧ w' = w := by
  obtain ⟨ao, c, rfl⟩ := h.shape
  have H := hid h
  have HZ := hid hz
  clear h hz
  go_enter Try.func10, Try.ntmps10
  go_wp2
  go_loop [3, 4] (fun s i => ∃ k : Nat, i = .int .i64 k ∧ k ≤ t.length ∧ s = .int .i64 (szP (t.take k) : Nat)) (fun _ i => t.length - (intOf i).toNat)
  case atStart => exact ⟨0, rfl, Nat.zero_le _, rfl⟩
  case round =>
    obtain ⟨k, rfl, hk, rfl⟩ := hrel
    by_cases hlt : k < t.length
    · have q2 : (k : Int) < (t.length : Int) := by omega
      obtain ⟨g, o, rfl, hgl, hcell⟩ := H.out.at k hlt
      obtain ⟨e, HE⟩ : ∃ e, Hid (t.getD k zE = e) := ⟨_, rfl⟩
      rw [HE.out] at hcell
      obtain ⟨c0, c1, c2⟩ := hcell
      have HS := hid (show szP (t.take (k + 1)) = szP (t.take k) + e.2.2.length by rw [take_snoc t k hlt, szP_snoc, HE.out])
      have HT := hid (szP_take t (k + 1))
      obtain ⟨S, HSS⟩ : ∃ S : Nat, Hid (szP (t.take k) = S) := ⟨_, rfl⟩
      obtain ⟨M, HMM⟩ : ∃ M : Nat, Hid (szP (t.take (k + 1)) = M) := ⟨_, rfl⟩
      rw [HSS.out, HMM.out] at HS
      rw [HMM.out] at HT
      rw [HSS.out]
      have hdz : (mk e.2.2).size = e.2.2.length := mk_size _
      obtain ⟨D, HDD⟩ : ∃ D : Nat, Hid (e.2.2.length = D) := ⟨_, rfl⟩
      rw [HDD.out] at hdz HS
      have hw1 : IntKind.i64.wrap ((S : Int) + (D : Int)) = (M : Int) := by rw [IntKind.wrap_i64]; have := HS.out; have := HT.out; have := HZ.out; omega
      have hDl : D ≤ 4611686018427387904 := by have := HS.out; have := HT.out; have := HZ.out; omega
      generalize mk e.2.2 = sd at *
      go_wp2
      exact ⟨⟨k + 1, by simp, by omega, by rw [HMM.out]⟩, by simp [intOf]; omega⟩
    · have q2 : ¬ (k : Int) < (t.length : Int) := by omega
      obtain rfl : k = t.length := by omega
      rw [List.take_length]
      go_wp2
      go_ret
      exact ⟨rfl, rfl⟩

theorem ext_getD {a b : List Ent} (h : a.length = b.length) (hs : ∀ j, j < a.length → a.getD j zE = b.getD j zE) : a = b := by
  apply List.ext_getElem h
  intro i h1 h2
  have := hs i h1
  simpa [List.getD_eq_getElem?_getD, h1, h2] using this

end Go.Proofs.Yteijkbanlpodpaa

/- The document's below, where. -/
namespace Go.Proofs.Yteijkbanlpodpaa
open Go.RowKit Go.BigFrame

set_option maxRecDepth 100000 in
set_option maxHeartbeats 2000000 in
theorem rbelow_any (d q : List UInt8) (w : World) (hq : q ≠ []) :
    Calls Try.prog 31 #[.string (mk d), .string (mk q)] w fun r w' => r = .returned (.bool (lyP d q)) ∧ w' = w := by
  have q1 : ¬ (mk q).toList = [] := fun h => hq ((bl_mk q).symm.trans h)
  have q2 : ((mk q).toList == []) = false := by simpa using q1
  have q3 : (mk q).toList.isEmpty = false := by simpa using q1
  by_cases h0 : d = []
  · have HL := hid (show lyP d q = true from by unfold lyP; rw [decide_eq_true h0, Bool.true_or])
    have e1 : (mk d).toList = [] := by rw [h0]; exact bl_mk []
    have e2 : ((mk d).toList == []) = true := by rw [e1]; rfl
    clear h0
    generalize mk d = s1 at *
    generalize mk q = s2 at *
    go_enter Try.func31, Try.ntmps31
    go_wp2
    go_ret
    exact ⟨ret_bb HL.out.symm, rfl⟩
  · have e1 : ¬ (mk d).toList = [] := fun h => h0 ((bl_mk d).symm.trans h)
    have e2 : ((mk d).toList == []) = false := by simpa using e1
    have e3 : (mk d).toList.isEmpty = false := by simpa using e1
    have lp : (mk d).size = d.length := mk_size d
    have lq : (mk q).size = q.length := mk_size q
    have HU := hid (under_is (p := d) (q := q) h0)
    by_cases hl : d.length < q.length
    · have l1 : (d.length : Int) < (q.length : Int) := by omega
      have HTO := text_to q d.length (by omega)
      have HAT := text_at q d.length hl
      obtain ⟨C, HC⟩ : ∃ C, Hid (q.getD d.length 0 = C) := ⟨_, rfl⟩
      rw [HC.out] at HU HAT
      by_cases ht : q.take d.length = d
      · have t5 : (mk (q.take d.length)).toList = (mk d).toList := by rw [ht]
        have HT := hid ht
        clear ht
        by_cases hc : C = 47
        · have HL := hid (show lyP d q = true from HU.out.2 ⟨hl, HT.out, hc⟩)
          subst hc
          clear HU h0 HC hl
          generalize mk (q.take d.length) = s3 at *
          generalize mk d = s1 at *
          generalize mk q = s2 at *
          go_enter Try.func31, Try.ntmps31
          go_wp2
          go_ret
          exact ⟨ret_bb HL.out.symm, rfl⟩
        · have HL := hid (show lyP d q = false from by
            cases e : lyP d q with
            | false => rfl
            | true => exact absurd (HU.out.1 e).2.2 hc)
          have c1 : ¬ (C.toNat : Int) = 47 := fun e => hc (UInt8.toNat_inj.1 (by rw [show (47 : UInt8).toNat = 47 from rfl]; omega))
          have c2 : ((C.toNat : Int) == 47) = false := by simpa using c1
          obtain ⟨K, HK⟩ : ∃ K : Int, Hid ((C.toNat : Int) = K) := ⟨_, rfl⟩
          rw [HK.out] at c1 c2 HAT
          clear HU h0 HC hl hc HK
          generalize mk (q.take d.length) = s3 at *
          generalize mk d = s1 at *
          generalize mk q = s2 at *
          go_enter Try.func31, Try.ntmps31
          go_wp2
          go_ret
          exact ⟨ret_bb HL.out.symm, rfl⟩
      · have HL := hid (show lyP d q = false from by
          cases e : lyP d q with
          | false => rfl
          | true => exact absurd (HU.out.1 e).2.1 ht)
        have t5 : ¬ (mk (q.take d.length)).toList = (mk d).toList := fun h => ht (by have h2 : bl (mk (q.take d.length)) = bl (mk d) := h; rw [bl_mk, bl_mk] at h2; exact h2)
        have t6 : ((mk (q.take d.length)).toList == (mk d).toList) = false := by simpa using t5
        clear HU h0 HC hl ht HAT
        generalize mk (q.take d.length) = s3 at *
        generalize mk d = s1 at *
        generalize mk q = s2 at *
        go_enter Try.func31, Try.ntmps31
        go_wp2
        go_ret
        exact ⟨ret_bb HL.out.symm, rfl⟩
    · have HL := hid (show lyP d q = false from by
        cases e : lyP d q with
        | false => rfl
        | true => exact absurd (HU.out.1 e).1 hl)
      have l1 : ¬ (d.length : Int) < (q.length : Int) := by omega
      clear HU h0
      generalize mk d = s1 at *
      generalize mk q = s2 at *
      go_enter Try.func31, Try.ntmps31
      go_wp2
      go_ret
      exact ⟨ret_bb HL.out.symm, rfl⟩

set_option maxRecDepth 100000 in
set_option maxHeartbeats 2000000 in
theorem rwhere_any (v : Value) (t : List Ent) (d : List UInt8) (w : World) (h : Ents w v t) (hn : t.length ≤ 4611686018427387904) (hd : d.length ≤ 1099511627776) :
    Calls Try.prog 25 #[v, .string (mk d)] w fun r w' => r = .returned (.int .i64 (whP t d)) ∧ Below w.heap.size w w' := by
  have HP := hid (rpath_any (mk d) w (by rw [bl_mk]; exact hd))
  rw [bl_mk] at HP
  have HD := hid (fun W (hW : Below w.heap.size w W) => risdir_any v t d W (h.below hW) hn)
  have HF := hid (fun W (hW : Below w.heap.size w W) => rfind_any v t d W (h.below hW) hn)
  obtain ⟨ao, c, e0⟩ := h.shape
  subst e0
  clear h
  cases hok : okP d with
  | false =>
    have HW := hid (show whP t d = 45 from by unfold whP; rw [if_pos hok])
    rw [hok] at HP
    clear hok HD HF
    generalize mk d = s at *
    go_enter Try.func25, Try.ntmps25
    go_wp2_with (go_at_call 44; refine HP.out.mono ?_; rintro r w1 ⟨rfl, hb1⟩)
    go_ret
    exact ⟨by rw [HW.out]; rfl, hb1⟩
  | true =>
    rw [hok] at HP
    cases hdir : dirP t d with
    | true =>
      have HW := hid (show whP t d = 0 from wh_zero.2 ⟨hok, hdir⟩)
      rw [hdir] at HD
      clear hok HF hdir
      generalize mk d = s at *
      go_enter Try.func25, Try.ntmps25
      go_wp2_with (first | (go_at_call 44; refine HP.out.mono ?_; rintro r w1 ⟨rfl, hb1⟩; have HB1 := hid hb1) | (go_at_call 34; refine (HD.out _ HB1.out).mono ?_; rintro r w2 ⟨rfl, hw2⟩; have hw2 := hw2.symm; subst hw2))
      go_ret
      exact ⟨by rw [HW.out]; rfl, HB1.out⟩
    | false =>
      have HW := hid (show whP t d = if thP t d = false then 8 else 102 from by unfold whP; rw [hok, hdir]; rfl)
      rw [hdir] at HD
      have HFI := hid (fdP_fiP t d)
      cases hfi : fiP t d with
      | none =>
        have hz : fiN t d = -1 := by unfold fiN; rw [hfi]
        have HW2 := hid (show whP t d = 8 from by rw [HW.out, if_pos]; unfold thP; rw [HFI.out, hfi]; rfl)
        rw [hz] at HF
        clear hok hdir hfi hz HW
        generalize mk d = s at *
        go_enter Try.func25, Try.ntmps25
        go_wp2_with (first | (go_at_call 44; refine HP.out.mono ?_; rintro r w1 ⟨rfl, hb1⟩; have HB1 := hid hb1) | (go_at_call 34; refine (HD.out _ HB1.out).mono ?_; rintro r w2 ⟨rfl, hw2⟩; have hw2 := hw2.symm; subst hw2) | (go_at_call 7; refine (HF.out _ HB1.out).mono ?_; rintro r w3 ⟨rfl, hw3⟩; have hw3 := hw3.symm; subst hw3))
        go_ret
        exact ⟨by rw [HW2.out]; rfl, HB1.out⟩
      | some i =>
        have hz : fiN t d = (i : Int) := by unfold fiN; rw [hfi]
        have HW2 := hid (show whP t d = 102 from by rw [HW.out, if_neg]; unfold thP; rw [HFI.out, hfi]; simp)
        have i1 : ¬ (i : Int) < 0 := by omega
        rw [hz] at HF
        clear hok hdir hfi hz HW
        generalize mk d = s at *
        go_enter Try.func25, Try.ntmps25
        go_wp2_with (first | (go_at_call 44; refine HP.out.mono ?_; rintro r w1 ⟨rfl, hb1⟩; have HB1 := hid hb1) | (go_at_call 34; refine (HD.out _ HB1.out).mono ?_; rintro r w2 ⟨rfl, hw2⟩; have hw2 := hw2.symm; subst hw2) | (go_at_call 7; refine (HF.out _ HB1.out).mono ?_; rintro r w3 ⟨rfl, hw3⟩; have hw3 := hw3.symm; subst hw3))
        go_ret
        exact ⟨by rw [HW2.out]; rfl, HB1.out⟩

/-- a tree and a number, as answered, wherever the entries lie -/
def AnsR (w' : World) (r : Ending) (x : Except Int (List Ent)) : Prop := match x with
  | .ok t => ∃ v, r = .returned (.tuple #[v, .int .i64 0]) ∧ Ents w' v t
  | .error e => r = .returned (.tuple #[.slice none 0 0, .int .i64 e])

end Go.Proofs.Yteijkbanlpodpaa

/- The document's Sub. -/
namespace Go.Proofs.Yteijkbanlpodpaa
open Go.RowKit Go.BigFrame

theorem ext_from (q : List UInt8) (k : Nat) : (mk q).extract k (mk q).size = mk (q.drop k) := by
  have h1 : (mk q).size = q.length := mk_size q
  apply ByteArray.ext
  rw [h1]
  simp [ByteArray.data_extract, mk]
  rw [List.take_of_length_le (by rw [List.length_drop]; omega)]
theorem subL_snoc (d : List UInt8) (t : List Ent) {k : Nat} (hk : k < t.length) : subL (t.take (k + 1)) d = subL (t.take k) d ++ (if lyP d (t.getD k zE).1 = true then [subE d (t.getD k zE)] else []) := by
  unfold subL
  rw [take_snoc t k hk, List.filter_append, List.map_append]
  congr 1
  by_cases h : lyP d (t.getD k zE).1 = true
  · rw [if_pos h, List.filter_cons, if_pos h]
    rfl
  · rw [if_neg h, List.filter_cons, if_neg h]
    rfl

set_option maxRecDepth 100000 in
set_option maxHeartbeats 4000000 in
theorem rsub_any (v : Value) (t : List Ent) (d : List UInt8) (w : World) (h : Ents w v t) (hl : Bulk t) (hn : t.length ≤ 4611686018427387904) (hd : d.length ≤ 1099511627776) :
    Calls Try.prog 15 #[v, .string (mk d)] w fun r w' => AnsE w' w.heap.size r (sbP t d) ∧ Below w.heap.size w w' := by
  obtain ⟨I0, HI0⟩ : ∃ I : Nat, Hid ((chkP t).1 = I) := ⟨_, rfl⟩
  obtain ⟨E0, HE0⟩ : ∃ E : Int, Hid ((chkP t).2 = E) := ⟨_, rfl⟩
  have HR := hid (rcheck_any v t w h hl hn)
  rw [HI0.out, HE0.out] at HR
  have HET := hid h
  obtain ⟨ao, c, e0⟩ := h.shape
  subst e0
  clear h hl
  by_cases hz : E0 = 0
  · subst hz
    have HRT := hid (rgt_iff.1 HE0.out)
    obtain ⟨W0, HW0⟩ : ∃ W, Hid (whP t d = W) := ⟨_, rfl⟩
    have HWH := hid (fun W (hW : Below w.heap.size w W) => rwhere_any _ t d W (HET.out.below hW) hn hd)
    rw [HW0.out] at HWH
    by_cases h1 : W0 = 0
    · subst h1
      have HAP := hid (show sbP t d = .ok (subL t d) from by unfold sbP; rw [if_neg (by simpa using HE0.out), if_neg (by simpa using HW0.out)])
      have HBW := hid (fun (e : Ent) (he : e ∈ t) W => rbelow_any d e.1 W (mayP_ne (HRT.out.may e he)))
      have hsz : (mk d).size = d.length := mk_size d
      by_cases h0 : d = []
      · have e1 : (mk d).toList = [] := by rw [h0]; exact bl_mk []
        have e2 : ((mk d).toList == []) = true := by rw [e1]; rfl
        have H0 := hid h0
        clear h0
        generalize mk d = S at *
        go_enter Try.func15, Try.ntmps15
        go_wp2_with (first | (go_at_call 16; refine HR.out.mono ?_; rintro r w1 ⟨rfl, hb1⟩; have HB1 := hid hb1; clear hb1) | (go_at_call 25; refine (HWH.out _ HB1.out).mono ?_; rintro r w2 ⟨rfl, hb2⟩; have HB2 := hid (below_then HB1.out hb2); clear hb2))
        have HE4 := hid (HET.out.below HB2.out)
        go_loopw [8, 9] (fun x i wr => ∃ k : Nat, i = .int .i64 k ∧ k ≤ t.length ∧ OwnE wr w2.heap.size x (subL (t.take k) d) ∧ Below w2.heap.size w2 wr) (fun _ i _ => t.length - (intOf i).toNat)
        case atStart => exact ⟨0, rfl, Nat.zero_le _, OwnE.nil _ _, Below.refl _ _⟩
        case round =>
          obtain ⟨k, rfl, hk, ho, hb⟩ := hrel
          have HO := hid ho
          have HB := hid hb
          obtain ⟨al, xl, e2⟩ := ho.ents.shape
          have hlen : (subL (t.take k) d).length ≤ 1024 := by
            unfold subL
            rw [List.length_map]
            have h1 := List.length_filter_le (fun e : Ent => lyP d e.1) (t.take k)
            rw [List.length_take] at h1
            have := HRT.out.many
            omega
          have HLL := hid hlen
          generalize (subL (t.take k) d).length = nl at e2
          subst e2
          clear ho hb hlen
          by_cases hlt : k < t.length
          · have hmany := HRT.out.many
            have q1 : (k : Int) < (t.length : Int) := by omega
            have q2 : ¬ (k : Int) < 0 := by omega
            have hw1 : IntKind.i64.wrap ((k : Int) + 1) = ((k + 1 : Nat) : Int) := by rw [IntKind.wrap_i64]; omega
            obtain ⟨g, o, rfl, hgl, hat⟩ := (HE4.out.below HB.out).at k hlt
            obtain ⟨e, HED⟩ : ∃ e, Hid (t.getD k zE = e) := ⟨_, rfl⟩
            rw [HED.out] at hat
            have HSN := hid (subL_snoc d t hlt)
            rw [HED.out] at HSN
            have HBL := hid (HBW.out e (by rw [← HED.out]; exact getD_mem hlt))
            have HLY := hid (show lyP d e.1 = lyP d e.1 from rfl)
            obtain ⟨d0, d1, d2⟩ := hat
            cases hly : lyP d e.1 with
            | false =>
              have HF2 := hid (show subL (t.take (k + 1)) d = subL (t.take k) d from by rw [HSN.out, hly]; simp)
              rw [hly] at HBL
              clear hly HLY
              go_wp2_with (go_at_call 31; refine (HBL.out _).mono ?_; rintro r w5 ⟨rfl, hw5⟩; have hw5 := hw5.symm; subst hw5)
              exact ⟨⟨k + 1, by simp, by omega, by rw [HF2.out]; exact HO.out, HB.out⟩, by simp [intOf]; omega⟩
            | true =>
              have HF2 := hid (show subL (t.take (k + 1)) d = subL (t.take k) d ++ [subE d e] from by rw [HSN.out, hly]; simp)
              have HLA := hid (show (subL (t.take k) d).length + [e].length ≤ 3298534883328 by have := HLL.out; simp only [List.length_cons, List.length_nil]; omega)
              have HLA2 := hid (show (subL (t.take k) d).length + [((e.1.drop (d.length + 1), e.2) : Ent)].length ≤ 3298534883328 by have := HLL.out; simp only [List.length_cons, List.length_nil]; omega)
              rw [hly] at HBL
              have HLY := hid hly
              clear hly
              have HF0 := hid (show subE d e = e from by unfold subE cutP; rw [if_pos H0.out])
              rw [HF0.out] at HF2
              have HEB := hid (Eb.new wr e)
              have HEN := hid (ents_one (wr.alloc (.cells #[.string (mk e.1), .int .i64 e.2.1, .string (mk e.2.2)] 25)) e)
              rw [show (wr.alloc (.cells #[.string (mk e.1), .int .i64 e.2.1, .string (mk e.2.2)] 25)).heap.size = wr.heap.size + 1 by simp] at HEN
              have HOA := hid ((HO.out.below (below_walk wr (.cells #[.string (mk e.1), .int .i64 e.2.1, .string (mk e.2.2)] 25))).below (below_walk (wr.alloc (.cells #[.string (mk e.1), .int .i64 e.2.1, .string (mk e.2.2)] 25)) (.cells #[.string (mk e.1), .int .i64 e.2.1, .string (mk e.2.2)] 25)))
              have HBA := hid ((HB.out.alloc HB.out.size (.cells #[.string (mk e.1), .int .i64 e.2.1, .string (mk e.2.2)] 25)).alloc (HB.out.alloc HB.out.size (.cells #[.string (mk e.1), .int .i64 e.2.1, .string (mk e.2.2)] 25)).size (.cells #[.string (mk e.1), .int .i64 e.2.1, .string (mk e.2.2)] 25))
              go_wp2_with (first | (go_at_call 31; refine (HBL.out _).mono ?_; rintro r w5 ⟨rfl, hw5⟩; have hw5 := hw5.symm; subst hw5) | (at_builtin; refine app_ent rfl _ _ rfl w2.heap.size _ _ rfl HOA.out [e] _ rfl HEN.out HLA.out HBA.out.size ?_; intro vA wA hoA hgA _; have HOB := hid hoA; have HBB := hid (HBA.out.grown hgA HBA.out.size (fun j hj => (HOA.out.lt j hj).1)); obtain ⟨aA, nA, cA, eA⟩ : ∃ a n c, vA = .slice a n c := by {obtain ⟨a, c, e⟩ := hoA.ents.shape; exact ⟨a, _, c, e⟩}; subst eA; clear hoA hgA))
              exact ⟨⟨k + 1, by simp, by omega, by rw [HF2.out]; exact HOB.out, HBB.out⟩, by simp [intOf]; omega⟩
          · have q1 : ¬ (k : Int) < (t.length : Int) := by omega
            obtain rfl : k = t.length := by omega
            rw [List.take_length] at HO
            go_wp2
            go_ret2
            rw [HAP.out]
            exact ⟨⟨_, rfl, HO.out.le HB2.out.size⟩, HB2.out.trans (HB.out.mono HB2.out.size)⟩

      · have e1 : ¬ (mk d).toList = [] := fun h => h0 ((bl_mk d).symm.trans h)
        have e2 : ((mk d).toList == []) = false := by simpa using e1
        have e3 : (mk d).toList.isEmpty = false := by simpa using e1
        have H0 := hid h0
        clear h0
        generalize mk d = S at *
        go_enter Try.func15, Try.ntmps15
        go_wp2_with (first | (go_at_call 16; refine HR.out.mono ?_; rintro r w1 ⟨rfl, hb1⟩; have HB1 := hid hb1; clear hb1) | (go_at_call 25; refine (HWH.out _ HB1.out).mono ?_; rintro r w2 ⟨rfl, hb2⟩; have HB2 := hid (below_then HB1.out hb2); clear hb2))
        have HE4 := hid (HET.out.below HB2.out)
        go_loopw [8, 9] (fun x i wr => ∃ k : Nat, i = .int .i64 k ∧ k ≤ t.length ∧ OwnE wr w2.heap.size x (subL (t.take k) d) ∧ Below w2.heap.size w2 wr) (fun _ i _ => t.length - (intOf i).toNat)
        case atStart => exact ⟨0, rfl, Nat.zero_le _, OwnE.nil _ _, Below.refl _ _⟩
        case round =>
          obtain ⟨k, rfl, hk, ho, hb⟩ := hrel
          have HO := hid ho
          have HB := hid hb
          obtain ⟨al, xl, e2⟩ := ho.ents.shape
          have hlen : (subL (t.take k) d).length ≤ 1024 := by
            unfold subL
            rw [List.length_map]
            have h1 := List.length_filter_le (fun e : Ent => lyP d e.1) (t.take k)
            rw [List.length_take] at h1
            have := HRT.out.many
            omega
          have HLL := hid hlen
          generalize (subL (t.take k) d).length = nl at e2
          subst e2
          clear ho hb hlen
          by_cases hlt : k < t.length
          · have hmany := HRT.out.many
            have q1 : (k : Int) < (t.length : Int) := by omega
            have q2 : ¬ (k : Int) < 0 := by omega
            have hw1 : IntKind.i64.wrap ((k : Int) + 1) = ((k + 1 : Nat) : Int) := by rw [IntKind.wrap_i64]; omega
            obtain ⟨g, o, rfl, hgl, hat⟩ := (HE4.out.below HB.out).at k hlt
            obtain ⟨e, HED⟩ : ∃ e, Hid (t.getD k zE = e) := ⟨_, rfl⟩
            rw [HED.out] at hat
            have HSN := hid (subL_snoc d t hlt)
            rw [HED.out] at HSN
            have HBL := hid (HBW.out e (by rw [← HED.out]; exact getD_mem hlt))
            have HLY := hid (show lyP d e.1 = lyP d e.1 from rfl)
            obtain ⟨d0, d1, d2⟩ := hat
            cases hly : lyP d e.1 with
            | false =>
              have HF2 := hid (show subL (t.take (k + 1)) d = subL (t.take k) d from by rw [HSN.out, hly]; simp)
              rw [hly] at HBL
              clear hly HLY
              go_wp2_with (go_at_call 31; refine (HBL.out _).mono ?_; rintro r w5 ⟨rfl, hw5⟩; have hw5 := hw5.symm; subst hw5)
              exact ⟨⟨k + 1, by simp, by omega, by rw [HF2.out]; exact HO.out, HB.out⟩, by simp [intOf]; omega⟩
            | true =>
              have HF2 := hid (show subL (t.take (k + 1)) d = subL (t.take k) d ++ [subE d e] from by rw [HSN.out, hly]; simp)
              have HLA := hid (show (subL (t.take k) d).length + [e].length ≤ 3298534883328 by have := HLL.out; simp only [List.length_cons, List.length_nil]; omega)
              have HLA2 := hid (show (subL (t.take k) d).length + [((e.1.drop (d.length + 1), e.2) : Ent)].length ≤ 3298534883328 by have := HLL.out; simp only [List.length_cons, List.length_nil]; omega)
              rw [hly] at HBL
              have HLY := hid hly
              clear hly
              have HF0 := hid (show subE d e = (e.1.drop (d.length + 1), e.2) from by unfold subE cutP; rw [if_neg H0.out])
              rw [HF0.out] at HF2
              have hql := (under_is H0.out).1 HLY.out
              have HSF := hid (ext_from e.1 (d.length + 1))
              have hwd : IntKind.i64.wrap ((d.length : Int) + 1) = ((d.length + 1 : Nat) : Int) := by rw [IntKind.wrap_i64]; omega
              have HEN := hid (ents_one (wr.alloc (.cells #[.string (mk (e.1.drop (d.length + 1))), .int .i64 e.2.1, .string (mk e.2.2)] 25)) (e.1.drop (d.length + 1), e.2))
              rw [show (wr.alloc (.cells #[.string (mk (e.1.drop (d.length + 1))), .int .i64 e.2.1, .string (mk e.2.2)] 25)).heap.size = wr.heap.size + 1 by simp] at HEN
              have HOA := hid ((HO.out.below (below_walk wr (.cells #[.string (mk (e.1.drop (d.length + 1))), .int .i64 e.2.1, .string (mk e.2.2)] 25))).below (below_walk (wr.alloc (.cells #[.string (mk (e.1.drop (d.length + 1))), .int .i64 e.2.1, .string (mk e.2.2)] 25)) (.cells #[.string (mk (e.1.drop (d.length + 1))), .int .i64 e.2.1, .string (mk e.2.2)] 25)))
              have HBA := hid ((HB.out.alloc HB.out.size (.cells #[.string (mk (e.1.drop (d.length + 1))), .int .i64 e.2.1, .string (mk e.2.2)] 25)).alloc (HB.out.alloc HB.out.size (.cells #[.string (mk (e.1.drop (d.length + 1))), .int .i64 e.2.1, .string (mk e.2.2)] 25)).size (.cells #[.string (mk (e.1.drop (d.length + 1))), .int .i64 e.2.1, .string (mk e.2.2)] 25))
              have hcs : (d.length : Int) + 1 ≤ ((mk e.1).size : Int) := by rw [mk_size]; have := hql.1; omega
              have hcs2 : ((d.length + 1 : Nat) : Int) ≤ ((mk e.1).size : Int) := by rw [mk_size]; have := hql.1; omega
              clear hql
              go_wp2_with (first | (go_at_call 31; refine (HBL.out _).mono ?_; rintro r w5 ⟨rfl, hw5⟩; have hw5 := hw5.symm; subst hw5) | (at_builtin; rw [HSF.out]; refine app_ent rfl _ _ rfl w2.heap.size _ _ rfl HOA.out [(e.1.drop (d.length + 1), e.2)] _ rfl HEN.out HLA2.out HBA.out.size ?_; intro vA wA hoA hgA _; have HOB := hid hoA; have HBB := hid (HBA.out.grown hgA HBA.out.size (fun j hj => (HOA.out.lt j hj).1)); obtain ⟨aA, nA, cA, eA⟩ : ∃ a n c, vA = .slice a n c := by {obtain ⟨a, c, e⟩ := hoA.ents.shape; exact ⟨a, _, c, e⟩}; subst eA; clear hoA hgA))
              exact ⟨⟨k + 1, by simp, by omega, by rw [HF2.out]; exact HOB.out, HBB.out⟩, by simp [intOf]; omega⟩
          · have q1 : ¬ (k : Int) < (t.length : Int) := by omega
            obtain rfl : k = t.length := by omega
            rw [List.take_length] at HO
            go_wp2
            go_ret2
            rw [HAP.out]
            exact ⟨⟨_, rfl, HO.out.le HB2.out.size⟩, HB2.out.trans (HB.out.mono HB2.out.size)⟩

    · have HAP := hid (show sbP t d = .error W0 from by unfold sbP; rw [if_neg (by simpa using HE0.out), HW0.out, if_pos h1])
      have e1 : (W0 == 0) = false := by simpa using h1
      clear h1
      generalize mk d = S at *
      go_enter Try.func15, Try.ntmps15
      go_wp2_with (first | (go_at_call 16; refine HR.out.mono ?_; rintro r w1 ⟨rfl, hb1⟩; have HB1 := hid hb1; clear hb1) | (go_at_call 25; refine (HWH.out _ HB1.out).mono ?_; rintro r w2 ⟨rfl, hb2⟩; have HB2 := hid (below_then HB1.out hb2); clear hb2))
      go_ret2
      rw [HAP.out]
      exact ⟨rfl, HB2.out⟩
  · have HAP := hid (show sbP t d = .error E0 from by unfold sbP; rw [HE0.out, if_pos hz])
    have e1 : (E0 == 0) = false := by simpa using hz
    clear hz
    generalize mk d = S at *
    go_enter Try.func15, Try.ntmps15
    go_wp2_with (go_at_call 16; refine HR.out.mono ?_; rintro r w1 ⟨rfl, hb1⟩; have HB1 := hid hb1; clear hb1)
    go_ret2
    rw [HAP.out]
    exact ⟨rfl, HB1.out⟩

end Go.Proofs.Yteijkbanlpodpaa

/- alive: a file in a directory that lacks. -/
namespace Go.Proofs.Yteijkbanlpodpaa
open Go.RowKit

def al0 : Ent := ([97, 47, 98], 1, [120])
def alT : List Ent := [([97], 2, []), al0]
theorem al_lack : lackL [al0] = [[97]] := by decide +kernel
theorem al_make : mkP [al0] = .ok alT := by
  have h1 : [al0].all mayP = true := by decide +kernel
  have h2 : ([al0].map (·.1)).Nodup := by simp
  have h3 : wrongP [al0] = false := by decide +kernel
  have h5 : szP [al0] = 1 := by decide +kernel
  have h6 : alT.Pairwise ltE := by
    unfold alT
    rw [List.pairwise_cons]
    refine ⟨fun b hb => ?_, List.pairwise_singleton _ _⟩
    rw [List.mem_singleton] at hb
    subst hb
    unfold ltE
    decide +kernel
  have h7 : (([al0] ++ [[97]].map dirE).map (·.1)).Nodup := by decide +kernel
  have h8 : alT = sortE ([al0] ++ [[97]].map dirE) := by
    refine sortE_uniq h6 h7 (fun e => ?_)
    unfold alT dirE
    simp
    exact Or.comm
  unfold mkP
  rw [h1, if_neg (show ¬ (true = false) by simp), if_neg (fun h => h h2), h3, if_neg (show ¬ (false = true) by simp), al_lack, h5, ← h8]
  rfl
theorem al_check : chkP alT = (0, 0) := by decide +kernel
theorem al_size : szP alT = 1 := by decide +kernel
theorem al_tre : Tre [al0] := ⟨by simp, fun e he => by rw [List.mem_singleton] at he; subst he; exact ⟨by decide, by decide⟩, by decide +kernel⟩
theorem al_short : Short alT := fun e he => by
  unfold alT at he
  simp only [List.mem_cons, List.not_mem_nil, or_false] at he
  rcases he with rfl | rfl
  · exact ⟨by simp, by simp⟩
  · exact ⟨by decide, by decide⟩

set_option maxRecDepth 100000 in
set_option maxHeartbeats 2000000 in
theorem alive_any (w : World) : Calls Try.prog 13 #[] w fun r w' => r = .returned (.bool true) ∧ Below w.heap.size w w' := by
  have HMK := hid (make_any _ [al0] _ (ents_one w al0) al_tre)
  rw [al_make] at HMK
  have HBA := hid (below_walk w (.cells #[.string ⟨#[97, 47, 98]⟩, .int .i64 1, .string ⟨#[120]⟩] 25))
  go_enter Try.func13, Try.ntmps13
  go_wp2_with fail
  refine HMK.out.mono ?_
  rintro r w2 ⟨⟨v2, rfl, ho2⟩, hb2⟩
  have HO2 := hid ho2
  have HB2 := hid (below_then HBA.out hb2)
  have HC2 := hid (tcheck_any v2 alT w2 ho2.ents al_short (by decide))
  rw [al_check] at HC2
  obtain ⟨a2, c2, h2⟩ := ho2.ents.shape
  subst h2
  clear ho2 hb2 HMK
  go_wp2_with fail
  refine HC2.out.mono ?_
  rintro r w3 ⟨rfl, hb3⟩
  have HEN := hid (HO2.out.ents.below hb3)
  have HB3 := hid (below_then HB2.out hb3)
  have HS3 := hid (size_any _ alT w3 HEN.out al_short (by decide) (by decide +kernel))
  rw [al_check, al_size] at HS3
  obtain ⟨g, o, rfl, hgl, x0, x1, x2⟩ := HEN.out.at 0 (by decide)
  clear hb3 HC2
  have e0 : w3.cell? ⟨g, o, none⟩ = some (.string ⟨#[97]⟩) := x0
  have e1 : w3.cell? ⟨g, o + 1, none⟩ = some (.int .i64 2) := x1
  have e2 : w3.cell? ⟨g, o + 2, none⟩ = some (.string ⟨#[]⟩) := x2
  have hl : alT.length = 2 := rfl
  rw [hl] at HS3 ⊢
  have hg := entG
  have heq : ∀ W, (binOp .eql 25 (.agg #[.string ⟨#[97]⟩, .int .i64 2, .string ⟨#[]⟩]) (.agg #[.string ⟨#[97]⟩, .int .i64 2, .string ⟨#[]⟩])).run Try.prog W = .ok (.bool true) W := fun W => by
    have := eql_ent ([97], 2, []) ([97], 2, []) W
    rw [decide_eq_true rfl] at this
    exact this
  clear x0 x1 x2 hl
  go_wp2_with (go_at_call 11; refine HS3.out.mono ?_; rintro r w4 ⟨rfl, hb4⟩)
  go_ret
  exact ⟨rfl, below_then HB3.out hb4⟩

end Go.Proofs.Yteijkbanlpodpaa
