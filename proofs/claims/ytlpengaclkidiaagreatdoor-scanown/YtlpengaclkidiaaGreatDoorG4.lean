/- Contracts and pure facts that the proof needs, joined. -/
import Derived.Test.YtlpengaclkidiaaGreatDoorG3
import Derived.Laws.StructEq
import Derived.Test.YtlpengaclkidiaaGreatDoorG2
import Derived.Deep.QuietTactic

/- The program's end, Head and Names. -/
namespace Go.Proofs.YtlpengaclkidiaaGreatDoor
open Go.RowKit

/-- includes are no more than bytes -/
theorem sc_many {l : List UInt8} (hl : l.length ≤ 65536) {L : List (List UInt8 × List UInt8 × Nat)} {tz : Nat} {e : Int} {g : Nat} (h : scP l 0 = (L, tz, e, g)) : L.length ≤ 65536 := by
  have key : ∀ (n a : Nat), a ≤ l.length → l.length - a = n → (scP l a).1.length ≤ l.length - a := by
    intro n
    induction n using Nat.strongRecOn with
    | _ n ih =>
      intro a ha hn
      rcases sc_view hl ha with ⟨t, e, h0, hp⟩ | ⟨k, f, x, _, _, _, hp, e, g, h0, _, hi⟩ | ⟨k, f, x, v, s, t2, h1, h2, h3, h4, hp, hi⟩
      · rw [sc_end hp h0]; simp
      · rw [sc_bad hp hi h0]; simp
      · rw [sc_step hl (by omega) (by omega) hp hi]
        have := ih (l.length - t2) (by omega) t2 h4 rfl
        unfold jnP
        split
        · simp
        · simp only [List.length_append, List.length_singleton]
          omega
  have := key l.length 0 (Nat.zero_le _) (by omega)
  rw [h] at this
  simp only at this
  omega
theorem include_ok {l : List UInt8} {a b k f m tz : Nat} {v n : List UInt8} (hl : l.length ≤ 65536) (ha : a ≤ l.length) (hp : plP l 0 a = ((k, f, m), 0)) (hm : m ≤ l.length) (hi : in1 l m = (0, 0, v, n, tz)) (W : World) (hT : Tabs W) (hR : Rs W b l a) :
    Calls Tryz.prog 16 #[.pointer (some ⟨b, 0, none⟩)] W fun r w' => r = .returned (.agg #[.string (mk v), .string (mk n), .int .i64 (f : Int)]) ∧ Rs w' b l tz ∧ W.grownBy w' (some b) := by
  rcases in_view hl (a := m) hm with ⟨e, g, h0, hg, hi2⟩ | ⟨f1, m1, k2, f2, m2, f3, m3, k4, f4, m4, i1, i2, i3, i4, i5, i6, i7, i8, i9, p1, p2, p3, p4, j3, j1, hi2⟩
  · rw [hi] at hi2
    simp only [Prod.mk.injEq] at hi2
    exact absurd hi2.1.symm h0
  · rw [hi] at hi2
    simp only [Prod.mk.injEq, true_and] at hi2
    obtain ⟨rfl, rfl, rfl⟩ := hi2
    exact inc_ok hl ha hp hm p1 (by omega) p2 (by omega) p3 (by omega) p4 (by omega) (by omega) j3 W hT hR

set_option maxRecDepth 20000 in
set_option maxHeartbeats 1000000 in
theorem end_none (l : List UInt8) (v : Value) (w : World) (h : Incs w v []) :
    Calls Tryz.prog 27 #[.string (mk l), v] w fun r w' => r = .returned (.int .i64 0) ∧ Below w.heap.size w w' := by
  obtain ⟨ao, c, rfl⟩ := h.shape
  clear h
  go_enter Tryz.func27, Tryz.ntmps27
  go_wp2
  go_ret
  exact ⟨rfl, Below.refl _ _⟩

set_option maxRecDepth 20000 in
set_option maxHeartbeats 1000000 in
theorem end_some (l : List UInt8) (v : Value) (L : List (List UInt8 × List UInt8 × Int)) (hL : 0 < L.length) (hLm : L.length ≤ 1000000) (x : List UInt8 × List UInt8 × Nat) (tz : Nat) (hx : L.getD (L.length - 1) noI = (x.1, x.2.1, (x.2.2 : Int))) (hl : l.length ≤ 65536) (hs : Lst l x tz) (w : World) (hT : Tabs w) (h : Incs w v L) :
    Calls Tryz.prog 27 #[.string (mk l), v] w fun r w' => r = .returned (.int .i64 (tz : Int)) ∧ Below w.heap.size w w' := by
  obtain ⟨ao, c, rfl⟩ := h.shape
  obtain ⟨g, o, rfl, hg, _, _, c2⟩ := h.at (L.length - 1) (by omega)
  rw [hx] at c2
  simp only at c2
  obtain ⟨k, m, s1, s2, s3, hp, hi⟩ := hs
  have HI := hid (fun b W hT hR => include_ok (b := b) hl (by omega) hp (by omega) hi W hT hR)
  obtain ⟨a, HAx⟩ : ∃ a, Hid (x.2.2 = a) := ⟨_, rfl⟩
  rw [HAx.out] at c2 HI
  have q0 : ¬ (L.length : Int) = 0 := by omega
  have q1 : (L.length : Int) - 1 < (L.length : Int) := by omega
  have q2 : (0 : Int) ≤ (L.length : Int) - 1 := by omega
  have HT := hid hT
  clear hT h hp hi s1 s2 hx
  go_enter Tryz.func27, Tryz.ntmps27
  go_upto_region 4 with fail
  have HB1 := hid (below_walk w (.cells #[.string (mk l), .int .i64 (a : Int)] 46))
  have HR1 : Hid (Rs (w.alloc (.cells #[.string (mk l), .int .i64 (a : Int)] 46)) w.heap.size l a) := hp_new _ _
  have hz := hp_size w (.cells #[.string (mk l), .int .i64 (a : Int)] 46)
  generalize w.alloc (.cells #[.string (mk l), .int .i64 (a : Int)] 46) = w1 at *
  go_wp2_with (go_at_call 16; refine (HI.out _ _ (HT.out.below HB1.out) HR1.out).mono ?_; rintro r w2 ⟨rfl, hr2, hg2⟩; have HG2 := hid hg2; have d1 := hr2.c1; clear hg2 hr2)
  go_ret
  exact ⟨rfl, HB1.out.grown HG2.out (by omega) (fun k hk => by injection hk with hk; omega)⟩

theorem is_last (l : List UInt8) : ((isP l).1 = [] ∧ (isP l).2.1 = 0) ∨ (l.length ≤ 65536 ∧ (isP l).1.length ≤ 65536 ∧ ∃ L' x, (isP l).1 = L' ++ [x] ∧ Lst l x (isP l).2.1) := by
  unfold isP
  by_cases hl : 65536 < l.length
  · rw [if_pos hl]; exact Or.inl ⟨rfl, rfl⟩
  · rw [if_neg hl]
    have hl : l.length ≤ 65536 := by omega
    have hf := sc_form hl (a := 0) (Nat.zero_le _)
    obtain ⟨L, tz, e, g, hq⟩ : ∃ L tz e g, scP l 0 = (L, tz, e, g) := ⟨_, _, _, _, rfl⟩
    rw [hq] at hf ⊢
    unfold jnP at hf
    simp only at hf ⊢
    split at hf
    · simp only [Prod.mk.injEq] at hf
      exact Or.inl ⟨hf.1, hf.2.1⟩
    · simp only [Prod.mk.injEq, List.nil_append, true_and] at hf
      obtain ⟨rfl, rfl⟩ := hf
      rcases sc_last hl (a := 0) (Nat.zero_le _) L tz hq with ⟨h1, h2⟩ | ⟨L', x, h1, h2⟩
      · exact Or.inl ⟨h1, h2⟩
      · refine Or.inr ⟨hl, ?_, L', x, h1, h2⟩
        exact sc_many hl hq

theorem incls_any (l : List UInt8) (w : World) (hT : Tabs w) :
    Calls Tryz.prog 5 #[.string (mk l)] w fun r w' => ∃ v, r = .returned (.tuple #[v, .agg #[.int .i64 (isP l).2.2.1, .int .i64 ((isP l).2.2.2 : Nat)]]) ∧ OwnN w' w.heap.size v (toI (isP l).1) ∧ Below w.heap.size w w' := by
  unfold isP
  by_cases hl : 65536 < l.length
  · rw [if_pos hl]; exact incls_long l hl w
  · rw [if_neg hl]; exact incls_ok l (by omega) w hT

theorem toI_last (L : List (List UInt8 × List UInt8 × Nat)) (x : List UInt8 × List UInt8 × Nat) : (toI (L ++ [x])).getD ((toI (L ++ [x])).length - 1) noI = (x.1, x.2.1, (x.2.2 : Int)) := by
  rw [toI_app, List.getD_eq_getElem?_getD, List.length_append, List.length_singleton, Nat.add_sub_cancel, List.getElem?_append_right (Nat.le_refl _), Nat.sub_self]
  rfl
/-- where the includes of a source end -/
theorem end_is (l : List UInt8) (v : Value) (w : World) (hT : Tabs w) (h : Incs w v (toI (isP l).1)) :
    Calls Tryz.prog 27 #[.string (mk l), v] w fun r w' => r = .returned (.int .i64 ((isP l).2.1 : Nat)) ∧ Below w.heap.size w w' := by
  rcases is_last l with ⟨h1, h2⟩ | ⟨hl, hm, L', x, h1, h2⟩
  · rw [h1] at h
    rw [h2]
    exact end_none l v w h
  · have hx := toI_last L' x
    have hlen : (toI (isP l).1).length = (isP l).1.length := toI_len _
    rw [← h1] at hx
    exact end_some l v _ (by rw [hlen, h1]; simp) (by omega) x _ hx hl h2 w hT h

set_option maxRecDepth 20000 in
set_option maxHeartbeats 1000000 in
theorem head_any (l : List UInt8) (w : World) (hT : Tabs w) :
    Calls Tryz.prog 13 #[.string (mk l)] w fun r w' => r = .returned (.int .i64 ((isP l).2.1 : Nat)) ∧ Below w.heap.size w w' := by
  have HI := hid (incls_any l w hT)
  have HE := hid (fun v W hT h => end_is l v W hT h)
  have HT := hid hT
  obtain ⟨e, HE1⟩ : ∃ e, Hid ((isP l).2.2.1 = e) := ⟨_, rfl⟩
  obtain ⟨g, HE2⟩ : ∃ e, Hid ((isP l).2.2.2 = e) := ⟨_, rfl⟩
  rw [HE1.out, HE2.out] at HI
  obtain ⟨tz, HE3⟩ : ∃ e, Hid ((isP l).2.1 = e) := ⟨_, rfl⟩
  rw [HE3.out] at HE
  rw [HE3.out]
  obtain ⟨L, HE4⟩ : ∃ e, Hid ((isP l).1 = e) := ⟨_, rfl⟩
  rw [HE4.out] at HE HI
  clear hT
  go_enter Tryz.func13, Tryz.ntmps13
  go_wp2_with first
    | (go_at_call 5; refine HI.out.mono ?_; rintro r w2 ⟨v, rfl, ho, hb⟩; have HO := hid ho; have HB := hid hb; obtain ⟨sa, sc, hv⟩ := ho.shape; subst hv; clear ho hb)
    | (go_at_call 27; refine (HE.out _ _ (HT.out.below (HB.out.trans ((below_walk _ _).mono HB.out.size))) (HO.out.below (below_walk _ _)).incs).mono ?_; rintro r w3 ⟨rfl, hb3⟩)
  go_ret
  exact ⟨rfl, (HB.out.trans ((below_walk _ _).mono HB.out.size)).trans (hb3.mono (by rw [hp_size]; have := HB.out.size; omega))⟩

end Go.Proofs.YtlpengaclkidiaaGreatDoor

/- Includes and faults compared; one include is found, whatever else is so. -/
namespace Go.Proofs.YtlpengaclkidiaaGreatDoor
open Go.RowKit

theorem fault_run (a b x y : Int) (w : World) : (Op.equalIn 10000 28 (.agg #[.int .i64 a, .int .i64 b]) (.agg #[.int .i64 x, .int .i64 y])).run Tryz.prog w = .ok (a == x && b == y) w := by
  have hS : Tryz.prog.underlying 28 = some (.struct (Tryz.prog.fieldsOf 28)) := by kernel_rfl
  have hp : Tryz.prog.stoodInHeld 28 = false := by kernel_rfl
  have u3 := Tryz.underlying3
  have a3 := Tryz.isAgg3
  have z3 := Tryz.sizeOf3
  have u9 := Tryz.underlying26
  have a9 := Tryz.isAgg26
  have z9 := Tryz.sizeOf26
  rw [show (10000 : Nat) = 9999 + 1 from rfl, run_equalIn_agg w 9999 28 _ _ hS hp]
  simp only [Program.fieldsOf, Tryz.underlying28]
  go_simp
  by_cases h1 : a = x <;> by_cases h2 : b = y <;> simp [h1, h2]
theorem fault_eql (a b x y : Int) (w : World) : (binOp .eql 28 (.agg #[.int .i64 a, .int .i64 b]) (.agg #[.int .i64 x, .int .i64 y])).run Tryz.prog w = .ok (.bool (decide ((a, b) = (x, y)))) w := by
  rw [run_eql_struct, fault_run]
  have : (a == x && b == y) = decide ((a, b) = (x, y)) := by
    rw [Bool.eq_iff_iff]
    simp
  rw [this]
  rfl
theorem inc_run (s1 s2 d1 d2 : ByteArray) (k1 k2 : Int) (w : World) : (Op.equalIn 10000 25 (.agg #[.string s1, .string d1, .int .i64 k1]) (.agg #[.string s2, .string d2, .int .i64 k2])).run Tryz.prog w = .ok (s1.toList == s2.toList && d1.toList == d2.toList && k1 == k2) w := by
  have hS : Tryz.prog.underlying 25 = some (.struct (Tryz.prog.fieldsOf 25)) := by kernel_rfl
  have hp : Tryz.prog.stoodInHeld 25 = false := by kernel_rfl
  have u3 := Tryz.underlying3
  have a3 := Tryz.isAgg3
  have z3 := Tryz.sizeOf3
  have u9 := Tryz.underlying9
  have a9 := Tryz.isAgg9
  have z9 := Tryz.sizeOf9
  rw [show (10000 : Nat) = 9999 + 1 from rfl, run_equalIn_agg w 9999 25 _ _ hS hp]
  simp only [Program.fieldsOf, Tryz.underlying25]
  go_simp
  by_cases h1 : s1.toList = s2.toList <;> by_cases h2 : k1 = k2 <;> by_cases h3 : d1.toList = d2.toList <;> simp [h1, h2, h3]
theorem inc_eql (s1 s2 d1 d2 : ByteArray) (k1 k2 : Int) (w : World) : (binOp .eql 25 (.agg #[.string s1, .string d1, .int .i64 k1]) (.agg #[.string s2, .string d2, .int .i64 k2])).run Tryz.prog w = .ok (.bool (s1.toList == s2.toList && d1.toList == d2.toList && k1 == k2)) w := by
  rw [run_eql_struct, inc_run]
  rfl

theorem al_1 : isP [105, 110, 99, 108, 117, 100, 101, 32, 34, 97, 46, 109, 34, 32, 97, 115, 32, 97, 59, 32, 99, 111, 110, 115, 116] = ([([97, 46, 109], [97], 0)], 19, 0, 0) := by decide +kernel
theorem al_2 : (isP [105, 110, 99, 108, 117, 100, 101, 32, 34, 97, 34, 32, 97, 115, 32, 97, 59]).2.1 = 17 := by decide +kernel

set_option maxRecDepth 20000 in
set_option maxHeartbeats 2000000 in
theorem alive_any (w : World) (hT : Tabs w) :
    Calls Tryz.prog 4 #[] w fun e w' => e = .returned (.bool true) ∧ Below w.heap.size w w' := by
  have H1 := incls_any [105, 110, 99, 108, 117, 100, 101, 32, 34, 97, 46, 109, 34, 32, 97, 115, 32, 97, 59, 32, 99, 111, 110, 115, 116] w hT
  rw [al_1] at H1
  have H1 : Hid (Calls Tryz.prog 5 #[.string ⟨#[105, 110, 99, 108, 117, 100, 101, 32, 34, 97, 46, 109, 34, 32, 97, 115, 32, 97, 59, 32, 99, 111, 110, 115, 116]⟩] w fun e w' => ∃ v, e = .returned (.tuple #[v, .agg #[.int .i64 0, .int .i64 0]]) ∧ OwnN w' w.heap.size v [([97, 46, 109], [97], 0)] ∧ Below w.heap.size w w') := H1
  have H2 : Hid (∀ w, Tabs w → Calls Tryz.prog 13 #[.string ⟨#[105, 110, 99, 108, 117, 100, 101, 32, 34, 97, 34, 32, 97, 115, 32, 97, 59]⟩] w fun e w' => e = .returned (.int .i64 17) ∧ Below w.heap.size w w') := fun w h => by
    have := head_any [105, 110, 99, 108, 117, 100, 101, 32, 34, 97, 34, 32, 97, 115, 32, 97, 59] w h
    rw [al_2] at this
    exact this
  have n1 : ∀ W, (binOp .eql 28 (.agg #[.int .i64 0, .int .i64 0]) (.agg #[.int .i64 0, .int .i64 0])).run Tryz.prog W = .ok (.bool true) W := fun W => fault_eql 0 0 0 0 W
  have n2 : ∀ W, (binOp .eql 25 (.agg #[.string (mk [97, 46, 109]), .string (mk [97]), .int .i64 0]) (.agg #[.string ⟨#[97, 46, 109]⟩, .string ⟨#[97]⟩, .int .i64 0])).run Tryz.prog W = .ok (.bool true) W := fun W => by
    have := inc_eql (mk [97, 46, 109]) (mk [97, 46, 109]) (mk [97]) (mk [97]) 0 0 W
    rw [show ((mk [97, 46, 109]).toList == (mk [97, 46, 109]).toList && (mk [97]).toList == (mk [97]).toList && (0 : Int) == 0) = true by simp] at this
    exact this
  have HT := hid hT
  clear hT
  go_enter Tryz.func4, Tryz.ntmps4
  go_upto_region 2 with (go_at_call 5; refine H1.out.mono ?_; rintro r w2 ⟨v, rfl, ho, hb⟩; have HO := hid ho; have HB := hid hb; obtain ⟨sa, sc, hv⟩ := ho.shape; subst hv; clear ho hb)
  have HB2 := hid (HB.out.trans ((below_walk w2 (.cells #[.int .i64 0, .int .i64 0] 28)).mono HB.out.size))
  have HO2 := hid (HO.out.below (below_walk w2 (.cells #[.int .i64 0, .int .i64 0] 28))).incs
  have hf := hp_new w2 (.cells #[.int .i64 0, .int .i64 0] 28)
  have f0 : (w2.alloc (.cells #[.int .i64 0, .int .i64 0] 28)).cell? ⟨w2.heap.size, 0, none⟩ = some (.int .i64 0) := by rw [cell_of_row _ _ _ _ _ _ hf]; rfl
  have f1 : (w2.alloc (.cells #[.int .i64 0, .int .i64 0] 28)).cell? ⟨w2.heap.size, 1, none⟩ = some (.int .i64 0) := by rw [cell_of_row _ _ _ _ _ _ hf]; rfl
  generalize w2.alloc (.cells #[.int .i64 0, .int .i64 0] 28) = w3 at *
  obtain ⟨g, o, hsa, _, e0, e1, e2⟩ := HO2.out.at 0 (by decide)
  subst hsa
  have e0 : w3.cell? ⟨g, o, none⟩ = some (.string (mk [97, 46, 109])) := e0
  have e1 : w3.cell? ⟨g, o + 1, none⟩ = some (.string (mk [97])) := e1
  have e2 : w3.cell? ⟨g, o + 2, none⟩ = some (.int .i64 0) := e2
  clear hf
  go_wp2_with (go_at_call 13; refine (H2.out _ (HT.out.below HB2.out)).mono ?_; rintro r w4 ⟨rfl, hb4⟩)
  go_ret
  exact ⟨rfl, HB2.out.trans (hb4.mono HB2.out.size)⟩

end Go.Proofs.YtlpengaclkidiaaGreatDoor

/- The program's Names. -/
namespace Go.Proofs.YtlpengaclkidiaaGreatDoor
open Go.RowKit

def nmL (L : List (List UInt8 × List UInt8 × Int)) : List (List UInt8) := L.map (·.2.1)
theorem nmL_succ (L : List (List UInt8 × List UInt8 × Int)) (k : Nat) (hk : k < L.length) : nmL (L.take k) ++ [(L.getD k noI).2.1] = nmL (L.take (k + 1)) := by
  unfold nmL
  rw [List.take_succ_eq_append_getElem hk, List.map_append, List.getD_eq_getElem?_getD, List.getElem?_eq_getElem hk]
  rfl
theorem strs_one (w : World) (s : List UInt8) : Strs (w.alloc (.cells #[.string (mk s)] 9)) (.slice (some ⟨w.heap.size, 0, none⟩) 1 1) [s] :=
  Or.inr ⟨w.heap.size, 0, 1, rfl, by rw [hp_size]; omega, by simp, fun j hj => by
    obtain rfl : j = 0 := by simp at hj; omega
    rw [Nat.zero_add, cell_of_row _ _ _ _ _ _ (hp_new _ _)]; rfl⟩

set_option maxRecDepth 20000 in
set_option maxHeartbeats 2000000 in
theorem names_any (v : Value) (L : List (List UInt8 × List UInt8 × Int)) (hn : L.length ≤ 8796093022207) (hs : ∀ x ∈ L, x.2.1.length ≤ 140737488355328) (w : World) (h : Incs w v L) :
    Calls Tryz.prog 9 #[v] w fun r w' => ∃ v', r = .returned v' ∧ OwnS w' w.heap.size v' (nmL L) ∧ Below w.heap.size w w' := by
  obtain ⟨ao, c, rfl⟩ := h.shape
  have HI := hid h
  have HSZ := hid hs
  obtain ⟨i0, hi, hz0, hz1, hz2⟩ := info_parts Tryz.infoStr
  clear h hs
  go_enter Tryz.func9, Tryz.ntmps9
  go_upto_region 2 with (refine wpList_make_own w (by rfl) _ _ 34 (by rfl) w.heap.size 9 i0 (.string ⟨#[]⟩) 1 Tryz.underlying34 hi hz0 hz1 .i64 .i64 (L.length : Int) L.length (by rfl) (by rfl) rfl (by rw [hz2]; omega) (by unfold maxLen; omega) (Nat.le_refl _) ?_; intro w2 ho2 hg2)
  have HO2 : Hid (OwnS w2 w.heap.size (.slice (some ⟨w.heap.size, 0, none⟩) 0 L.length) (nmL (L.take 0))) := hid (by rw [List.take_zero]; exact ho2)
  have HB2 := hid (gb_below hg2)
  clear ho2 hg2 hi hz0 hz1 hz2
  go_wp2
  go_loopw [3, 11] (fun vl i wr => ∃ (k : Nat), i = .int .i64 k ∧ k ≤ L.length ∧ OwnS wr w.heap.size vl (nmL (L.take k)) ∧ Below w.heap.size w wr) (fun _ i _ => L.length - (intOf i).toNat)
  case atStart => exact ⟨0, rfl, Nat.zero_le _, HO2.out, HB2.out⟩
  case round =>
    obtain ⟨k, rfl, hk, ho, hb⟩ := hrel
    by_cases hlt : k < L.length
    · have q1 : (k : Int) < (L.length : Int) := by omega
      have HB := hid hb
      have HO := hid ho
      have HIr := hid (HI.out.below hb)
      obtain ⟨g, o, rfl, hg, e0, e1, e2⟩ := HIr.out.at k hlt
      have HNM := hid (nmL_succ L k hlt)
      have hnl : (L.getD k noI).2.1.length ≤ 140737488355328 := HSZ.out _ (by rw [List.getD_eq_getElem?_getD, List.getElem?_eq_getElem hlt]; exact List.getElem_mem hlt)
      obtain ⟨⟨x, y, z⟩, HX⟩ : ∃ t, Hid (L.getD k noI = t) := ⟨_, rfl⟩
      rw [HX.out] at e0 e1 e2 HNM hnl
      have HC := hid (sclone_any (mk y) (by rw [mk_size]; simp only at hnl; omega))
      have hle : (nmL (L.take k)).length ≤ 8796093022206 := by unfold nmL; rw [List.length_map, List.length_take]; omega
      obtain ⟨ts, HTS⟩ : ∃ ts, Hid (nmL (L.take k) = ts) := ⟨_, rfl⟩
      rw [HTS.out] at HNM HO hle
      clear hb ho hg hnl
      go_wp2_with first
        | (go_at_call 22; refine (HC.out _).mono ?_; rintro r w3 ⟨rfl, hb3⟩; have HB3 := hid (((below_walk wr (.cells #[.string (mk x), .string (mk y), .int .i64 z] 25)).trans (hb3.mono (by rw [hp_size]; omega)))); clear hb3)
        | (refine app_text (by rfl) (.tmp 15) (.tmp 19) (by rfl) w.heap.size _ ts (by rfl) ((HO.out.below HB3.out).below (below_walk _ _)) [y] _ (by rfl) (strs_one w3 y) (by simp; omega) (by rw [hp_size]; have := HB.out.size; have := HB3.out.size; omega) ?_
           intro v' w4 ho4 hg4 hpl
           have HO4 := hid ho4
           have HB4 := hid ((((HB.out.trans (HB3.out.mono HB.out.size)).alloc (by have := HB.out.size; have := HB3.out.size; omega) (.cells #[.string (mk y)] 9))).grown hg4 (by rw [hp_size]; have := HB.out.size; have := HB3.out.size; omega) (fun q hq => (HO.out.lt q hq).1))
           clear ho4 hg4 hpl)
      exact ⟨⟨k + 1, by simp, by omega, by rw [← HNM.out]; exact HO4.out, HB4.out⟩, by simp [intOf]; omega⟩
    · have q1 : ¬ (k : Int) < (L.length : Int) := by omega
      obtain rfl : k = L.length := by omega
      rw [List.take_length] at ho
      have HO := hid ho
      have HB := hid hb
      clear ho hb
      go_wp2
      go_ret
      exact ⟨_, rfl, HO.out, HB.out⟩

end Go.Proofs.YtlpengaclkidiaaGreatDoor

/- The document's Same of two lists of includes. -/
namespace Go.Proofs.YtlpengaclkidiaaGreatDoor
open Go.RowKit

set_option maxRecDepth 20000 in
set_option maxHeartbeats 2000000 in
theorem rsameT (A : List (List UInt8 × List UInt8 × Int)) (v1 v2 : Value) (w : World) (h1 : Incs w v1 A) (h2 : Incs w v2 A) (hn : A.length ≤ 140737488355328) :
    Calls Tryz.prog 7 #[v1, v2, .bool true] w fun e w' => e = .returned (.bool true) ∧ ∃ n, w' = w.drewN n := by
  obtain ⟨a1, c1, rfl⟩ := h1.shape
  obtain ⟨a2, c2, rfl⟩ := h2.shape
  have HO1 := hid h1
  have HO2 := hid h2
  clear h1 h2
  go_enter Tryz.func7, Tryz.ntmps7
  go_wp2
  go_loopw [7] (fun i wr => ∃ k q : Nat, i = .int .i64 k ∧ k ≤ A.length ∧ wr = w.drewN q) (fun i _ => A.length - (intOf i).toNat)
  case atStart => exact ⟨0, 0, rfl, Nat.zero_le _, rfl⟩
  case round =>
    obtain ⟨i, q, rfl, hi, rfl⟩ := hrel
    by_cases hlt : i < A.length
    · have q1 : (i : Int) < (A.length : Int) := by omega
      obtain ⟨g1, o1, rfl, _, u0, u1, u2⟩ := HO1.out.at i hlt
      obtain ⟨g2, o2, rfl, _, y0, y1, y2⟩ := HO2.out.at i hlt
      obtain ⟨⟨p, n, t⟩, HK⟩ : ∃ t, Hid (A.getD i noI = t) := ⟨_, rfl⟩
      rw [HK.out] at u0 u1 u2 y0 y1 y2
      have f1 : ((mk p).toList == (mk p).toList) = true := by simp
      have f2 : ((mk n).toList == (mk n).toList) = true := by simp
      go_wp2_with fail
      go_quiet (fail)
      go_wp2
      exact ⟨⟨i + 1, _, by simp, by omega, rfl⟩, by simp [intOf]; omega⟩
    · have q1 : ¬ (i : Int) < (A.length : Int) := by omega
      go_wp2
      go_ret
      exact ⟨rfl, q, rfl⟩

set_option maxRecDepth 20000 in
set_option maxHeartbeats 2000000 in
theorem rsameF (A B : List (List UInt8 × List UInt8 × Int)) (v1 v2 : Value) (w : World) (h1 : Incs w v1 A) (h2 : Incs w v2 B) (hl : A.length = B.length) (hs : ∀ i, i < A.length → (A.getD i noI).1 = (B.getD i noI).1 ∧ (A.getD i noI).2.1 = (B.getD i noI).2.1) (hn : A.length ≤ 140737488355328) :
    Calls Tryz.prog 7 #[v1, v2, .bool false] w fun e w' => e = .returned (.bool true) ∧ ∃ n, w' = w.drewN n := by
  obtain ⟨a1, c1, rfl⟩ := h1.shape
  obtain ⟨a2, c2, e⟩ := h2.shape
  rw [← hl] at e
  subst e
  have HO1 := hid h1
  have HO2 := hid h2
  have HS := hid hs
  have HLE := hid hl
  clear h1 h2 hs hl
  go_enter Tryz.func7, Tryz.ntmps7
  go_wp2
  go_loopw [7] (fun i wr => ∃ k q : Nat, i = .int .i64 k ∧ k ≤ A.length ∧ wr = w.drewN q) (fun i _ => A.length - (intOf i).toNat)
  case atStart => exact ⟨0, 0, rfl, Nat.zero_le _, rfl⟩
  case round =>
    obtain ⟨i, q, rfl, hi, rfl⟩ := hrel
    by_cases hlt : i < A.length
    · have q1 : (i : Int) < (A.length : Int) := by omega
      obtain ⟨g1, o1, rfl, _, u0, u1, u2⟩ := HO1.out.at i hlt
      obtain ⟨g2, o2, rfl, _, y0, y1, y2⟩ := HO2.out.at i (by rw [← HLE.out]; exact hlt)
      obtain ⟨e1, e2⟩ := HS.out i hlt
      obtain ⟨⟨p, n, t⟩, HK⟩ : ∃ t, Hid (A.getD i noI = t) := ⟨_, rfl⟩
      rw [HK.out] at u0 u1 u2 e1 e2
      rw [← e1] at y0
      rw [← e2] at y1
      have f1 : ((mk p).toList == (mk p).toList) = true := by simp
      have f2 : ((mk n).toList == (mk n).toList) = true := by simp
      clear e1 e2 u2 y2
      go_wp2_with fail
      go_quiet (fail)
      go_wp2
      exact ⟨⟨i + 1, _, by simp, by omega, rfl⟩, by simp [intOf]; omega⟩
    · have q1 : ¬ (i : Int) < (A.length : Int) := by omega
      go_wp2
      go_ret
      exact ⟨rfl, q, rfl⟩

end Go.Proofs.YtlpengaclkidiaaGreatDoor

/- Where includes aim: both sides, and ScanAims. -/
namespace Go.Proofs.YtlpengaclkidiaaGreatDoor
open Go.RowKit

/-- where one include aims, and why nowhere -/
def amO (d p : List UInt8) : List UInt8 × Int := if aN (aimP d p) ≠ 0 then ([], aN (aimP d p)) else if aS (aimP d p) = [] then ([], 46) else (aS (aimP d p), 0)
def amL (d : List UInt8) : List (List UInt8 × List UInt8 × Int) → List (List UInt8) × Int × Int
  | [] => ([], 0, 0)
  | x :: r => if (amO d x.1).2 ≠ 0 then ([], (amO d x.1).2, x.2.2) else if (amL d r).2.1 ≠ 0 then ([], (amL d r).2) else ((amO d x.1).1 :: (amL d r).1, 0, 0)
def amT (d : List UInt8) (L : List (List UInt8 × List UInt8 × Int)) : List (List UInt8) := L.map fun x => (amO d x.1).1
def adP (m : List UInt8) (L : List (List UInt8 × List UInt8 × Int)) : List (List UInt8) × Int × Int := if spE m ≠ 0 then ([], spE m, 0) else amL (spD m) L
def AmOk (d : List UInt8) (L : List (List UInt8 × List UInt8 × Int)) (k : Nat) : Prop := ∀ j, j < k → (amO d (L.getD j noI).1).2 = 0
theorem am_bad {d : List UInt8} : ∀ {L : List (List UInt8 × List UInt8 × Int)} {k : Nat}, k < L.length → AmOk d L k → (amO d (L.getD k noI).1).2 ≠ 0 → amL d L = ([], (amO d (L.getD k noI).1).2, (L.getD k noI).2.2)
  | [], k, hk, _, _ => by simp at hk
  | x :: r, 0, _, _, h => by
    have h : (amO d x.1).2 ≠ 0 := h
    show amL d (x :: r) = ([], (amO d x.1).2, x.2.2)
    unfold amL
    rw [if_pos h]
  | x :: r, k + 1, hk, ho, h => by
    have h0 : (amO d x.1).2 = 0 := ho 0 (by omega)
    have ih := am_bad (d := d) (L := r) (k := k) (by simpa using hk) (fun j hj => ho (j + 1) (by omega)) h
    have h : (amO d (r.getD k noI).1).2 ≠ 0 := h
    show amL d (x :: r) = ([], (amO d (r.getD k noI).1).2, (r.getD k noI).2.2)
    unfold amL
    rw [if_neg (by rw [h0]; simp), ih, if_pos h]
theorem am_all {d : List UInt8} : ∀ {L : List (List UInt8 × List UInt8 × Int)}, AmOk d L L.length → amL d L = (amT d L, 0, 0)
  | [], _ => rfl
  | x :: r, ho => by
    have h0 : (amO d x.1).2 = 0 := ho 0 (by simp)
    have ih := am_all (d := d) (L := r) (fun j hj => ho (j + 1) (by simpa using hj))
    unfold amL
    rw [if_neg (by rw [h0]; simp), ih, if_neg (by simp)]
    rfl
theorem amT_succ (d : List UInt8) (L : List (List UInt8 × List UInt8 × Int)) (k : Nat) (hk : k < L.length) : amT d (L.take k) ++ [(amO d (L.getD k noI).1).1] = amT d (L.take (k + 1)) := by
  unfold amT
  rw [List.take_succ_eq_append_getElem hk, List.map_append, List.getD_eq_getElem?_getD, List.getElem?_eq_getElem hk]
  rfl
theorem AmOk.succ {d : List UInt8} {L : List (List UInt8 × List UInt8 × Int)} {k : Nat} (h : AmOk d L k) (h1 : (amO d (L.getD k noI).1).2 = 0) : AmOk d L (k + 1) := fun j hj => by
  rcases Nat.lt_or_ge j k with h2 | h2
  · exact h j h2
  · obtain rfl : j = k := by omega
    exact h1
theorem spD_len (s : List UInt8) : (spD s).length ≤ 2080 := by
  cases h : okP s with
  | false => unfold spD; rw [h]; simp
  | true =>
    by_cases h0 : s = []
    · rw [h0]; exact Nat.zero_le _
    · exact (splits_pure h h0).2.2.2.2

theorem aim_len (d s : List UInt8) : (aS (aimP d s)).length ≤ 2080 := by
  unfold aimP
  split
  · split
    · exact joinP_len
    · exact joinP_len
  · exact Nat.zero_le _

set_option maxRecDepth 20000 in
set_option maxHeartbeats 2000000 in
theorem aimof_any (d p : List UInt8) (w : World) (hd : d.length ≤ 1048576) (hp : p.length ≤ 1048576) :
    Calls Tryz.prog 21 #[.string (mk d), .string (mk p)] w fun e w' => e = .returned (.tuple #[.string (mk (amO d p).1), .int .i64 (amO d p).2]) ∧ Below w.heap.size w w' := by
  have H1 := aim_any (mk d) (mk p) w (by rw [bl_mk]; omega) (by rw [bl_mk]; omega)
  rw [bl_mk, bl_mk] at H1
  have H1 := hid H1
  have HC := hid (sclone_any (mk (aS (aimP d p))) (by rw [mk_size]; have := aim_len d p; omega))
  have hO : amO d p = if aN (aimP d p) ≠ 0 then ([], aN (aimP d p)) else if aS (aimP d p) = [] then ([], 46) else (aS (aimP d p), 0) := rfl
  have HO := hid hO
  clear hO
  obtain ⟨n, HN⟩ : ∃ n, Hid (aN (aimP d p) = n) := ⟨_, rfl⟩
  obtain ⟨s, HS⟩ : ∃ s, Hid (aS (aimP d p) = s) := ⟨_, rfl⟩
  rw [HN.out, HS.out] at H1 HO
  rw [HS.out] at HC
  by_cases hn : n = 0
  · subst hn
    by_cases hs : s = []
    · have f1 : ((mk s).toList == []) = true := by rw [tl_mk, hs]; rfl
      have f2 : (mk s).toList.isEmpty = true := by rw [tl_mk, hs]; rfl
      have FIN : Hid (amO d p = ([], 46)) := by show amO d p = _; rw [HO.out, if_neg (by simp), if_pos hs]
      rw [FIN.out]
      clear hs
      go_enter Tryz.func21, Tryz.ntmps21
      go_wp2_with (go_at_call 41; refine H1.out.mono ?_; rintro r w2 ⟨rfl, hb⟩; have HB := hid hb; clear hb)
      go_ret2
      exact ⟨rfl, HB.out⟩
    · have f1 : ((mk s).toList == []) = false := by rw [tl_mk, beq_eq_false_iff_ne]; exact hs
      have f2 : (mk s).toList.isEmpty = false := by rw [tl_mk]; cases s with | nil => exact absurd rfl hs | cons _ _ => rfl
      have FIN : Hid (amO d p = (s, 0)) := by show amO d p = _; rw [HO.out, if_neg (by simp), if_neg hs]
      rw [FIN.out]
      clear hs
      go_enter Tryz.func21, Tryz.ntmps21
      go_wp2_with first
        | (go_at_call 41; refine H1.out.mono ?_; rintro r w2 ⟨rfl, hb⟩; have HB := hid hb; clear hb)
        | (go_at_call 22; refine (HC.out _).mono ?_; rintro r w3 ⟨rfl, hb⟩; have HB3 := hid (HB.out.trans (hb.mono HB.out.size)); clear hb)
      go_ret2
      exact ⟨rfl, HB3.out⟩
  · have FIN : Hid (amO d p = ([], n)) := by show amO d p = _; rw [HO.out, if_pos hn]
    rw [FIN.out]
    have hn0 : ¬ n = 0 := hn
    clear hn
    go_enter Tryz.func21, Tryz.ntmps21
    go_wp2_with (go_at_call 41; refine H1.out.mono ?_; rintro r w2 ⟨rfl, hb⟩; have HB := hid hb; clear hb)
    go_ret2
    exact ⟨rfl, HB.out⟩

end Go.Proofs.YtlpengaclkidiaaGreatDoor

/- The program's Aimed (written by yaim.py). -/
namespace Go.Proofs.YtlpengaclkidiaaGreatDoor
open Go.RowKit

set_option maxRecDepth 20000 in
set_option maxHeartbeats 4000000 in
theorem aimed_any (m : List UInt8) (hm : m.length ≤ 1048576) (v : Value) (L : List (List UInt8 × List UInt8 × Int)) (hn : L.length ≤ 1048576) (hp : ∀ x ∈ L, x.1.length ≤ 1048576) (w : World) (h : Incs w v L) :
    Calls Tryz.prog 8 #[.string (mk m), v] w fun r w' => ∃ v', r = .returned (.tuple #[v', .agg #[.int .i64 (adP m L).2.1, .int .i64 (adP m L).2.2]]) ∧ OwnS w' w.heap.size v' (adP m L).1 ∧ Below w.heap.size w w' := by
  have H1 := fun W => psplit_any (mk m) W (by rw [bl_mk]; omega)
  rw [bl_mk] at H1
  have H1 := hid H1
  have HIN := hid h
  have HP := hid hp
  have hdl := spD_len m
  obtain ⟨ao, c, rfl⟩ := h.shape
  have hA : adP m L = if spE m ≠ 0 then ([], spE m, 0) else amL (spD m) L := rfl
  obtain ⟨d, HD⟩ : ∃ d, Hid (spD m = d) := ⟨_, rfl⟩
  obtain ⟨nm, HNM⟩ : ∃ d, Hid (spN m = d) := ⟨_, rfl⟩
  obtain ⟨e, HE⟩ : ∃ d, Hid (spE m = d) := ⟨_, rfl⟩
  rw [HD.out, HNM.out, HE.out] at H1
  rw [HD.out] at hdl
  rw [HD.out, HE.out] at hA
  have HA := hid hA
  have HF0 := hid (hp_new w (.cells #[.int .i64 0, .int .i64 0] 28))
  have HB0 := hid (below_walk w (.cells #[.int .i64 0, .int .i64 0] 28))
  have hsz := hp_size w (.cells #[.int .i64 0, .int .i64 0] 28)
  clear h hp hA
  by_cases he : e = 0
  · subst he
    have HA2 : Hid (adP m L = amL d L) := by show adP m L = _; rw [HA.out, if_neg (by simp)]
    obtain ⟨i0, hi, hz0, hz1, hz2⟩ := info_parts Tryz.infoStr
    go_enter Tryz.func8, Tryz.ntmps8
    go_upto_region 1 with fail
    generalize w.alloc (.cells #[.int .i64 0, .int .i64 0] 28) = w1 at *
    go_upto_region 4 with (go_at_call 20; refine (H1.out _).mono ?_; rintro r w2 ⟨rfl, q, rfl⟩)
    have HB1 : Hid (Below w.heap.size w (w1.drewN q)) := below_drewN HB0.out q
    have HF1 : Hid ((w1.drewN q).heap[w.heap.size]? = some (.cells #[.int .i64 0, .int .i64 0] 28 (0, 0))) := HF0.out
    have hsz1 : (w1.drewN q).heap.size = w.heap.size + 1 := hsz
    generalize w1.drewN q = w2 at *
    go_upto_region 5 with (refine wpList_make_own w2 (by rfl) _ _ 34 (by rfl) (w.heap.size + 1) 9 i0 (.string ⟨#[]⟩) 1 Tryz.underlying34 hi hz0 hz1 .i64 .i64 (L.length : Int) L.length (by rfl) (by rfl) rfl (by rw [hz2]; omega) (by unfold maxLen; omega) (by omega) ?_; intro w3 ho3 hg3)
    have HO3 : Hid (OwnS w3 (w.heap.size + 1) (.slice (some ⟨w2.heap.size, 0, none⟩) 0 L.length) (amT d (L.take 0))) := hid (by rw [List.take_zero]; exact ho3)
    have HB3 := hid (HB1.out.trans ((gb_below hg3).mono HB1.out.size))
    have HF3 := hid (((gb_below hg3).block _ (hp_lt HF1.out)).trans HF1.out)
    clear ho3 hg3 hi hz0 hz1 hz2 HB1 HF1 HB0 HF0
    go_wp2
    go_loopw [9, 29] (fun vl i wr => ∃ k : Nat, i = .int .i64 k ∧ k ≤ L.length ∧ AmOk d L k ∧ OwnS wr (w.heap.size + 1) vl (amT d (L.take k)) ∧ wr.heap[w.heap.size]? = some (.cells #[.int .i64 0, .int .i64 0] 28 (0, 0)) ∧ Below w.heap.size w wr) (fun _ i _ => L.length - (intOf i).toNat)
    case atStart => exact ⟨0, rfl, Nat.zero_le _, fun j hj => by omega, by have h3 := HO3.out; rw [hsz1] at h3; exact h3, HF3.out, HB3.out⟩
    case round =>
      clear HO3 HF3 HB3
      obtain ⟨k, rfl, hk, hok, ho, hf, hb⟩ := hrel
      have HOK := hid hok
      have HO := hid ho
      have HF := hid hf
      have HB := hid hb
      clear hok ho hf hb
      by_cases hlt : k < L.length
      · have q1 : (k : Int) < (L.length : Int) := by omega
        obtain ⟨g1, o1, hs1, _, e0, e1, e2⟩ := (HIN.out.below HB.out).at k hlt
        subst hs1
        have hpx := HP.out (L.getD k noI) (by rw [List.getD_eq_getElem?_getD, List.getElem?_eq_getElem hlt]; exact List.getElem_mem hlt)
        have HBAD := hid (fun h => am_bad hlt HOK.out h)
        have HNX := hid (fun h => HOK.out.succ h)
        have HTX := hid (amT_succ d L k hlt)
        have hle : (amT d (L.take k)).length ≤ 1048576 := by unfold amT; rw [List.length_map, List.length_take]; omega
        obtain ⟨⟨x, y, z⟩, HX⟩ : ∃ t, Hid (L.getD k noI = t) := ⟨_, rfl⟩
        rw [HX.out] at e0 e1 e2 hpx HBAD HNX HTX
        simp only at hpx HBAD HNX HTX
        have HAO := hid (fun W => aimof_any d x W (by omega) hpx)
        obtain ⟨s, HS⟩ : ∃ s, Hid ((amO d x).1 = s) := ⟨_, rfl⟩
        obtain ⟨er, HER⟩ : ∃ s, Hid ((amO d x).2 = s) := ⟨_, rfl⟩
        rw [HS.out] at HTX HAO
        rw [HER.out] at HBAD HNX HAO
        obtain ⟨ts, HTS⟩ : ∃ ts, Hid (amT d (L.take k) = ts) := ⟨_, rfl⟩
        rw [HTS.out] at HTX HO hle
        obtain ⟨sv, svc, hvv⟩ := HO.out.strs.shape
        subst hvv
        have HBW := hid (below_walk wr (.cells #[.string (mk x), .string (mk y), .int .i64 z] 25))
        have HK := hid (hp_new wr (.cells #[.string (mk x), .string (mk y), .int .i64 z] 25))
        by_cases her : er = 0
        · subst her
          go_upto_region 11 with (go_at_call 21; refine (HAO.out _).mono ?_; rintro r w4 ⟨rfl, hb⟩; have HB4 := hid (HBW.out.trans (hb.mono (by rw [hp_size]; omega))); clear hb)
          have HF4 := hid ((HB4.out.block _ (hp_lt HF.out)).trans HF.out)
          have HO4 := hid (HO.out.below HB4.out)
          have HC4 := hid (HB.out.trans (HB4.out.mono HB.out.size))
          go_wp2_with (refine app_text (by rfl) (.tmp 46) (.tmp 48) (by rfl) (w.heap.size + 1) _ ts (by rfl) (HO4.out.below (below_walk _ _)) [s] _ (by rfl) (strs_one w4 s) (by simp; omega) (by rw [hp_size]; have := hp_lt HF4.out; omega) ?_
                       intro v' w5 ho5 hg5 _
                       have HO5 := hid ho5
                       have hlo : ∀ q, (Value.slice sv ts.length svc).ownBlock = some q → w.heap.size + 1 ≤ q := fun q hq => (HO4.out.lt q hq).1
                       have HF5 := hid ((hg5.block _ (by rw [hp_size]; have := hp_lt HF4.out; omega) (fun e => by have := hlo _ e.symm; omega)).trans ((hp_old _ _ _ (hp_lt HF4.out)).trans HF4.out))
                       have HB5 := hid ((HC4.out.alloc HC4.out.size (.cells #[.string (mk s)] 9)).grown hg5 (by rw [hp_size]; have := HC4.out.size; omega) (fun q hq => by have := hlo _ hq; omega))
                       clear ho5 hg5 hlo)
          exact ⟨⟨k + 1, by simp, by omega, HNX.out (by trivial), by rw [← HTX.out]; exact HO5.out, HF5.out, HB5.out⟩, by simp [intOf]; omega⟩
        · have FIN : Hid (adP m L = ([], er, z)) := by show adP m L = _; rw [HA2.out, HBAD.out her]
          have her0 : ¬ er = 0 := her
          go_upto_region 10 with (go_at_call 21; refine (HAO.out _).mono ?_; rintro r w4 ⟨rfl, hb⟩; have HB4 := hid (HBW.out.trans (hb.mono (by rw [hp_size]; omega))); have HK4 := hid ((hb.block _ (hp_lt HK.out)).trans HK.out); clear hb)
          have HF4 := hid ((HB4.out.block _ (hp_lt HF.out)).trans HF.out)
          have HC4 := hid (HB.out.trans (HB4.out.mono HB.out.size))
          obtain ⟨gk, HGK⟩ : ∃ g, Hid (wr.heap.size = g) := ⟨_, rfl⟩
          rw [HGK.out] at HK4
          rw [HGK.out]
          have hne : w.heap.size ≠ gk := by have := hp_lt HF.out; have := HGK.out; omega
          refine wp_noPanic (wp_region_held_drew (S := fun W => W.heap[gk]? = some (.cells #[.string (mk x), .string (mk y), .int .i64 z] 25 (0, 0))) (by kernel_rfl) (by exact HK4.out) ?_)
          intro hHeld
          refine wpAnyH_take (i := 0) (v := .int .i64 er) rfl (by kernel_rfl) (by kernel_rfl) (by kernel_rfl) (fun _ _ _ h => h) (Or.inl ⟨by rfl, fun W _ => by go_simp⟩) hHeld ?_
          simp only [Act.put, List.getElem_toArray, List.getElem_cons_zero, List.setIfInBounds_toArray, List.set_cons_succ, List.set_cons_zero]
          refine wpAnyH_take (i := 1) (v := .pointer (some ⟨gk, 2, none⟩)) rfl (by kernel_rfl) (by kernel_rfl) (by kernel_rfl) (fun _ _ _ h => h) (Or.inl ⟨by rfl, fun W _ => by go_simp⟩) hHeld ?_
          simp only [Act.put, List.getElem_toArray, List.getElem_cons_zero, List.getElem_cons_succ, List.setIfInBounds_toArray, List.set_cons_succ, List.set_cons_zero]
          refine wpAnyH_take (i := 2) (v := .int .i64 z) rfl (by kernel_rfl) (by kernel_rfl) (by kernel_rfl) (fun _ _ _ h => h) (Or.inl ⟨by rfl, fun W hW => by have hcell := (show W.cell? ⟨gk, 2, none⟩ = some (.int .i64 z) by rw [cell_of_row _ _ _ _ _ _ hW]; rfl); clear hW; go_simp⟩) hHeld ?_
          simp only [Act.put, List.getElem_toArray, List.getElem_cons_zero, List.getElem_cons_succ, List.setIfInBounds_toArray, List.set_cons_succ, List.set_cons_zero]
          refine wpAnyH_take (i := 3) (v := .agg #[.int .i64 er, .int .i64 z]) rfl (by kernel_rfl) (by kernel_rfl) (by kernel_rfl) (fun _ _ _ h => h) (Or.inl ⟨by rfl, fun W _ => by go_simp⟩) hHeld ?_
          simp only [Act.put, List.getElem_toArray, List.getElem_cons_zero, List.getElem_cons_succ, List.setIfInBounds_toArray, List.set_cons_succ, List.set_cons_zero]
          refine wpAnyH_take (i := 4) (v := .slice none 0 0) rfl (by kernel_rfl) (by kernel_rfl) (by kernel_rfl) (fun _ _ _ h => h) (Or.inl ⟨by rfl, fun W _ => by go_simp⟩) hHeld ?_
          simp only [Act.put, List.getElem_toArray, List.getElem_cons_zero, List.getElem_cons_succ, List.setIfInBounds_toArray, List.set_cons_succ, List.set_cons_zero]
          refine wpAnyH_ready (rs := [5]) (by kernel_rfl) (by simp) ?_
          refine AllReadyH.cons rfl (fun K hK => ?_) AllReadyH.nil
          refine step_store_row (by rfl) 28 (.tmp 5) (.tmp 45) (by rfl) w.heap.size [.int .i64 er, .int .i64 z] (by rfl) (by rfl) 28 _ (by exact HF4.out) (by kernel_rfl) (by rfl) (by intro v hv; simp at hv; rcases hv with rfl | rfl <;> rfl) ?_
          intro w5 hs5
          have HS5 := hid hs5.blk
          have HB5 := hid ((HC4.out.drew).grown hs5.grown HC4.out.size (fun q hq => by injection hq with hq; omega))
          refine hK.out _ _ ((hs5.grown.block gk (hp_lt HK4.out) (by simpa using hne.symm)).trans HK4.out) (fun hHeld => ?_)
          clear hK K hs5
          try simp only [Act.put]
          refine wpAnyH_done (by kernel_rfl) ?_ _
          simp only [noPanic]
          clear hHeld
          go_wp2_with fail
          refine ret_tc 4 5 28 rfl _ rfl w.heap.size rfl [.int .i64 er, .int .i64 z] 28 HS5.out _ Tryz.underlying28 rfl (by kernel_rfl) rfl ?_
          rw [FIN.out]
          exact ⟨_, rfl, OwnS.nil _ _, HB5.out⟩
      · have q1 : ¬ (k : Int) < (L.length : Int) := by omega
        obtain rfl : k = L.length := by omega
        have FIN : Hid (adP m L = (amT d L, 0, 0)) := by show adP m L = _; rw [HA2.out, am_all HOK.out]
        rw [List.take_length] at HO
        obtain ⟨sa, sc, hv⟩ := HO.out.strs.shape
        obtain ⟨N, HN⟩ : ∃ n, Hid ((amT d L).length = n) := ⟨_, rfl⟩
        rw [HN.out] at hv
        subst hv
        go_wp2_with (refine st_row (by rfl) 28 (.tmp 5) (.tmp 52) (by rfl) w.heap.size [.int .i64 0, .int .i64 0] (by rfl) (by rfl) 28 _ HF.out (by kernel_rfl) (by rfl) (by intro v hv; simp at hv; rw [hv]; rfl) ?_; intro w5 hw5)
        refine ret_tc 4 5 28 rfl _ rfl w.heap.size rfl [.int .i64 0, .int .i64 0] 28 hw5.blk _ Tryz.underlying28 rfl (by kernel_rfl) rfl ?_
        rw [FIN.out]
        exact ⟨_, rfl, (HO.out.kept hw5.grown (Or.inr (fun e => by have := (HO.out.lt _ e).1; omega))).le (by omega), HB.out.grown hw5.grown HB.out.size (fun q hq => by injection hq with hq; omega)⟩
  · have FIN : Hid (adP m L = ([], e, 0)) := by show adP m L = _; rw [HA.out, if_pos he]
    have he0 : ¬ e = 0 := he
    rw [FIN.out]
    go_enter Tryz.func8, Tryz.ntmps8
    go_upto_region 1 with fail
    generalize w.alloc (.cells #[.int .i64 0, .int .i64 0] 28) = w1 at *
    go_wp2_with first
      | (go_at_call 20; refine (H1.out _).mono ?_; rintro r w2 ⟨rfl, q, rfl⟩)
      | (refine st_row (by rfl) 28 (.tmp 5) (.tmp 23) (by rfl) w.heap.size [.int .i64 e, .int .i64 0] (by rfl) (by rfl) 28 _ (by exact HF0.out) (by kernel_rfl) (by rfl) (by intro v hv; simp at hv; rcases hv with rfl | rfl <;> rfl) ?_; intro w5 hw5)
    refine ret_tc 4 5 28 rfl _ rfl w.heap.size rfl [.int .i64 e, .int .i64 0] 28 hw5.blk _ Tryz.underlying28 rfl (by kernel_rfl) rfl ?_
    exact ⟨_, rfl, OwnS.nil _ _, (below_drewN HB0.out q).grown hw5.grown (by have := HB0.out.size; exact this) (fun q hq => by injection hq with hq; omega)⟩

end Go.Proofs.YtlpengaclkidiaaGreatDoor

/- The document's Aimed, and ScanAims. -/
namespace Go.Proofs.YtlpengaclkidiaaGreatDoor
open Go.RowKit

set_option maxRecDepth 20000 in
set_option maxHeartbeats 4000000 in
theorem raimed_any (m : List UInt8) (hm : m.length ≤ 1048576) (v : Value) (L : List (List UInt8 × List UInt8 × Int)) (hn : L.length ≤ 1048576) (hp : ∀ x ∈ L, x.1.length ≤ 1048576) (w : World) (h : Incs w v L) :
    Calls Tryz.prog 11 #[.string (mk m), v] w fun r w' => ∃ v', r = .returned (.tuple #[v', .int .i64 (adP m L).2.1, .int .i64 (adP m L).2.2]) ∧ OwnS w' w.heap.size v' (adP m L).1 ∧ Below w.heap.size w w' := by
  have H1 := fun W => rsplit_any (mk m) W (by rw [bl_mk]; omega)
  rw [bl_mk] at H1
  have H1 := hid H1
  have HIN := hid h
  have HP := hid hp
  have hdl := spD_len m
  obtain ⟨ao, c, rfl⟩ := h.shape
  have hA : adP m L = if spE m ≠ 0 then ([], spE m, 0) else amL (spD m) L := rfl
  obtain ⟨d, HD⟩ : ∃ d, Hid (spD m = d) := ⟨_, rfl⟩
  obtain ⟨nm, HNM⟩ : ∃ d, Hid (spN m = d) := ⟨_, rfl⟩
  obtain ⟨e, HE⟩ : ∃ d, Hid (spE m = d) := ⟨_, rfl⟩
  rw [HD.out, HNM.out, HE.out] at H1
  rw [HD.out] at hdl
  rw [HD.out, HE.out] at hA
  have HA := hid hA
  clear h hp hA
  by_cases he : e = 0
  · subst he
    have HA2 : Hid (adP m L = amL d L) := by show adP m L = _; rw [HA.out, if_neg (by simp)]
    go_enter Tryz.func11, Tryz.ntmps11
    go_wp2_with (go_at_call 29; refine (H1.out _).mono ?_; rintro r w2 ⟨rfl, hb⟩; have HB1 := hid hb; clear hb)
    go_loopw [10, 11] (fun vl i wr => ∃ k : Nat, i = .int .i64 k ∧ k ≤ L.length ∧ AmOk d L k ∧ OwnS wr w.heap.size vl (amT d (L.take k)) ∧ Below w.heap.size w wr) (fun _ i _ => L.length - (intOf i).toNat)
    case atStart => exact ⟨0, rfl, Nat.zero_le _, fun j hj => by omega, by rw [List.take_zero]; exact OwnS.nil _ _, HB1.out⟩
    case round =>
      clear HB1
      obtain ⟨k, rfl, hk, hok, ho, hb⟩ := hrel
      have HOK := hid hok
      have HO := hid ho
      have HB := hid hb
      clear hok ho hb
      by_cases hlt : k < L.length
      · have q1 : (k : Int) < (L.length : Int) := by omega
        obtain ⟨g1, o1, hs1, _, e0, e1, e2⟩ := (HIN.out.below HB.out).at k hlt
        subst hs1
        have hpx := HP.out (L.getD k noI) (by rw [List.getD_eq_getElem?_getD, List.getElem?_eq_getElem hlt]; exact List.getElem_mem hlt)
        have HBAD := hid (fun h => am_bad hlt HOK.out h)
        have HNX := hid (fun h => HOK.out.succ h)
        have HTX := hid (amT_succ d L k hlt)
        have hle : (amT d (L.take k)).length ≤ 1048576 := by unfold amT; rw [List.length_map, List.length_take]; omega
        obtain ⟨⟨x, y, z⟩, HX⟩ : ∃ t, Hid (L.getD k noI = t) := ⟨_, rfl⟩
        rw [HX.out] at e0 e1 e2 hpx HBAD HNX HTX
        simp only at hpx HBAD HNX HTX
        have H2 := raim_any (mk d) (mk x) wr (by rw [bl_mk]; omega) (by rw [bl_mk]; omega)
        rw [bl_mk, bl_mk] at H2
        have H2 := hid H2
        have HO1 := hid (show amO d x = if aN (aimP d x) ≠ 0 then ([], aN (aimP d x)) else if aS (aimP d x) = [] then ([], 46) else (aS (aimP d x), 0) from rfl)
        obtain ⟨n, HN⟩ : ∃ n, Hid (aN (aimP d x) = n) := ⟨_, rfl⟩
        obtain ⟨s, HS⟩ : ∃ s, Hid (aS (aimP d x) = s) := ⟨_, rfl⟩
        rw [HN.out, HS.out] at H2 HO1
        obtain ⟨ts, HTS⟩ : ∃ ts, Hid (amT d (L.take k) = ts) := ⟨_, rfl⟩
        rw [HTS.out] at HTX HO hle
        obtain ⟨sv, svc, hvv⟩ := HO.out.strs.shape
        subst hvv
        by_cases hn0 : n = 0
        · subst hn0
          by_cases hs : s = []
          · have f1 : ((mk s).toList == []) = true := by rw [tl_mk, hs]; rfl
            have f2 : (mk s).toList.isEmpty = true := by rw [tl_mk, hs]; rfl
            have hO2 : amO d x = ([], 46) := by rw [HO1.out, if_neg (by simp), if_pos hs]
            have FIN : Hid (adP m L = ([], 46, z)) := by
              show adP m L = _
              have := HBAD.out (by rw [hO2]; simp)
              rw [hO2] at this
              rw [HA2.out, this]
            clear hs hO2
            go_upto_region 12 with (go_at_call 30; refine H2.out.mono ?_; rintro r w4 ⟨rfl, hb⟩; have HB4 := hid hb; have u2 := (hb.cell (p := ⟨g1, o1 + k * 3 + 2, none⟩) (by exact World.block_lt_of_cell? wr _ e2)).trans e2; clear hb)
            go_quiet (fail)
            go_wp2
            go_ret3
            rw [FIN.out]
            exact ⟨_, rfl, OwnS.nil _ _, below_drewN (HB.out.trans (HB4.out.mono HB.out.size)) _⟩
          · have f1 : ((mk s).toList == []) = false := by rw [tl_mk, beq_eq_false_iff_ne]; exact hs
            have f2 : (mk s).toList.isEmpty = false := by rw [tl_mk]; cases s with | nil => exact absurd rfl hs | cons _ _ => rfl
            have hO2 : amO d x = (s, 0) := by rw [HO1.out, if_neg (by simp), if_neg hs]
            have HNX2 := hid (HNX.out (by rw [hO2]))
            rw [hO2] at HTX
            simp only at HTX
            clear hs hO2
            go_wp2_with first
              | (go_at_call 30; refine H2.out.mono ?_; rintro r w4 ⟨rfl, hb⟩; have HB4 := hid hb; have HO4 := hid (HO.out.below hb); have HC4 := hid (HB.out.trans (hb.mono HB.out.size)); clear hb)
              | (refine app_text (by rfl) (.tmp 53) (.tmp 55) (by rfl) w.heap.size _ ts (by rfl) (HO4.out.below (below_walk _ _)) [s] _ (by rfl) (strs_one w4 s) (by simp; omega) (by rw [hp_size]; have := HC4.out.size; omega) ?_
                 intro v' w5 ho5 hg5 _
                 have HO5 := hid ho5
                 have HB5 := hid ((HC4.out.alloc HC4.out.size (.cells #[.string (mk s)] 9)).grown hg5 (by rw [hp_size]; have := HC4.out.size; omega) (fun q hq => (HO4.out.lt q hq).1))
                 clear ho5 hg5)
            exact ⟨⟨k + 1, by simp, by omega, HNX2.out, by rw [← HTX.out]; exact HO5.out, HB5.out⟩, by simp [intOf]; omega⟩
        · have hO2 : amO d x = ([], n) := by rw [HO1.out, if_pos hn0]
          have FIN : Hid (adP m L = ([], n, z)) := by
            show adP m L = _
            have := HBAD.out (by rw [hO2]; exact hn0)
            rw [hO2] at this
            rw [HA2.out, this]
          have hn1 : ¬ n = 0 := hn0
          have hn2 : (n == 0) = false := by rw [beq_eq_false_iff_ne]; exact hn0
          clear hO2
          go_upto_region 12 with (go_at_call 30; refine H2.out.mono ?_; rintro r w4 ⟨rfl, hb⟩; have HB4 := hid hb; have u2 := (hb.cell (p := ⟨g1, o1 + k * 3 + 2, none⟩) (by exact World.block_lt_of_cell? wr _ e2)).trans e2; clear hb)
          go_quiet (fail)
          go_wp2
          go_ret3
          rw [FIN.out]
          exact ⟨_, rfl, OwnS.nil _ _, below_drewN (HB.out.trans (HB4.out.mono HB.out.size)) _⟩
      · have q1 : ¬ (k : Int) < (L.length : Int) := by omega
        obtain rfl : k = L.length := by omega
        have FIN : Hid (adP m L = (amT d L, 0, 0)) := by show adP m L = _; rw [HA2.out, am_all HOK.out]
        rw [List.take_length] at HO
        obtain ⟨sa, sc, hv⟩ := HO.out.strs.shape
        obtain ⟨N, HN⟩ : ∃ n, Hid ((amT d L).length = n) := ⟨_, rfl⟩
        rw [HN.out] at hv
        subst hv
        go_wp2
        go_ret3
        rw [FIN.out]
        exact ⟨_, rfl, HO.out, HB.out⟩
  · have FIN : Hid (adP m L = ([], e, 0)) := by show adP m L = _; rw [HA.out, if_pos he]
    have he0 : ¬ e = 0 := he
    rw [FIN.out]
    go_enter Tryz.func11, Tryz.ntmps11
    go_wp2_with (go_at_call 29; refine (H1.out _).mono ?_; rintro r w2 ⟨rfl, hb⟩; have HB1 := hid hb; clear hb)
    go_ret3
    exact ⟨_, rfl, OwnS.nil _ _, HB1.out⟩

theorem ad_len (m : List UInt8) (L : List (List UInt8 × List UInt8 × Int)) : (adP m L).1.length ≤ L.length := by
  have key : ∀ d L, (amL d L).1.length ≤ L.length := by
    intro d L
    induction L with
    | nil => exact Nat.le_refl _
    | cons x r ih =>
      unfold amL
      split
      · exact Nat.zero_le _
      · split
        · exact Nat.zero_le _
        · simp only [List.length_cons]; omega
  unfold adP
  split
  · exact Nat.zero_le _
  · exact key _ _

end Go.Proofs.YtlpengaclkidiaaGreatDoor

/- The document's signs, halves. -/
namespace Go.Proofs.YtlpengaclkidiaaGreatDoor
open Go.RowKit

theorem hp_new2 (w : World) (o p : Obj) : ((w.alloc o).alloc p).heap[w.heap.size + 1]? = some p := by
  have := hp_new (w.alloc o) p
  rwa [hp_size] at this
theorem sg2_cells : (strV sg2).toArray = #[.string ⟨#[61, 61]⟩, .string ⟨#[33, 61]⟩, .string ⟨#[60, 61]⟩, .string ⟨#[62, 61]⟩, .string ⟨#[43, 43]⟩, .string ⟨#[38, 38]⟩, .string ⟨#[124, 124]⟩] := rfl
theorem sg1_cells : (strV sg1).toArray = #[.string ⟨#[40]⟩, .string ⟨#[41]⟩, .string ⟨#[123]⟩, .string ⟨#[125]⟩, .string ⟨#[44]⟩, .string ⟨#[59]⟩, .string ⟨#[58]⟩, .string ⟨#[46]⟩, .string ⟨#[61]⟩, .string ⟨#[60]⟩, .string ⟨#[62]⟩, .string ⟨#[43]⟩, .string ⟨#[45]⟩, .string ⟨#[42]⟩, .string ⟨#[47]⟩, .string ⟨#[37]⟩, .string ⟨#[33]⟩, .string ⟨#[35]⟩] := rfl

set_option maxHeartbeats 2000000 in
theorem rsign_any (l : List UInt8) (a : Nat) (ha : a < l.length) (hl : l.length ≤ 140737488355328) (w : World) :
    Calls Tryz.prog 89 #[.string (mk l), .int .i64 (a : Nat)] w fun e w' => e = .returned (.int .i64 (sgP (l.drop a) : Nat)) ∧ Below w.heap.size w w' := by
  have hsz := mk_size l
  have s1 := sl_mid l a (a + 1) (by omega) ha
  rw [show a + 1 - a = 1 by omega, show ((a + 1 : Nat) : Int) = (a : Int) + 1 by omega] at s1
  have H2 : Hid (∀ w g, w.heap[g]? = some (.cells (strV sg2).toArray 9 (0, 0)) → Calls Tryz.prog 90 #[.slice (some ⟨g, 0, none⟩) 7 7, .string (mk ((l.drop a).take 2))] w fun e w' => e = .returned (.bool (amP sg2 ((l.drop a).take 2))) ∧ w' = w) := fun w g hg => among_any sg2 _ g (by decide) w hg
  have H1 : Hid (∀ w g, w.heap[g]? = some (.cells (strV sg1).toArray 9 (0, 0)) → Calls Tryz.prog 90 #[.slice (some ⟨g, 0, none⟩) 18 18, .string (mk ((l.drop a).take 1))] w fun e w' => e = .returned (.bool (amP sg1 ((l.drop a).take 1))) ∧ w' = w) := fun w g hg => among_any sg1 _ g (by decide) w hg
  rw [sg1_cells] at H1
  rw [sg2_cells] at H2
  by_cases h2 : (l.drop a).take 2 ∈ sg2
  · have hlen := sg2_len h2
    rw [List.length_take, List.length_drop] at hlen
    have HR : Hid (sgP (l.drop a) = 2) := by show sgP _ = _; unfold sgP; rw [if_pos h2]
    rw [show amP sg2 ((l.drop a).take 2) = true from decide_eq_true h2] at H2
    have s2 := sl_mid l a (a + 2) (by omega) (by omega)
    rw [show a + 2 - a = 2 by omega, show ((a + 2 : Nat) : Int) = (a : Int) + 2 by omega] at s2
    have q1 : (a : Int) + 2 ≤ (l.length : Int) := by omega
    clear h2 hlen
    go_enter Tryz.func89, Tryz.ntmps89
    go_wp2_with (go_at_call 90; with_reducible refine (H2.out _ _ (hp_new _ _)).mono ?_; rintro e w' ⟨rfl, rfl⟩)
    go_ret
    exact ⟨ret_i (by rw [HR.out]; rfl), below_walk _ _⟩
  · rw [show amP sg2 ((l.drop a).take 2) = false from decide_eq_false h2] at H2
    by_cases h1 : (l.drop a).take 1 ∈ sg1
    · have HR : Hid (sgP (l.drop a) = 1) := by show sgP _ = _; unfold sgP; rw [if_neg h2, if_pos h1]
      rw [show amP sg1 ((l.drop a).take 1) = true from decide_eq_true h1] at H1
      clear h1 h2
      by_cases hl2 : a + 2 ≤ l.length
      · have q1 : (a : Int) + 2 ≤ (l.length : Int) := by omega
        have s2 := sl_mid l a (a + 2) (by omega) (by omega)
        rw [show a + 2 - a = 2 by omega, show ((a + 2 : Nat) : Int) = (a : Int) + 2 by omega] at s2
        go_enter Tryz.func89, Tryz.ntmps89
        go_wp2_with first
          | (go_at_call 90; with_reducible refine (H2.out _ _ (hp_new _ _)).mono ?_; clear H2; rintro e w' ⟨rfl, rfl⟩)
          | (go_at_call 90; with_reducible refine (H1.out _ _ (hp_new2 _ _ _)).mono ?_; rintro e w' ⟨rfl, rfl⟩)
        go_ret
        exact ⟨ret_i (by rw [HR.out]; rfl), below_walk2 _ _ _⟩
      · have q1 : ¬ (a : Int) + 2 ≤ (l.length : Int) := by omega
        go_enter Tryz.func89, Tryz.ntmps89
        go_wp2_with (go_at_call 90; with_reducible refine (H1.out _ _ (hp_new _ _)).mono ?_; rintro e w' ⟨rfl, rfl⟩)
        go_ret
        exact ⟨ret_i (by rw [HR.out]; rfl), below_walk _ _⟩
    · have HR : Hid (sgP (l.drop a) = 0) := by show sgP _ = _; unfold sgP; rw [if_neg h2, if_neg h1]
      rw [show amP sg1 ((l.drop a).take 1) = false from decide_eq_false h1] at H1
      clear h1 h2
      by_cases hl2 : a + 2 ≤ l.length
      · have q1 : (a : Int) + 2 ≤ (l.length : Int) := by omega
        have s2 := sl_mid l a (a + 2) (by omega) (by omega)
        rw [show a + 2 - a = 2 by omega, show ((a + 2 : Nat) : Int) = (a : Int) + 2 by omega] at s2
        go_enter Tryz.func89, Tryz.ntmps89
        go_wp2_with first
          | (go_at_call 90; with_reducible refine (H2.out _ _ (hp_new _ _)).mono ?_; clear H2; rintro e w' ⟨rfl, rfl⟩)
          | (go_at_call 90; with_reducible refine (H1.out _ _ (hp_new2 _ _ _)).mono ?_; rintro e w' ⟨rfl, rfl⟩)
        go_ret
        exact ⟨ret_i (by rw [HR.out]; rfl), below_walk2 _ _ _⟩
      · have q1 : ¬ (a : Int) + 2 ≤ (l.length : Int) := by omega
        go_enter Tryz.func89, Tryz.ntmps89
        go_wp2_with (go_at_call 90; with_reducible refine (H1.out _ _ (hp_new _ _)).mono ?_; rintro e w' ⟨rfl, rfl⟩)
        go_ret
        exact ⟨ret_i (by rw [HR.out]; rfl), below_walk _ _⟩

end Go.Proofs.YtlpengaclkidiaaGreatDoor

/- The document's token: what it answers; the end, texts, signs. -/
namespace Go.Proofs.YtlpengaclkidiaaGreatDoor
open Go.RowKit

/-- what the document's token answers -/
def rtP (l : List UInt8) (a : Nat) : (Nat × Nat × Nat) × Int :=
  if (tokP (l.drop a)).2.2 ≠ 0 then ((0, a, 0), (tokP (l.drop a)).2.2) else (((tokP (l.drop a)).1, a, a + (tokP (l.drop a)).2.1), 0)
theorem rt_ok {l : List UInt8} {a k n : Nat} (h : tokP (l.drop a) = (k, n, 0)) : rtP l a = ((k, a, a + n), 0) := by unfold rtP; rw [h, if_neg (by simp)]
theorem rt_bad {l : List UInt8} {a k n : Nat} {e : Int} (h : tokP (l.drop a) = (k, n, e)) (he : e ≠ 0) : rtP l a = ((0, a, 0), e) := by unfold rtP; rw [h, if_pos he]
def RtPost (l : List UInt8) (a : Nat) (w : World) (e : Ending) (w' : World) : Prop := e = .returned (.tuple #[.agg (tkC (rtP l a).1).toArray, .int .i64 (rtP l a).2]) ∧ Below w.heap.size w w'

set_option maxRecDepth 20000 in
set_option maxHeartbeats 2000000 in
theorem rtok_end (l : List UInt8) (a : Nat) (ha : a = l.length) (w : World) :
    Calls Tryz.prog 60 #[.string (mk l), .int .i64 (a : Nat)] w (RtPost l a w) := by
  have hsz := mk_size l
  obtain ⟨d, hu, hd⟩ := Tryz.rowTok
  have HR := hid (rt_ok (l := l) (a := a) (k := 0) (n := 0) (by rw [List.drop_eq_nil_of_le (by omega)]; rfl))
  subst ha
  unfold RtPost
  go_enter Tryz.func60, Tryz.ntmps60
  go_wp2_with (refine st_row (by rfl) 76 (.tmp 4) (.tmp 19) (by rfl) _ (tkC (0, l.length, l.length)) (by rfl) (by simp [Act.eval, tkC]) 76 _ (by exact hp_new _ _) (by exact Tryz.infoTok) (by rfl) (tkC_one _) ?_; intro w5 hw5)
  refine ret_row2 4 5 76 rfl _ rfl _ _ hw5.blk d hu hd Tryz.infoTok _ rfl rfl ⟨?_, below_rs hw5 (below_walk _ _) (Nat.le_refl _)⟩
  rw [HR.out]
  rfl

set_option maxRecDepth 20000 in
set_option maxHeartbeats 4000000 in
theorem rtok_text (l : List UInt8) (a : Nat) (ha : a < l.length) (hl : l.length ≤ 65536) (h1 : ltB (l.getD a 0) = false) (h2 : dgB (l.getD a 0) = false) (h3 : l.getD a 0 = 34) (w : World) :
    Calls Tryz.prog 60 #[.string (mk l), .int .i64 (a : Nat)] w (RtPost l a w) := by
  have hsz := mk_size l
  obtain ⟨d, hu, hd⟩ := Tryz.rowTok
  have hdl : (l.drop a).length = l.length - a := List.length_drop
  have hd0 := drop_getD l a 0
  rw [Nat.add_zero] at hd0
  have q1 : ¬ (a : Int) = (l.length : Int) := by omega
  have q9 : ((a : Int) == (l.length : Int)) = false := by simpa using q1
  have i0 := at_mk l a ha
  have H1 := hid (rletter_any ((l.getD a 0).toNat : Nat))
  have H2 := hid (rdigit_any ((l.getD a 0).toNat : Nat))
  obtain ⟨z, HZ⟩ : ∃ z : UInt8, Hid (l.getD a 0 = z) := ⟨_, rfl⟩
  rw [HZ.out] at i0 hd0 H1 H2
  rw [HZ.out] at h1 h2 h3
  subst h3
  have i0 : ∀ W, (Instr.index 9 (.string (mk l)) (.int .i64 (a : Int))).run Tryz.prog W = .ok (.int .u8 34) W := i0
  rw [show ltI ((UInt8.toNat 34 : Nat) : Int) = false from by decide] at H1
  rw [show dgI ((UInt8.toNat 34 : Nat) : Int) = false from by decide] at H2
  have HK : tokP (l.drop a) = tqP (l.drop a) := by unfold tokP; rw [if_neg (by omega), hd0, if_neg (by decide), if_neg (by decide), if_pos rfl]
  have H3 := hid (quoted_any l a ha (by omega))
  have hdd : (l.drop a).drop 1 = l.drop (a + 1) := by rw [List.drop_drop]
  unfold RtPost
  unfold tqP at HK
  rw [hdd] at HK
  cases htx : txP (l.drop (a + 1)) with
  | none =>
    rw [htx] at HK
    have HR := hid (rt_bad HK (by decide))
    have HQ : quV l a = .tuple #[.string ⟨#[]⟩, .int .i64 (-1)] := by unfold quV; rw [htx]
    rw [HQ] at H3
    clear HK htx HQ hdd h1 h2 hd0 hdl
    go_enter Tryz.func60, Tryz.ntmps60
    go_wp2_with first
      | (go_at_call 86; refine (H1.out _).mono ?_; rintro e w' ⟨rfl, rfl⟩)
      | (go_at_call 87; refine (H2.out _).mono ?_; rintro e w' ⟨rfl, rfl⟩)
      | (go_at_call 38; refine (H3.out _).mono ?_; rintro e w4 ⟨rfl, hb4⟩)
      | (refine st_row (by rfl) 76 (.tmp 4) (.tmp 116) (by rfl) _ (tkC (0, a, 0)) (by rfl) (by simp [Act.eval, tkC]) 76 _ (by exact (by rw [hb4.block _ (by rw [hp_size]; omega)]; exact hp_new _ _ : w4.heap[w.heap.size]? = some (.cells #[.int .i64 0, .int .i64 0, .int .i64 0] 76 (0, 0)))) (by exact Tryz.infoTok) (by rfl) (tkC_one _) ?_; intro w5 hw5)
    refine ret_row2 4 5 76 rfl _ rfl _ _ hw5.blk d hu hd Tryz.infoTok _ rfl rfl ⟨?_, below_rs hw5 ((below_walk _ _).trans (hb4.mono (by rw [hp_size]; omega))) (Nat.le_refl _)⟩
    rw [HR.out]
    rfl
  | some r =>
    rw [htx] at HK
    simp only at HK
    have hle := txP_le (v := r.1) (m := r.2) htx
    rw [List.length_drop] at hle
    by_cases h4 : r.1.length ≤ 4096
    · rw [if_pos h4] at HK
      have HR := hid (rt_ok HK)
      have HQ : quV l a = .tuple #[.string (mk r.1), .int .i64 ((a + 1 + r.2 : Nat) : Int)] := by unfold quV; rw [htx]; simp only; rw [if_neg (by omega)]
      rw [HQ] at H3
      obtain ⟨m, HM⟩ : ∃ m, Hid (a + 1 + r.2 = m) := ⟨_, rfl⟩
      rw [HM.out] at H3
      rw [show a + (r.2 + 1) = m by have := HM.out; omega] at HR
      clear HK htx HQ hdd h1 h2 hd0 hdl hle h4
      go_enter Tryz.func60, Tryz.ntmps60
      go_wp2_with first
        | (go_at_call 86; refine (H1.out _).mono ?_; rintro e w' ⟨rfl, rfl⟩)
        | (go_at_call 87; refine (H2.out _).mono ?_; rintro e w' ⟨rfl, rfl⟩)
        | (go_at_call 38; refine (H3.out _).mono ?_; rintro e w4 ⟨rfl, hb4⟩)
        | (refine st_row (by rfl) 76 (.tmp 4) (.tmp 119) (by rfl) _ (tkC (3, a, m)) (by rfl) (by simp [Act.eval, tkC]) 76 _ (by exact (by rw [hb4.block _ (by rw [hp_size]; omega)]; exact hp_new _ _ : w4.heap[w.heap.size]? = some (.cells #[.int .i64 0, .int .i64 0, .int .i64 0] 76 (0, 0)))) (by exact Tryz.infoTok) (by rfl) (tkC_one _) ?_; intro w5 hw5)
      refine ret_row2 4 5 76 rfl _ rfl _ _ hw5.blk d hu hd Tryz.infoTok _ rfl rfl ⟨?_, below_rs hw5 ((below_walk _ _).trans (hb4.mono (by rw [hp_size]; omega))) (Nat.le_refl _)⟩
      rw [HR.out]
      rfl
    · rw [if_neg h4] at HK
      have HR := hid (rt_bad HK (by decide))
      have HQ : quV l a = .tuple #[.string ⟨#[]⟩, .int .i64 (-1)] := by unfold quV; rw [htx]; simp only; rw [if_pos (by omega)]
      rw [HQ] at H3
      clear HK htx HQ hdd h1 h2 hd0 hdl hle h4
      go_enter Tryz.func60, Tryz.ntmps60
      go_wp2_with first
        | (go_at_call 86; refine (H1.out _).mono ?_; rintro e w' ⟨rfl, rfl⟩)
        | (go_at_call 87; refine (H2.out _).mono ?_; rintro e w' ⟨rfl, rfl⟩)
        | (go_at_call 38; refine (H3.out _).mono ?_; rintro e w4 ⟨rfl, hb4⟩)
        | (refine st_row (by rfl) 76 (.tmp 4) (.tmp 116) (by rfl) _ (tkC (0, a, 0)) (by rfl) (by simp [Act.eval, tkC]) 76 _ (by exact (by rw [hb4.block _ (by rw [hp_size]; omega)]; exact hp_new _ _ : w4.heap[w.heap.size]? = some (.cells #[.int .i64 0, .int .i64 0, .int .i64 0] 76 (0, 0)))) (by exact Tryz.infoTok) (by rfl) (tkC_one _) ?_; intro w5 hw5)
      refine ret_row2 4 5 76 rfl _ rfl _ _ hw5.blk d hu hd Tryz.infoTok _ rfl rfl ⟨?_, below_rs hw5 ((below_walk _ _).trans (hb4.mono (by rw [hp_size]; omega))) (Nat.le_refl _)⟩
      rw [HR.out]
      rfl

set_option maxRecDepth 20000 in
set_option maxHeartbeats 4000000 in
theorem rtok_sign (l : List UInt8) (a : Nat) (ha : a < l.length) (hl : l.length ≤ 65536) (h1 : ltB (l.getD a 0) = false) (h2 : dgB (l.getD a 0) = false) (h3 : ¬ l.getD a 0 = 34) (w : World) :
    Calls Tryz.prog 60 #[.string (mk l), .int .i64 (a : Nat)] w (RtPost l a w) := by
  have hsz := mk_size l
  obtain ⟨d, hu, hd⟩ := Tryz.rowTok
  have hdl : (l.drop a).length = l.length - a := List.length_drop
  have hd0 := drop_getD l a 0
  rw [Nat.add_zero] at hd0
  have q1 : ¬ (a : Int) = (l.length : Int) := by omega
  have q9 : ((a : Int) == (l.length : Int)) = false := by simpa using q1
  have i0 := at_mk l a ha
  have H1 := hid (rletter_any ((l.getD a 0).toNat : Nat))
  have H2 := hid (rdigit_any ((l.getD a 0).toNat : Nat))
  obtain ⟨z, HZ⟩ : ∃ z : UInt8, Hid (l.getD a 0 = z) := ⟨_, rfl⟩
  rw [HZ.out] at i0 hd0 H1 H2
  rw [HZ.out] at h1 h2 h3
  rw [show ltI (z.toNat : Nat) = false from h1] at H1
  rw [show dgI (z.toNat : Nat) = false from h2] at H2
  have HK : tokP (l.drop a) = sqP (l.drop a) := by unfold tokP; rw [if_neg (by omega), hd0, if_neg (by rw [h1]; decide), if_neg (by rw [h2]; decide), if_neg h3]
  have H3 := hid (rsign_any l a ha (by omega))
  have n4 : ¬ (z.toNat : Int) = 34 := fun e => h3 ((u8_eq (n := 34) (by omega)).1 e)
  unfold RtPost
  unfold sqP at HK
  have hsl := sgP_len (l.drop a)
  obtain ⟨n, HN⟩ : ∃ n, Hid (sgP (l.drop a) = n) := ⟨_, rfl⟩
  rw [HN.out] at H3 HK hsl
  by_cases hn : n = 0
  · rw [if_pos hn] at HK
    subst hn
    have HR := hid (rt_bad HK (by decide))
    clear HK h1 h2 h3 hd0 hdl hsl
    go_enter Tryz.func60, Tryz.ntmps60
    go_wp2_with first
      | (go_at_call 86; refine (H1.out _).mono ?_; rintro e w' ⟨rfl, rfl⟩)
      | (go_at_call 87; refine (H2.out _).mono ?_; rintro e w' ⟨rfl, rfl⟩)
      | (go_at_call 89; refine (H3.out _).mono ?_; rintro e w4 ⟨rfl, hb4⟩)
      | (refine st_row (by rfl) 76 (.tmp 4) (.tmp 126) (by rfl) _ (tkC (0, a, 0)) (by rfl) (by simp [Act.eval, tkC]) 76 _ (by exact (by rw [hb4.block _ (by rw [hp_size]; omega)]; exact hp_new _ _ : w4.heap[w.heap.size]? = some (.cells #[.int .i64 0, .int .i64 0, .int .i64 0] 76 (0, 0)))) (by exact Tryz.infoTok) (by rfl) (tkC_one _) ?_; intro w5 hw5)
    refine ret_row2 4 5 76 rfl _ rfl _ _ hw5.blk d hu hd Tryz.infoTok _ rfl rfl ⟨?_, below_rs hw5 ((below_walk _ _).trans (hb4.mono (by rw [hp_size]; omega))) (Nat.le_refl _)⟩
    rw [HR.out]
    rfl
  · rw [if_neg hn] at HK
    have HR := hid (rt_ok HK)
    have q5 : ¬ (n : Int) = 0 := by omega
    have q6 : (a : Int) + (n : Int) ≤ 65536 := by omega
    clear HK h1 h2 h3 hd0 hdl hsl hn
    go_enter Tryz.func60, Tryz.ntmps60
    go_wp2_with first
      | (go_at_call 86; refine (H1.out _).mono ?_; rintro e w' ⟨rfl, rfl⟩)
      | (go_at_call 87; refine (H2.out _).mono ?_; rintro e w' ⟨rfl, rfl⟩)
      | (go_at_call 89; refine (H3.out _).mono ?_; rintro e w4 ⟨rfl, hb4⟩)
      | (refine st_row (by rfl) 76 (.tmp 4) (.tmp 131) (by rfl) _ (tkC (5, a, a + n)) (by rfl) (by simp [Act.eval, tkC]) 76 _ (by exact (by rw [hb4.block _ (by rw [hp_size]; omega)]; exact hp_new _ _ : w4.heap[w.heap.size]? = some (.cells #[.int .i64 0, .int .i64 0, .int .i64 0] 76 (0, 0)))) (by exact Tryz.infoTok) (by rfl) (tkC_one _) ?_; intro w5 hw5)
    refine ret_row2 4 5 76 rfl _ rfl _ _ hw5.blk d hu hd Tryz.infoTok _ rfl rfl ⟨?_, below_rs hw5 ((below_walk _ _).trans (hb4.mono (by rw [hp_size]; omega))) (Nat.le_refl _)⟩
    rw [HR.out]
    rfl

end Go.Proofs.YtlpengaclkidiaaGreatDoor

/- The document's token: words. -/
namespace Go.Proofs.YtlpengaclkidiaaGreatDoor
open Go.RowKit

set_option maxRecDepth 20000 in
set_option maxHeartbeats 4000000 in
theorem rtok_word (l : List UInt8) (a : Nat) (ha : a < l.length) (hl : l.length ≤ 65536) (h1 : ltB (l.getD a 0) = true) (w : World) :
    Calls Tryz.prog 60 #[.string (mk l), .int .i64 (a : Nat)] w (RtPost l a w) := by
  have hsz := mk_size l
  obtain ⟨d, hu, hd⟩ := Tryz.rowTok
  have hdl : (l.drop a).length = l.length - a := List.length_drop
  have hd0 := drop_getD l a 0
  rw [Nat.add_zero] at hd0
  have q1 : ¬ (a : Int) = (l.length : Int) := by omega
  have q9 : ((a : Int) == (l.length : Int)) = false := by simpa using q1
  have i0 := at_mk l a ha
  have H1 := hid (rletter_any ((l.getD a 0).toNat : Nat))
  have H2 := hid (rdigit_any ((l.getD a 0).toNat : Nat))
  obtain ⟨z, HZ⟩ : ∃ z : UInt8, Hid (l.getD a 0 = z) := ⟨_, rfl⟩
  rw [HZ.out] at i0 hd0 H1 H2
  rw [HZ.out] at h1
  rw [show ltI (z.toNat : Nat) = true from h1] at H1
  have HK : tokP (l.drop a) = wdP (l.drop a) := by unfold tokP; rw [if_neg (by omega), hd0, if_pos h1]
  have HKK := hid HK
  have HDL := hid hdl
  unfold RtPost
  clear h1 hd0 hdl HK
  go_enter Tryz.func60, Tryz.ntmps60
  go_wp2_with (go_at_call 86; refine (H1.out _).mono ?_; rintro e w' ⟨rfl, rfl⟩)
  clear H1
  go_loop [6] (fun i => ∃ k : Nat, i = .int .i64 ((a + k : Nat) : Int) ∧ Tw wdB (l.drop a) k) (fun i => l.length - (intOf i).toNat)
  case atStart => exact ⟨0, rfl, Tw.zero _ _⟩
  case round =>
    obtain ⟨k, rfl, HT⟩ := hrel
    have HT : Hid (Tw wdB (l.drop a) k) := HT
    have hk := HT.out.1
    have hkl : a + k ≤ l.length := by have := HDL.out; omega
    obtain ⟨m, hm⟩ : ∃ m, a + k = m := ⟨_, rfl⟩
    have hma : m - a = k := by omega
    rw [hm] at hkl ⊢
    have q8 : (m : Int) - (a : Int) = (k : Int) := by omega
    have fin : twN wdB (l.drop a) = k → Hid (tokP (l.drop a) = if 32 < k then (0, 0, 123) else if (l.drop a).take k ∈ kyL then (4, k, 0) else (1, k, 0)) := fun e => by
      show tokP _ = _
      rw [HKK.out]
      unfold wdP; rw [e]
    have s1 := sl_mid l a m (by omega) hkl
    rw [hma] at s1
    have HKY := hid (rkey_any ((l.drop a).take k))
    have HM := hid hm
    have hgd : (l.drop a).getD k 0 = l.getD m 0 := by rw [drop_getD, hm]
    clear hm hma
    by_cases hlt : m < l.length
    · have q2 : (m : Int) < (l.length : Int) := by omega
      have i1 := at_mk l m hlt
      obtain ⟨c, HC⟩ : ∃ c : UInt8, Hid (l.getD m 0 = c) := ⟨_, rfl⟩
      rw [HC.out] at i1 hgd
      have HGD := hid hgd
      clear hgd
      have H4 := hid (rletter_any (c.toNat : Nat))
      have H5 := hid (rdigit_any (c.toNat : Nat))
      by_cases hb : wdB c = true
      · have hb' : ltI (c.toNat : Nat) = true ∨ (ltI (c.toNat : Nat) = false ∧ dgI (c.toNat : Nat) = true) := by
          unfold wdB ltB dgB at hb
          cases e : ltI (c.toNat : Nat) with
          | true => exact Or.inl rfl
          | false => rw [e] at hb; exact Or.inr ⟨rfl, by simpa using hb⟩
        have HN := hid (HT.out.more (by have := HDL.out; have := HM.out; omega) HGD.out hb)
        clear hb fin
        rcases hb' with hb1 | ⟨hb1, hb2⟩
        · rw [hb1] at H4
          clear hb1
          go_wp2_with (go_at_call 86; refine (H4.out _).mono ?_; rintro e w' ⟨rfl, rfl⟩)
          exact ⟨⟨k + 1, by have := HM.out; simp; omega, HN.out⟩, by simp [intOf]; omega⟩
        · rw [hb1] at H4
          rw [hb2] at H5
          clear hb1 hb2
          go_wp2_with first
            | (go_at_call 86; refine (H4.out _).mono ?_; rintro e w' ⟨rfl, rfl⟩)
            | (go_at_call 87; refine (H5.out _).mono ?_; rintro e w' ⟨rfl, rfl⟩)
          exact ⟨⟨k + 1, by have := HM.out; simp; omega, HN.out⟩, by simp [intOf]; omega⟩
      · have hb : wdB c = false := by simpa using hb
        have FIN := fin (HT.out.stop HGD.out hb)
        rw [show ltI (c.toNat : Nat) = false from (wd_or hb).1] at H4
        rw [show dgI (c.toNat : Nat) = false from (wd_or hb).2] at H5
        clear hb fin
        by_cases h32 : 32 < k
        · have FIN : tokP (l.drop a) = (0, 0, 123) := by have := FIN.out; rw [if_pos h32] at this; exact this
          have HR := hid (rt_bad FIN (by decide))
          have q3 : (32 : Int) < (k : Int) := by omega
          clear FIN
          as_aux_lemma =>
            go_wp2_with first
              | (go_at_call 86; refine (H4.out _).mono ?_; rintro e w' ⟨rfl, rfl⟩)
                | (go_at_call 87; refine (H5.out _).mono ?_; rintro e w' ⟨rfl, rfl⟩)
              | (refine st_row (by rfl) 76 (.tmp 4) (.tmp 50) (by rfl) _ (tkC (0, a, 0)) (by rfl) (by simp [Act.eval, tkC]) 76 _ (by exact hp_new _ _) (by exact Tryz.infoTok) (by rfl) (tkC_one _) ?_; intro w5 hw5)
            refine ret_row2 4 5 76 rfl _ rfl _ _ hw5.blk d hu hd Tryz.infoTok _ rfl rfl ⟨?_, below_rs hw5 (below_walk _ _) (Nat.le_refl _)⟩
            rw [HR.out]
            rfl
        · have q3 : ¬ (32 : Int) < (k : Int) := by omega
          by_cases hm : (l.drop a).take k ∈ kyL
          · have FIN : tokP (l.drop a) = (4, k, 0) := by have := FIN.out; rw [if_neg h32, if_pos hm] at this; exact this
            have HR := hid (rt_ok FIN)
            rw [HM.out] at HR
            rw [show amP kyL ((l.drop a).take k) = true from decide_eq_true hm] at HKY
            clear FIN hm
            as_aux_lemma =>
              go_wp2_with first
                | (go_at_call 86; refine (H4.out _).mono ?_; rintro e w' ⟨rfl, rfl⟩)
                | (go_at_call 87; refine (H5.out _).mono ?_; rintro e w' ⟨rfl, rfl⟩)
                | (go_at_call 63; refine (HKY.out _).mono ?_; rintro e w4 ⟨rfl, hb4⟩)
                | (refine st_row (by rfl) 76 (.tmp 4) (.tmp 58) (by rfl) _ (tkC (4, a, m)) (by rfl) (by simp [Act.eval, tkC]) 76 _ (by exact (by rw [hb4.block _ (by rw [hp_size]; omega)]; exact hp_new _ _ : w4.heap[w.heap.size]? = some (.cells #[.int .i64 0, .int .i64 0, .int .i64 0] 76 (0, 0)))) (by exact Tryz.infoTok) (by rfl) (tkC_one _) ?_; intro w5 hw5)
              refine ret_row2 4 5 76 rfl _ rfl _ _ hw5.blk d hu hd Tryz.infoTok _ rfl rfl ⟨?_, below_rs hw5 ((below_walk _ _).trans (hb4.mono (by rw [hp_size]; omega))) (Nat.le_refl _)⟩
              rw [HR.out]
              rfl
          · have FIN : tokP (l.drop a) = (1, k, 0) := by have := FIN.out; rw [if_neg h32, if_neg hm] at this; exact this
            have HR := hid (rt_ok FIN)
            rw [HM.out] at HR
            rw [show amP kyL ((l.drop a).take k) = false from decide_eq_false hm] at HKY
            clear FIN hm
            as_aux_lemma =>
              go_wp2_with first
                | (go_at_call 86; refine (H4.out _).mono ?_; rintro e w' ⟨rfl, rfl⟩)
                | (go_at_call 87; refine (H5.out _).mono ?_; rintro e w' ⟨rfl, rfl⟩)
                | (go_at_call 63; refine (HKY.out _).mono ?_; rintro e w4 ⟨rfl, hb4⟩)
                | (refine st_row (by rfl) 76 (.tmp 4) (.tmp 61) (by rfl) _ (tkC (1, a, m)) (by rfl) (by simp [Act.eval, tkC]) 76 _ (by exact (by rw [hb4.block _ (by rw [hp_size]; omega)]; exact hp_new _ _ : w4.heap[w.heap.size]? = some (.cells #[.int .i64 0, .int .i64 0, .int .i64 0] 76 (0, 0)))) (by exact Tryz.infoTok) (by rfl) (tkC_one _) ?_; intro w5 hw5)
              refine ret_row2 4 5 76 rfl _ rfl _ _ hw5.blk d hu hd Tryz.infoTok _ rfl rfl ⟨?_, below_rs hw5 ((below_walk _ _).trans (hb4.mono (by rw [hp_size]; omega))) (Nat.le_refl _)⟩
              rw [HR.out]
              rfl
    · have q2 : ¬ (m : Int) < (l.length : Int) := by omega
      have FIN := fin (by
        have e := HDL.out
        have e2 := HM.out
        have e3 : (l.drop a).length = k := by omega
        have e4 := HT.out
        rw [← e3] at e4 ⊢
        exact e4.all)
      clear fin hgd
      by_cases h32 : 32 < k
      · have FIN : tokP (l.drop a) = (0, 0, 123) := by have := FIN.out; rw [if_pos h32] at this; exact this
        have HR := hid (rt_bad FIN (by decide))
        have q3 : (32 : Int) < (k : Int) := by omega
        clear FIN
        as_aux_lemma =>
          go_wp2_with first
            | (refine st_row (by rfl) 76 (.tmp 4) (.tmp 50) (by rfl) _ (tkC (0, a, 0)) (by rfl) (by simp [Act.eval, tkC]) 76 _ (by exact hp_new _ _) (by exact Tryz.infoTok) (by rfl) (tkC_one _) ?_; intro w5 hw5)
          refine ret_row2 4 5 76 rfl _ rfl _ _ hw5.blk d hu hd Tryz.infoTok _ rfl rfl ⟨?_, below_rs hw5 (below_walk _ _) (Nat.le_refl _)⟩
          rw [HR.out]
          rfl
      · have q3 : ¬ (32 : Int) < (k : Int) := by omega
        by_cases hm : (l.drop a).take k ∈ kyL
        · have FIN : tokP (l.drop a) = (4, k, 0) := by have := FIN.out; rw [if_neg h32, if_pos hm] at this; exact this
          have HR := hid (rt_ok FIN)
          rw [HM.out] at HR
          rw [show amP kyL ((l.drop a).take k) = true from decide_eq_true hm] at HKY
          clear FIN hm
          as_aux_lemma =>
            go_wp2_with first
              | (go_at_call 63; refine (HKY.out _).mono ?_; rintro e w4 ⟨rfl, hb4⟩)
              | (refine st_row (by rfl) 76 (.tmp 4) (.tmp 58) (by rfl) _ (tkC (4, a, m)) (by rfl) (by simp [Act.eval, tkC]) 76 _ (by exact (by rw [hb4.block _ (by rw [hp_size]; omega)]; exact hp_new _ _ : w4.heap[w.heap.size]? = some (.cells #[.int .i64 0, .int .i64 0, .int .i64 0] 76 (0, 0)))) (by exact Tryz.infoTok) (by rfl) (tkC_one _) ?_; intro w5 hw5)
            refine ret_row2 4 5 76 rfl _ rfl _ _ hw5.blk d hu hd Tryz.infoTok _ rfl rfl ⟨?_, below_rs hw5 ((below_walk _ _).trans (hb4.mono (by rw [hp_size]; omega))) (Nat.le_refl _)⟩
            rw [HR.out]
            rfl
        · have FIN : tokP (l.drop a) = (1, k, 0) := by have := FIN.out; rw [if_neg h32, if_neg hm] at this; exact this
          have HR := hid (rt_ok FIN)
          rw [HM.out] at HR
          rw [show amP kyL ((l.drop a).take k) = false from decide_eq_false hm] at HKY
          clear FIN hm
          as_aux_lemma =>
            go_wp2_with first
              | (go_at_call 63; refine (HKY.out _).mono ?_; rintro e w4 ⟨rfl, hb4⟩)
              | (refine st_row (by rfl) 76 (.tmp 4) (.tmp 61) (by rfl) _ (tkC (1, a, m)) (by rfl) (by simp [Act.eval, tkC]) 76 _ (by exact (by rw [hb4.block _ (by rw [hp_size]; omega)]; exact hp_new _ _ : w4.heap[w.heap.size]? = some (.cells #[.int .i64 0, .int .i64 0, .int .i64 0] 76 (0, 0)))) (by exact Tryz.infoTok) (by rfl) (tkC_one _) ?_; intro w5 hw5)
            refine ret_row2 4 5 76 rfl _ rfl _ _ hw5.blk d hu hd Tryz.infoTok _ rfl rfl ⟨?_, below_rs hw5 ((below_walk _ _).trans (hb4.mono (by rw [hp_size]; omega))) (Nat.le_refl _)⟩
            rw [HR.out]
            rfl

end Go.Proofs.YtlpengaclkidiaaGreatDoor

/- The document's token: numbers. -/
namespace Go.Proofs.YtlpengaclkidiaaGreatDoor
open Go.RowKit

set_option maxRecDepth 20000 in
set_option maxHeartbeats 4000000 in
theorem rtok_num (l : List UInt8) (a : Nat) (ha : a < l.length) (hl : l.length ≤ 65536) (h1 : ltB (l.getD a 0) = false) (h2 : dgB (l.getD a 0) = true) (w : World) :
    Calls Tryz.prog 60 #[.string (mk l), .int .i64 (a : Nat)] w (RtPost l a w) := by
  have hsz := mk_size l
  obtain ⟨d, hu, hd⟩ := Tryz.rowTok
  have hdl : (l.drop a).length = l.length - a := List.length_drop
  have hd0 := drop_getD l a 0
  rw [Nat.add_zero] at hd0
  have q1 : ¬ (a : Int) = (l.length : Int) := by omega
  have q9 : ((a : Int) == (l.length : Int)) = false := by simpa using q1
  have i0 := at_mk l a ha
  have H1 := hid (rletter_any ((l.getD a 0).toNat : Nat))
  have H2 := hid (rdigit_any ((l.getD a 0).toNat : Nat))
  obtain ⟨z, HZ⟩ : ∃ z : UInt8, Hid (l.getD a 0 = z) := ⟨_, rfl⟩
  rw [HZ.out] at i0 hd0 H1 H2
  rw [HZ.out] at h1 h2
  rw [show ltI (z.toNat : Nat) = false from h1] at H1
  rw [show dgI (z.toNat : Nat) = true from h2] at H2
  have HK : tokP (l.drop a) = nuP (l.drop a) := by unfold tokP; rw [if_neg (by omega), hd0, if_neg (by rw [h1]; decide), if_pos h2]
  have HKK := hid HK
  have HDL := hid hdl
  have HD0 := hid hd0
  have HZD := hid h2
  unfold RtPost
  clear h1 h2 hd0 hdl HK
  go_enter Tryz.func60, Tryz.ntmps60
  go_wp2_with first
    | (go_at_call 86; refine (H1.out _).mono ?_; rintro e w' ⟨rfl, rfl⟩)
    | (go_at_call 87; refine (H2.out _).mono ?_; rintro e w' ⟨rfl, rfl⟩)
  clear H1 H2
  go_loop [6] (fun i => ∃ k : Nat, i = .int .i64 ((a + k : Nat) : Int) ∧ Tw dgB (l.drop a) k) (fun i => l.length - (intOf i).toNat)
  case atStart => exact ⟨0, rfl, Tw.zero _ _⟩
  case round =>
    obtain ⟨k, rfl, HT⟩ := hrel
    have HT : Hid (Tw dgB (l.drop a) k) := HT
    have hk := HT.out.1
    have hkl : a + k ≤ l.length := by have := HDL.out; omega
    obtain ⟨m, hm⟩ : ∃ m, a + k = m := ⟨_, rfl⟩
    have hma : m - a = k := by omega
    rw [hm] at hkl ⊢
    have s1 := sl_mid l a m (by omega) hkl
    rw [hma] at s1
    have HNU := hid (rnumber_any ((l.drop a).take k) (by rw [List.length_take]; have := HDL.out; omega))
    have HM := hid hm
    have hgd : (l.drop a).getD k 0 = l.getD m 0 := by rw [drop_getD, hm]
    clear hm hma
    have keyf : twN dgB (l.drop a) = k → 1 ≤ k := fun e => by
      rw [← e]
      have hne : 0 < (l.drop a).length := by have := HDL.out; omega
      cases hx : l.drop a with
      | nil => rw [hx] at hne; simp at hne
      | cons c t =>
        have hc : c = z := by have := HD0.out; rw [hx] at this; exact this
        rw [twN_cons (by rw [hc]; exact HZD.out)]
        omega
    have nuk : twN dgB (l.drop a) = k → (NuOk ((l.drop a).take k) ↔ ¬ (((l.drop a).getD 0 0 = 48 ∧ 1 < k) ∨ 9223372036854775807 < valP ((l.drop a).take k))) := fun e => by
      have h1 := keyf e
      have hlen : ((l.drop a).take k).length = k := by rw [List.length_take]; omega
      have h0 : ((l.drop a).take k).getD 0 0 = (l.drop a).getD 0 0 := by
        simp only [List.getD_eq_getElem?_getD]; rw [List.getElem?_take_of_lt (by omega)]
      unfold NuOk
      rw [hlen, h0]
      constructor
      · rintro ⟨_, b, _, d⟩ (x | x)
        · exact b ⟨x.2, x.1⟩
        · omega
      · intro h
        exact ⟨by omega, fun x => h (Or.inl ⟨x.2, x.1⟩), dgs_take HT.out, by have : ¬ 9223372036854775807 < valP ((l.drop a).take k) := fun x => h (Or.inr x); omega⟩
    by_cases hlt : m < l.length
    · have q2 : (m : Int) < (l.length : Int) := by omega
      have i1 := at_mk l m hlt
      obtain ⟨c, HC⟩ : ∃ c : UInt8, Hid (l.getD m 0 = c) := ⟨_, rfl⟩
      rw [HC.out] at i1 hgd
      have HGD := hid hgd
      clear hgd
      have H4 := hid (rletter_any (c.toNat : Nat))
      have H5 := hid (rdigit_any (c.toNat : Nat))
      cases hb : dgI (c.toNat : Nat) with
      | true =>
        rw [hb] at H5
        have HN := hid (HT.out.more (by have := HDL.out; have := HM.out; omega) HGD.out hb)
        clear hb keyf nuk
        go_wp2_with (go_at_call 87; refine (H5.out _).mono ?_; rintro e w' ⟨rfl, rfl⟩)
        exact ⟨⟨k + 1, by have := HM.out; simp; omega, HN.out⟩, by simp [intOf]; omega⟩
      | false =>
        rw [hb] at H5
        have he := HT.out.stop HGD.out (show dgB c = false from hb)
        have NUK := nuk he
        have FIN : tokP (l.drop a) = if ((l.drop a).getD 0 0 = 48 ∧ 1 < k) ∨ ltB c = true ∨ 9223372036854775807 < valP ((l.drop a).take k) then (0, 0, 121) else (2, k, 0) := by
          rw [HKK.out]; unfold nuP; rw [he, HGD.out]
        clear hb keyf nuk he
        by_cases hok : NuOk ((l.drop a).take k)
        · have hno := NUK.1 hok
          rw [rn_ok hok] at HNU
          obtain ⟨v, HV⟩ : ∃ v, Hid (valP ((l.drop a).take k) = v) := ⟨_, rfl⟩
          rw [HV.out] at HNU
          cases hb : ltI (c.toNat : Nat) with
          | true =>
            rw [hb] at H4
            rw [if_pos (Or.inr (Or.inl (show ltB c = true from hb)))] at FIN
            have HR := hid (rt_bad FIN (by decide))
            clear FIN NUK hok hno hb
            as_aux_lemma =>
              go_wp2_with first
                | (go_at_call 87; refine (H5.out _).mono ?_; rintro e w' ⟨rfl, rfl⟩)
                | (go_at_call 86; refine (H4.out _).mono ?_; rintro e w' ⟨rfl, rfl⟩)
                | (go_at_call 88; refine (HNU.out _).mono ?_; rintro e w' ⟨rfl, rfl⟩)
                | (refine st_row (by rfl) 76 (.tmp 4) (.tmp 100) (by rfl) _ (tkC (0, a, 0)) (by rfl) (by simp [Act.eval, tkC]) 76 _ (by exact hp_new _ _) (by exact Tryz.infoTok) (by rfl) (tkC_one _) ?_; intro w5 hw5)
              refine ret_row2 4 5 76 rfl _ rfl _ _ hw5.blk d hu hd Tryz.infoTok _ rfl rfl ⟨?_, below_rs hw5 (below_walk _ _) (Nat.le_refl _)⟩
              rw [HR.out]
              rfl
          | false =>
            rw [hb] at H4
            rw [if_neg (by rintro (x | x | x); exact hno (Or.inl x); unfold ltB at x; rw [hb] at x; cases x; exact hno (Or.inr x))] at FIN
            have HR := hid (rt_ok FIN)
            rw [HM.out] at HR
            clear FIN NUK hok hno hb
            as_aux_lemma =>
              go_wp2_with first
                | (go_at_call 87; refine (H5.out _).mono ?_; rintro e w' ⟨rfl, rfl⟩)
                | (go_at_call 86; refine (H4.out _).mono ?_; rintro e w' ⟨rfl, rfl⟩)
                | (go_at_call 88; refine (HNU.out _).mono ?_; rintro e w' ⟨rfl, rfl⟩)
                | (refine st_row (by rfl) 76 (.tmp 4) (.tmp 103) (by rfl) _ (tkC (2, a, m)) (by rfl) (by simp [Act.eval, tkC]) 76 _ (by exact hp_new _ _) (by exact Tryz.infoTok) (by rfl) (tkC_one _) ?_; intro w5 hw5)
              refine ret_row2 4 5 76 rfl _ rfl _ _ hw5.blk d hu hd Tryz.infoTok _ rfl rfl ⟨?_, below_rs hw5 (below_walk _ _) (Nat.le_refl _)⟩
              rw [HR.out]
              rfl
        · rw [rn_bad hok] at HNU
          have hyes : ((l.drop a).getD 0 0 = 48 ∧ 1 < k) ∨ 9223372036854775807 < valP ((l.drop a).take k) := Classical.byContradiction (fun h => hok (NUK.2 h))
          rw [if_pos (by rcases hyes with x | x; exact Or.inl x; exact Or.inr (Or.inr x))] at FIN
          have HR := hid (rt_bad FIN (by decide))
          clear FIN NUK hok hyes
          as_aux_lemma =>
            go_wp2_with first
              | (go_at_call 87; refine (H5.out _).mono ?_; rintro e w' ⟨rfl, rfl⟩)
              | (go_at_call 88; refine (HNU.out _).mono ?_; rintro e w' ⟨rfl, rfl⟩)
              | (refine st_row (by rfl) 76 (.tmp 4) (.tmp 100) (by rfl) _ (tkC (0, a, 0)) (by rfl) (by simp [Act.eval, tkC]) 76 _ (by exact hp_new _ _) (by exact Tryz.infoTok) (by rfl) (tkC_one _) ?_; intro w5 hw5)
            refine ret_row2 4 5 76 rfl _ rfl _ _ hw5.blk d hu hd Tryz.infoTok _ rfl rfl ⟨?_, below_rs hw5 (below_walk _ _) (Nat.le_refl _)⟩
            rw [HR.out]
            rfl
    · have q2 : ¬ (m : Int) < (l.length : Int) := by omega
      have he : twN dgB (l.drop a) = k := by
        have e := HDL.out
        have e2 := HM.out
        have e3 : (l.drop a).length = k := by omega
        have e4 := HT.out
        rw [← e3] at e4 ⊢
        exact e4.all
      have NUK := nuk he
      have hz0 : l.getD m 0 = 0 := by rw [List.getD_eq_getElem?_getD, List.getElem?_eq_none (by omega)]; rfl
      have FIN : tokP (l.drop a) = if ((l.drop a).getD 0 0 = 48 ∧ 1 < k) ∨ ltB 0 = true ∨ 9223372036854775807 < valP ((l.drop a).take k) then (0, 0, 121) else (2, k, 0) := by
        rw [HKK.out]; unfold nuP; rw [he, hgd, hz0]
      clear keyf nuk he hz0 hgd
      by_cases hok : NuOk ((l.drop a).take k)
      · have hno := NUK.1 hok
        rw [rn_ok hok] at HNU
        obtain ⟨v, HV⟩ : ∃ v, Hid (valP ((l.drop a).take k) = v) := ⟨_, rfl⟩
        rw [HV.out] at HNU
        rw [if_neg (by rintro (x | x | x); exact hno (Or.inl x); revert x; decide; exact hno (Or.inr x))] at FIN
        have HR := hid (rt_ok FIN)
        rw [HM.out] at HR
        clear FIN NUK hok hno
        as_aux_lemma =>
          go_wp2_with first
            | (go_at_call 88; refine (HNU.out _).mono ?_; rintro e w' ⟨rfl, rfl⟩)
            | (refine st_row (by rfl) 76 (.tmp 4) (.tmp 103) (by rfl) _ (tkC (2, a, m)) (by rfl) (by simp [Act.eval, tkC]) 76 _ (by exact hp_new _ _) (by exact Tryz.infoTok) (by rfl) (tkC_one _) ?_; intro w5 hw5)
          refine ret_row2 4 5 76 rfl _ rfl _ _ hw5.blk d hu hd Tryz.infoTok _ rfl rfl ⟨?_, below_rs hw5 (below_walk _ _) (Nat.le_refl _)⟩
          rw [HR.out]
          rfl
      · rw [rn_bad hok] at HNU
        have hyes : ((l.drop a).getD 0 0 = 48 ∧ 1 < k) ∨ 9223372036854775807 < valP ((l.drop a).take k) := Classical.byContradiction (fun h => hok (NUK.2 h))
        rw [if_pos (by rcases hyes with x | x; exact Or.inl x; exact Or.inr (Or.inr x))] at FIN
        have HR := hid (rt_bad FIN (by decide))
        clear FIN NUK hok hyes
        as_aux_lemma =>
          go_wp2_with first
            | (go_at_call 88; refine (HNU.out _).mono ?_; rintro e w' ⟨rfl, rfl⟩)
            | (refine st_row (by rfl) 76 (.tmp 4) (.tmp 100) (by rfl) _ (tkC (0, a, 0)) (by rfl) (by simp [Act.eval, tkC]) 76 _ (by exact hp_new _ _) (by exact Tryz.infoTok) (by rfl) (tkC_one _) ?_; intro w5 hw5)
          refine ret_row2 4 5 76 rfl _ rfl _ _ hw5.blk d hu hd Tryz.infoTok _ rfl rfl ⟨?_, below_rs hw5 (below_walk _ _) (Nat.le_refl _)⟩
          rw [HR.out]
          rfl

end Go.Proofs.YtlpengaclkidiaaGreatDoor

/- The document's gap. -/
namespace Go.Proofs.YtlpengaclkidiaaGreatDoor
open Go.RowKit

theorem drop_one {l : List UInt8} {a : Nat} (h : a < l.length) : l.drop a = l.getD a 0 :: l.drop (a + 1) := by
  rw [List.drop_eq_getElem_cons h]
  simp [List.getD_eq_getElem?_getD, h]
theorem gn_blank {l : List UInt8} {a : Nat} (h : a < l.length) (hb : bkB (l.getD a 0) = true) : gapN false (l.drop a) = gapN false (l.drop (a + 1)) + 1 := by
  rw [drop_one h, gapN, if_pos hb]
theorem gn_rem {l : List UInt8} {a : Nat} (h : a + 1 < l.length) (h1 : l.getD a 0 = 47) (h2 : l.getD (a + 1) 0 = 47) : gapN false (l.drop a) = gapN true (l.drop a) := by
  rw [drop_one (by omega : a < l.length), gapN, h1, if_neg (by decide), if_pos ⟨rfl, by rw [drop_one h, h2]; rfl⟩, gapN, if_neg (by decide)]
theorem gn_in {l : List UInt8} {a : Nat} (h : a < l.length) (h1 : ¬ l.getD a 0 = 10) : gapN true (l.drop a) = gapN true (l.drop (a + 1)) + 1 := by
  rw [drop_one h, gapN, if_neg h1]
theorem gn_nl {l : List UInt8} {a : Nat} (h : a < l.length) (h1 : l.getD a 0 = 10) : gapN true (l.drop a) = gapN false (l.drop a) := by
  have e1 : gapN true (10 :: l.drop (a + 1)) = gapN false (l.drop (a + 1)) + 1 := by rw [gapN, if_pos rfl]
  have e2 : gapN false (10 :: l.drop (a + 1)) = gapN false (l.drop (a + 1)) + 1 := by rw [gapN, if_pos (by decide)]
  rw [drop_one h, h1, e1, e2]
theorem gn_end {l : List UInt8} {a : Nat} (h : ¬ a < l.length) : gapN true (l.drop a) = gapN false (l.drop a) ∧ gapN false (l.drop a) = 0 := by
  rw [List.drop_eq_nil_of_le (by omega)]
  exact ⟨rfl, rfl⟩
theorem gn_stop {l : List UInt8} {a : Nat} (h : a < l.length) (hb : bkB (l.getD a 0) = false) (h2 : ¬ (l.getD a 0 = 47 ∧ a + 1 < l.length ∧ l.getD (a + 1) 0 = 47)) : gapN false (l.drop a) = 0 := by
  rw [drop_one h, gapN, if_neg (by rw [hb]; decide), if_neg]
  rintro ⟨e1, e2⟩
  refine h2 ⟨e1, ?_⟩
  rw [head_drop] at e2
  exact getD_some e2
/-- a gap gone so far, within a remark or not -/
def Gq (l : List UInt8) (a0 : Nat) (b : Bool) (a : Nat) : Prop := a0 ≤ a ∧ a ≤ l.length ∧ frP l a0 = a + gapN b (l.drop a)

set_option maxHeartbeats 4000000 in
theorem rgap_any (l : List UInt8) (a0 : Nat) (ha : a0 ≤ l.length) (hl : l.length ≤ 140737488355328) (w : World) :
    Calls Tryz.prog 61 #[.string (mk l), .int .i64 (a0 : Nat)] w fun e w' => e = .returned (.int .i64 (frP l a0 : Nat)) ∧ w' = w := by
  have hsz := mk_size l
  go_enter Tryz.func61, Tryz.ntmps61
  go_wp2
  go_loop [1] (fun i => ∃ a : Nat, i = .int .i64 a ∧ Gq l a0 false a) (fun i => l.length - (intOf i).toNat)
  case atStart => exact ⟨a0, rfl, Nat.le_refl _, ha, rfl⟩
  case round =>
    obtain ⟨a, rfl, HG⟩ := hrel
    have HG : Hid (Gq l a0 false a) := HG
    have hal := HG.out.2.1
    by_cases hlt : a < l.length
    · have q1 : (a : Int) < (l.length : Int) := by omega
      have i1 := at_mk l a hlt
      obtain ⟨c, HC⟩ : ∃ c : UInt8, Hid (l.getD a 0 = c) := ⟨_, rfl⟩
      rw [HC.out] at i1
      by_cases hb : bkB c = true
      · have hb' : (c.toNat : Int) = 32 ∨ (¬ (c.toNat : Int) = 32 ∧ (c.toNat : Int) = 9) ∨ (¬ (c.toNat : Int) = 32 ∧ ¬ (c.toNat : Int) = 9 ∧ (c.toNat : Int) = 10) ∨ (¬ (c.toNat : Int) = 32 ∧ ¬ (c.toNat : Int) = 9 ∧ ¬ (c.toNat : Int) = 10 ∧ (c.toNat : Int) = 13) := by
          unfold bkB bkI at hb
          have := of_decide_eq_true hb
          omega
        have HN : Hid (Gq l a0 false (a + 1)) := ⟨by have := HG.out.1; omega, hlt, by have := HG.out.2.2; have := gn_blank hlt (by rw [HC.out]; exact hb); omega⟩
        clear hb
        rcases hb' with e | ⟨_, e⟩ | ⟨_, _, e⟩ | ⟨_, _, _, e⟩
        all_goals rw [e] at i1
        all_goals clear e
        all_goals go_wp2
        all_goals exact ⟨⟨a + 1, by simp, HN.out⟩, by simp [intOf]; omega⟩
      · have hb : bkB c = false := by simpa using hb
        have hnb : ¬ (c.toNat : Int) = 32 ∧ ¬ (c.toNat : Int) = 9 ∧ ¬ (c.toNat : Int) = 10 ∧ ¬ (c.toNat : Int) = 13 := by
          unfold bkB bkI at hb
          have := of_decide_eq_false hb
          omega
        obtain ⟨n1, n2, n3, n4⟩ := hnb
        have HBF := hid hb
        clear hb
        by_cases hr : c = 47 ∧ a + 1 < l.length ∧ l.getD (a + 1) 0 = 47
        · obtain ⟨rfl, r2, r3⟩ := hr
          have i2 := at_mk l (a + 1) r2
          rw [r3, show ((a + 1 : Nat) : Int) = (a : Int) + 1 by omega] at i2
          have i1 : ∀ W, (Instr.index 9 (.string (mk l)) (.int .i64 (a : Int))).run Tryz.prog W = .ok (.int .u8 47) W := i1
          have i2 : ∀ W, (Instr.index 9 (.string (mk l)) (.int .i64 ((a : Int) + 1))).run Tryz.prog W = .ok (.int .u8 47) W := i2
          have q2 : (a : Int) + 1 < (l.length : Int) := by omega
          have HS : Hid (Gq l a0 true a) := ⟨HG.out.1, hal, by have := HG.out.2.2; rw [gn_rem r2 HC.out r3] at this; exact this⟩
          clear r3 n1 n2 n3 n4
          go_wp2
          go_loop [1] (fun i => ∃ b : Nat, i = .int .i64 b ∧ Gq l a0 true b ∧ (b = a ∨ a < b)) (fun i => l.length - (intOf i).toNat)
          case atStart => exact ⟨a, rfl, HS.out, Or.inl rfl⟩
          case round =>
            obtain ⟨b, rfl, HH, hab⟩ := hrel
            have HH : Hid (Gq l a0 true b) := HH
            have hbl := HH.out.2.1
            by_cases hltb : b < l.length
            · have q3 : (b : Int) < (l.length : Int) := by omega
              have i3 := at_mk l b hltb
              obtain ⟨d, HD⟩ : ∃ d : UInt8, Hid (l.getD b 0 = d) := ⟨_, rfl⟩
              rw [HD.out] at i3
              by_cases h10 : d = 10
              · have HX : Hid (Gq l a0 false b) := ⟨HH.out.1, hbl, by have := HH.out.2.2; rw [gn_nl hltb (by rw [HD.out]; exact h10)] at this; exact this⟩
                have hab2 : a < b := by
                  rcases hab with e | e
                  · exfalso
                    have e1 := HC.out
                    have e2 := HD.out
                    rw [e, e1, h10] at e2
                    exact absurd e2 (by decide)
                  · exact e
                subst h10
                have i3 : ∀ W, (Instr.index 9 (.string (mk l)) (.int .i64 (b : Int))).run Tryz.prog W = .ok (.int .u8 10) W := i3
                clear i1 i2 q1 q2
                go_wp2
                exact ⟨⟨b, rfl, HX.out⟩, by simp [intOf]; omega⟩
              · have n5 : ¬ (d.toNat : Int) = 10 := fun e => h10 ((u8_eq (n := 10) (by omega)).1 e)
                have HX : Hid (Gq l a0 true (b + 1)) := ⟨by have := HH.out.1; omega, hltb, by have := HH.out.2.2; have := gn_in hltb (by rw [HD.out]; exact h10); omega⟩
                clear h10 i1 i2 q1 q2
                go_wp2
                exact ⟨⟨b + 1, by simp, HX.out, by omega⟩, by simp [intOf]; omega⟩
            · have q3 : ¬ (b : Int) < (l.length : Int) := by omega
              have HX : Hid (Gq l a0 false b) := ⟨HH.out.1, hbl, by have := HH.out.2.2; rw [(gn_end hltb).1] at this; exact this⟩
              clear i1 i2 q1 q2
              go_wp2
              exact ⟨⟨b, rfl, HX.out⟩, by simp [intOf]; omega⟩
        · have HF : Hid (frP l a0 = a) := by
            have e1 := HG.out.2.2
            rw [gn_stop hlt (by rw [HC.out]; exact HBF.out) (by rw [HC.out]; exact hr)] at e1
            exact e1
          by_cases h47 : c = 47
          · subst h47
            have i1 : ∀ W, (Instr.index 9 (.string (mk l)) (.int .i64 (a : Int))).run Tryz.prog W = .ok (.int .u8 47) W := i1
            clear n1 n2 n3 n4
            by_cases hl2 : a + 1 < l.length
            · have q2 : (a : Int) + 1 < (l.length : Int) := by omega
              have i2 := at_mk l (a + 1) hl2
              obtain ⟨d, HD⟩ : ∃ d : UInt8, Hid (l.getD (a + 1) 0 = d) := ⟨_, rfl⟩
              rw [HD.out, show ((a + 1 : Nat) : Int) = (a : Int) + 1 by omega] at i2
              have n6 : ¬ (d.toNat : Int) = 47 := fun e => hr ⟨rfl, hl2, by rw [HD.out]; exact (u8_eq (n := 47) (by omega)).1 e⟩
              clear hr
              go_wp2
              go_ret
              exact ⟨ret_i (by rw [HF.out]), rfl⟩
            · have q2 : ¬ (a : Int) + 1 < (l.length : Int) := by omega
              clear hr
              go_wp2
              go_ret
              exact ⟨ret_i (by rw [HF.out]), rfl⟩
          · have n7 : ¬ (c.toNat : Int) = 47 := fun e => h47 ((u8_eq (n := 47) (by omega)).1 e)
            clear hr h47
            go_wp2
            · rename_i hx
              exfalso
              simp [n1, n2, n3, n4] at hx
            · go_ret
              exact ⟨ret_i (by rw [HF.out]), rfl⟩
    · have q1 : ¬ (a : Int) < (l.length : Int) := by omega
      have HF : Hid (frP l a0 = a) := by have e1 := HG.out.2.2; rw [(gn_end hlt).2] at e1; exact e1
      go_wp2
      go_ret
      exact ⟨ret_i (by rw [HF.out]), rfl⟩

end Go.Proofs.YtlpengaclkidiaaGreatDoor

/- The document's Next, and LexNexts. -/
namespace Go.Proofs.YtlpengaclkidiaaGreatDoor
open Go.RowKit

theorem rtoken_any (l : List UInt8) (a : Nat) (ha : a ≤ l.length) (hl : l.length ≤ 65536) (w : World) :
    Calls Tryz.prog 60 #[.string (mk l), .int .i64 (a : Nat)] w (RtPost l a w) := by
  by_cases he : a = l.length
  · exact rtok_end l a he w
  · have hlt : a < l.length := by omega
    cases h1 : ltB (l.getD a 0) with
    | true => exact rtok_word l a hlt hl h1 w
    | false =>
      cases h2 : dgB (l.getD a 0) with
      | true => exact rtok_num l a hlt hl h1 h2 w
      | false =>
        by_cases h3 : l.getD a 0 = 34
        · exact rtok_text l a hlt hl h1 h2 h3 w
        · exact rtok_sign l a hlt hl h1 h2 h3 w

set_option maxRecDepth 20000 in
set_option maxHeartbeats 2000000 in
theorem rnext_any (l : List UInt8) (hl : l.length ≤ 140737488355328) (a : Int) (w : World) :
    Calls Tryz.prog 36 #[.string (mk l), .int .i64 a] w fun e w' => e = .returned (.tuple #[.agg (tkC (nxP l a).1).toArray, .int .i64 (nxP l a).2]) ∧ Below w.heap.size w w' := by
  have hsz := mk_size l
  obtain ⟨d, hu, hd⟩ := Tryz.rowTok
  by_cases hlong : 65536 < l.length
  · have hp : plN l a = 3 := by unfold plN; rw [if_pos hlong]
    have HR : Hid (nxP l a = ((0, 0, 0), 3)) := by show nxP l a = _; unfold nxP; rw [hp, if_pos (by decide)]
    have q1 : (65536 : Int) < (l.length : Int) := by omega
    clear hp
    go_enter Tryz.func36, Tryz.ntmps36
    go_wp2_with (refine st_row (by rfl) 76 (.tmp 4) (.tmp 9) (by rfl) _ (tkC (0, 0, 0)) (by rfl) (by rfl) 76 _ (by exact hp_new _ _) (by exact Tryz.infoTok) (by rfl) (tkC_one _) ?_; intro w5 hw5)
    refine ret_row2 4 5 76 rfl _ rfl _ _ hw5.blk d hu hd Tryz.infoTok _ rfl rfl ⟨?_, below_rs hw5 (below_walk _ _) (Nat.le_refl _)⟩
    rw [HR.out]
    rfl
  · have q1 : ¬ (65536 : Int) < (l.length : Int) := by omega
    by_cases ha : a < 0 ∨ (l.length : Int) < a
    · have hp : plN l a = 1 := by unfold plN; rw [if_neg hlong, if_pos ha]
      have HR : Hid (nxP l a = ((0, 0, 0), 1)) := by show nxP l a = _; unfold nxP; rw [hp, if_pos (by decide)]
      have hq : a < 0 ∨ (¬ a < 0 ∧ (l.length : Int) < a) := by omega
      clear hp ha
      go_enter Tryz.func36, Tryz.ntmps36
      rcases hq with q2 | ⟨q2, q3⟩
      · go_wp2_with (refine st_row (by rfl) 76 (.tmp 4) (.tmp 18) (by rfl) _ (tkC (0, 0, 0)) (by rfl) (by rfl) 76 _ (by exact hp_new _ _) (by exact Tryz.infoTok) (by rfl) (tkC_one _) ?_; intro w5 hw5)
        refine ret_row2 4 5 76 rfl _ rfl _ _ hw5.blk d hu hd Tryz.infoTok _ rfl rfl ⟨?_, below_rs hw5 (below_walk _ _) (Nat.le_refl _)⟩
        rw [HR.out]
        rfl
      · go_wp2_with (refine st_row (by rfl) 76 (.tmp 4) (.tmp 18) (by rfl) _ (tkC (0, 0, 0)) (by rfl) (by rfl) 76 _ (by exact hp_new _ _) (by exact Tryz.infoTok) (by rfl) (tkC_one _) ?_; intro w5 hw5)
        refine ret_row2 4 5 76 rfl _ rfl _ _ hw5.blk d hu hd Tryz.infoTok _ rfl rfl ⟨?_, below_rs hw5 (below_walk _ _) (Nat.le_refl _)⟩
        rw [HR.out]
        rfl
    · obtain ⟨k, rfl⟩ : ∃ k : Nat, a = (k : Int) := ⟨a.toNat, by omega⟩
      have hk : k ≤ l.length := by omega
      have hp : plN l (k : Int) = 0 := by unfold plN; rw [if_neg hlong, if_neg ha]
      have hn : nxP l (k : Int) = rtP l (frP l k) := by
        unfold nxP rtP
        rw [hp, if_neg (by simp)]
        simp only [Int.toNat_natCast]
        rfl
      have hf := frP_le hk
      have H1 := hid (rgap_any l k hk hl)
      have H2 := hid (rtoken_any l (frP l k) hf.2 (by omega))
      rw [hn]
      obtain ⟨f, HF⟩ : ∃ f, Hid (frP l k = f) := ⟨_, rfl⟩
      rw [HF.out] at H1 H2 ⊢
      unfold RtPost at H2
      obtain ⟨⟨⟨t1, t2, t3⟩, e0⟩, HE⟩ : ∃ r, Hid (rtP l f = r) := ⟨_, rfl⟩
      rw [HE.out] at H2 ⊢
      have q2 : ¬ (l.length : Int) < (k : Int) := by omega
      clear hp hn ha hf
      go_enter Tryz.func36, Tryz.ntmps36
      go_wp2_with first
        | (go_at_call 61; refine (H1.out _).mono ?_; rintro e w' ⟨rfl, rfl⟩)
        | (go_at_call 60; refine (H2.out _).mono ?_; rintro e w4 ⟨rfl, hb4⟩)
        | (refine st_row (by rfl) 76 (.tmp 4) (.tmp 24) (by rfl) _ (tkC (t1, t2, t3)) (by rfl) (by rfl) 76 _ (by exact (by rw [hb4.block _ (by rw [hp_size]; omega)]; exact hp_new _ _ : w4.heap[w.heap.size]? = some (.cells #[.int .i64 0, .int .i64 0, .int .i64 0] 76 (0, 0)))) (by exact Tryz.infoTok) (by rfl) (tkC_one _) ?_; intro w5 hw5)
      refine ret_row2 4 5 76 rfl _ rfl _ _ hw5.blk d hu hd Tryz.infoTok _ rfl rfl ⟨rfl, below_rs hw5 ((below_walk _ _).trans (hb4.mono (by rw [hp_size]; omega))) (Nat.le_refl _)⟩

end Go.Proofs.YtlpengaclkidiaaGreatDoor

/- LexReads: numbers, texts, words and keys are told apart rightly. -/
namespace Go.Proofs.YtlpengaclkidiaaGreatDoor
open Go.RowKit

theorem js_of_tx {l : List UInt8} {r : List UInt8 × Nat} (h0 : 0 < l.length) (h : l.getD 0 0 = 34) (ht : txP (l.drop 1) = some r) (h4 : r.1.length ≤ 4096) (hl : r.2 + 1 = l.length) : jsP 3 l = true := by
  unfold jsP
  rw [decide_eq_true_eq]
  unfold tokP
  rw [if_neg (by omega), h, if_neg (by decide), if_neg (by decide), if_pos rfl]
  unfold tqP
  rw [ht]
  simp only
  rw [if_pos h4, hl]

set_option maxHeartbeats 2000000 in
theorem rtext_bad (l : List UInt8) (hl : l.length ≤ 140737488351232) (h : jsP 3 l = false) (w : World) :
    Calls Tryz.prog 19 #[.string (mk l)] w fun e w' => e = .returned (.tuple #[.string ⟨#[]⟩, .int .i64 122]) ∧ Below w.heap.size w w' := by
  have hsz := mk_size l
  by_cases h0 : l.length = 0
  · have q0 : (l.length : Int) = 0 := by omega
    clear h0 h
    go_enter Tryz.func19, Tryz.ntmps19
    go_wp2
    go_ret2
    exact ⟨rfl, Below.refl _ _⟩
  · have q0 : ((l.length : Int) == 0) = false := by simp; intro e; exact h0 (by rw [e]; rfl)
    have i0 := at_mk l 0 (by omega)
    obtain ⟨z, HZ⟩ : ∃ z : UInt8, Hid (l.getD 0 0 = z) := ⟨_, rfl⟩
    rw [HZ.out] at i0
    have i0 : ∀ W, (Instr.index 9 (.string (mk l)) (.int .i64 0)).run Tryz.prog W = .ok (.int .u8 (z.toNat : Nat)) W := i0
    by_cases hz : z = 34
    · subst hz
      have i0 : ∀ W, (Instr.index 9 (.string (mk l)) (.int .i64 0)).run Tryz.prog W = .ok (.int .u8 34) W := i0
      have H1 := quoted_any l 0 (by omega) hl
      have key : ∃ (s : ByteArray) (n : Int), quV l 0 = .tuple #[.string s, .int .i64 n] ∧ ¬ n = (l.length : Int) := by
        unfold quV
        cases ht : txP (l.drop (0 + 1)) with
        | none => exact ⟨_, _, rfl, by omega⟩
        | some r =>
          simp only
          by_cases h4 : 4096 < r.1.length
          · rw [if_pos h4]; exact ⟨_, _, rfl, by omega⟩
          · rw [if_neg h4]
            refine ⟨_, _, rfl, fun e => ?_⟩
            rw [js_of_tx (by omega) HZ.out ht (by omega) (by omega)] at h
            cases h
      obtain ⟨s, n, hs, hn⟩ := key
      rw [hs] at H1
      have H1 : Hid (∀ w, Calls Tryz.prog 38 #[.string (mk l), .int .i64 0] w fun e w' => e = .returned (.tuple #[.string s, .int .i64 n]) ∧ Below w.heap.size w w') := H1
      clear h hs h0
      go_enter Tryz.func19, Tryz.ntmps19
      go_wp2_with (go_at_call 38; refine (H1.out _).mono ?_; rintro e w2 ⟨rfl, hb⟩)
      go_ret2
      exact ⟨rfl, hb⟩
    · have n4 : ¬ (z.toNat : Int) = 34 := fun e => hz ((u8_eq (n := 34) (by omega)).1 e)
      clear h h0 hz
      go_enter Tryz.func19, Tryz.ntmps19
      go_wp2
      go_ret2
      exact ⟨rfl, Below.refl _ _⟩

set_option maxHeartbeats 2000000 in
theorem rtext_ok (l v : List UInt8) (hl : l.length ≤ 140737488351232) (h0 : l.getD 0 0 = 34) (h2 : 2 ≤ l.length) (hv4 : v.length ≤ 4096) (hv : txP (l.drop 1) = some (v, l.length - 1)) (w : World) :
    Calls Tryz.prog 19 #[.string (mk l)] w fun e w' => e = .returned (.tuple #[.string (mk v), .int .i64 0]) ∧ Below w.heap.size w w' := by
  have hsz := mk_size l
  have q0 : ((l.length : Int) == 0) = false := by simp only [beq_eq_false_iff_ne, ne_eq]; omega
  have i0 := at_mk l 0 (by omega)
  rw [h0] at i0
  have i0 : ∀ W, (Instr.index 9 (.string (mk l)) (.int .i64 0)).run Tryz.prog W = .ok (.int .u8 34) W := i0
  have H1 := quoted_any l 0 (by omega) hl
  have hs : quV l 0 = .tuple #[.string (mk v), .int .i64 (l.length : Int)] := by
    unfold quV
    rw [show txP (l.drop (0 + 1)) = some (v, l.length - 1) from hv]
    simp only
    rw [if_neg (by omega)]
    have e : ((0 + 1 + (l.length - 1) : Nat) : Int) = (l.length : Int) := by omega
    rw [e]
  rw [hs] at H1
  have H1 : Hid (∀ w, Calls Tryz.prog 38 #[.string (mk l), .int .i64 0] w fun e w' => e = .returned (.tuple #[.string (mk v), .int .i64 (l.length : Int)]) ∧ Below w.heap.size w w') := H1
  clear hs hv h0
  go_enter Tryz.func19, Tryz.ntmps19
  go_wp2_with (go_at_call 38; refine (H1.out _).mono ?_; rintro e w2 ⟨rfl, hb⟩)
  go_ret2
  exact ⟨rfl, hb⟩

set_option maxHeartbeats 2000000 in
theorem rname_any (l : List UInt8) (hl : l.length ≤ 140737488355328) (w : World) :
    Calls Tryz.prog 62 #[.string (mk l)] w fun e w' => e = .returned (.bool (nmT l)) ∧ w' = w := by
  have hsz := mk_size l
  by_cases h0 : l.length = 0
  · have q0 : (l.length : Int) = 0 := by omega
    have HR : Hid (nmT l = false) := decide_eq_false (fun h => by have := h.1; omega)
    clear h0
    go_enter Tryz.func62, Tryz.ntmps62
    go_wp2
    go_ret
    exact ⟨by rw [HR.out]; rfl, rfl⟩
  · have q0 : ((l.length : Int) == 0) = false := by simp only [beq_eq_false_iff_ne, ne_eq]; omega
    by_cases h32 : 32 < l.length
    · have q1 : (32 : Int) < (l.length : Int) := by omega
      have HR : Hid (nmT l = false) := decide_eq_false (fun h => by have := h.2.1; omega)
      clear h0
      go_enter Tryz.func62, Tryz.ntmps62
      go_wp2
      go_ret
      exact ⟨by rw [HR.out]; rfl, rfl⟩
    · have q1 : ¬ (32 : Int) < (l.length : Int) := by omega
      have i0 := at_mk l 0 (by omega)
      have H0 := hid (rletter_any ((l.getD 0 0).toNat : Nat))
      obtain ⟨z, HZ⟩ : ∃ z : UInt8, Hid (l.getD 0 0 = z) := ⟨_, rfl⟩
      rw [HZ.out] at i0 H0
      have i0 : ∀ W, (Instr.index 9 (.string (mk l)) (.int .i64 0)).run Tryz.prog W = .ok (.int .u8 (z.toNat : Nat)) W := i0
      cases hz : ltI (z.toNat : Nat) with
      | false =>
        rw [hz] at H0
        have HR : Hid (nmT l = false) := decide_eq_false (fun h => by have := h.2.2.1; rw [HZ.out] at this; unfold ltB at this; rw [hz] at this; cases this)
        clear h0 hz
        go_enter Tryz.func62, Tryz.ntmps62
        go_wp2_with (go_at_call 86; refine (H0.out _).mono ?_; rintro e w' ⟨rfl, rfl⟩)
        go_ret
        exact ⟨by rw [HR.out]; rfl, rfl⟩
      | true =>
        rw [hz] at H0
        have HZL : Hid (ltB (l.getD 0 0) = true) := by rw [HZ.out]; exact hz
        clear hz
        go_enter Tryz.func62, Tryz.ntmps62
        go_wp2_with (go_at_call 86; refine (H0.out _).mono ?_; rintro e w' ⟨rfl, rfl⟩)
        clear H0
        go_loop [3] (fun i => ∃ k : Nat, i = .int .i64 k ∧ Tw wdB l k) (fun i => l.length - (intOf i).toNat)
        case atStart => exact ⟨0, rfl, Tw.zero _ _⟩
        case round =>
          obtain ⟨k, rfl, HT⟩ := hrel
          have HT : Hid (Tw wdB l k) := HT
          have hk := HT.out.1
          by_cases hlt : k < l.length
          · have q2 : (k : Int) < (l.length : Int) := by omega
            have i1 := at_mk l k hlt
            obtain ⟨c, HC⟩ : ∃ c : UInt8, Hid (l.getD k 0 = c) := ⟨_, rfl⟩
            rw [HC.out] at i1
            have H4 := hid (rletter_any (c.toNat : Nat))
            have H5 := hid (rdigit_any (c.toNat : Nat))
            cases h1 : ltI (c.toNat : Nat) with
            | true =>
              rw [h1] at H4
              have HN := hid (HT.out.more hlt HC.out (by unfold wdB ltB; rw [h1]; rfl))
              clear h1
              go_wp2_with (go_at_call 86; refine (H4.out _).mono ?_; rintro e w' ⟨rfl, rfl⟩)
              exact ⟨⟨k + 1, by simp, HN.out⟩, by simp [intOf]; omega⟩
            | false =>
              rw [h1] at H4
              cases h2 : dgI (c.toNat : Nat) with
              | true =>
                rw [h2] at H5
                have HN := hid (HT.out.more hlt HC.out (by unfold wdB dgB; rw [h2]; simp))
                clear h1 h2
                go_wp2_with first
                  | (go_at_call 86; refine (H4.out _).mono ?_; rintro e w' ⟨rfl, rfl⟩)
                  | (go_at_call 87; refine (H5.out _).mono ?_; rintro e w' ⟨rfl, rfl⟩)
                exact ⟨⟨k + 1, by simp, HN.out⟩, by simp [intOf]; omega⟩
              | false =>
                rw [h2] at H5
                have HR : Hid (nmT l = false) := decide_eq_false (fun h => by
                  have := h.2.2.2 k hlt
                  rw [HC.out] at this
                  unfold wdB ltB dgB at this
                  rw [h1, h2] at this
                  cases this)
                clear h1 h2
                go_wp2_with first
                  | (go_at_call 86; refine (H4.out _).mono ?_; rintro e w' ⟨rfl, rfl⟩)
                  | (go_at_call 87; refine (H5.out _).mono ?_; rintro e w' ⟨rfl, rfl⟩)
                go_ret
                exact ⟨by rw [HR.out]; rfl, rfl⟩
          · have q2 : ¬ (k : Int) < (l.length : Int) := by omega
            have HR : Hid (nmT l = true) := decide_eq_true ⟨by omega, by omega, HZL.out, fun j hj => HT.out.2 j (by omega)⟩
            go_wp2
            go_ret
            exact ⟨by rw [HR.out]; rfl, rfl⟩

set_option maxHeartbeats 2000000 in
theorem rword_any (l : List UInt8) (hl : l.length ≤ 140737488355328) (w : World) :
    Calls Tryz.prog 37 #[.string (mk l)] w fun e w' => e = .returned (.bool (nmT l && !amP kyL l)) ∧ Below w.heap.size w w' := by
  have H1 := hid (rname_any l hl)
  have H2 := hid (rkey_any l)
  cases h1 : nmT l with
  | false =>
    rw [h1] at H1
    go_enter Tryz.func37, Tryz.ntmps37
    go_wp2_with (go_at_call 62; refine (H1.out _).mono ?_; rintro e w' ⟨rfl, rfl⟩)
    go_ret
    exact ⟨rfl, Below.refl _ _⟩
  | true =>
    rw [h1] at H1
    obtain ⟨b, HBB⟩ : ∃ b, Hid (amP kyL l = b) := ⟨_, rfl⟩
    rw [HBB.out] at H2 ⊢
    go_enter Tryz.func37, Tryz.ntmps37
    go_wp2_with first
      | (go_at_call 62; refine (H1.out _).mono ?_; rintro e w' ⟨rfl, rfl⟩)
      | (go_at_call 63; refine (H2.out _).mono ?_; rintro e w2 ⟨rfl, hb⟩)
    go_ret
    exact ⟨by cases b <;> rfl, hb⟩

end Go.Proofs.YtlpengaclkidiaaGreatDoor

/- The document's one token, what fits, and whether two lists are the same. -/
namespace Go.Proofs.YtlpengaclkidiaaGreatDoor
open Go.RowKit

theorem results_tmp4 {fn : Func} {t u v x : Tmp} (h : fn.results = #[.tmp t, .tmp u, .tmp v, .tmp x]) (tmps : Array Value) (P : Program) (w : World) :
    (results fn tmps).run P w = .ok (.tuple #[tmps.getD t undef, tmps.getD u undef, tmps.getD v undef, tmps.getD x undef]) w := by
  simp [results, h]
/-- four answers -/
theorem ret_4 {P : Program} {fn : Func} {R : Ending → World → Prop} {a : Act} {w : World} (t u v x : Tmp) (h : fn.results = #[.tmp t, .tmp u, .tmp v, .tmp x]) (hdf : a.defers = [])
    (hR : R (.returned (.tuple #[a.tmps.getD t undef, a.tmps.getD u undef, a.tmps.getD v undef, a.tmps.getD x undef])) w) : bodyPost P fn R .ret a w :=
  bodyPost_ret (results_tmp4 h _ _ _) hdf hR

set_option maxRecDepth 20000 in
set_option maxHeartbeats 1000000 in
theorem rone_bad (l : List UInt8) (a : Nat) (e : Int) (f : Nat) (hl : l.length ≤ 65536) (he : e ≠ 0) (hn : nxP l (a : Int) = ((0, f, 0), e)) (w : World) :
    Calls Tryz.prog 17 #[.string (mk l), .int .i64 (a : Int)] w fun r w' => r = .returned (.tuple #[.string ⟨#[]⟩, .int .i64 0, .int .i64 e, .int .i64 (f : Int)]) ∧ Below w.heap.size w w' := by
  have HN : Hid (Calls Tryz.prog 36 #[.string (mk l), .int .i64 (a : Int)] w fun r w' => r = .returned (.tuple #[.agg #[.int .i64 (0 : Nat), .int .i64 (f : Nat), .int .i64 (0 : Nat)], .int .i64 e]) ∧ Below w.heap.size w w') := by
    have := rnext_any l (by omega) (a : Int) w
    rw [hn] at this
    exact this
  have he0 : ¬ e = 0 := he
  clear hn he
  go_enter Tryz.func17, Tryz.ntmps17
  go_upto_region 3 with (go_at_call 36; refine HN.out.mono ?_; rintro r w2 ⟨rfl, hb⟩; have HB := hid hb; clear hb)
  have HK : Hid (Tk (w2.alloc (.cells #[.int .i64 (0 : Nat), .int .i64 (f : Nat), .int .i64 (0 : Nat)] 76)) w2.heap.size (0, f, 0)) := hp_new _ _
  have HB2 := hid (HB.out.trans ((below_walk w2 (.cells #[.int .i64 (0 : Nat), .int .i64 (f : Nat), .int .i64 (0 : Nat)] 76)).mono HB.out.size))
  generalize w2.alloc (.cells #[.int .i64 (0 : Nat), .int .i64 (f : Nat), .int .i64 (0 : Nat)] 76) = w3 at *
  have c1 := HK.out.c1
  go_quiet (fail)
  go_wp2
  exact ret_4 4 5 6 7 rfl rfl ⟨rfl, below_drewN HB2.out _⟩

set_option maxRecDepth 20000 in
set_option maxHeartbeats 1000000 in
theorem rone_ok (l : List UInt8) (a k f m : Nat) (hl : l.length ≤ 65536) (hfm : f ≤ m) (hml : m ≤ l.length) (hn : nxP l (a : Int) = ((k, f, m), 0)) (w : World) :
    Calls Tryz.prog 17 #[.string (mk l), .int .i64 (a : Int)] w fun r w' => r = .returned (.tuple #[.string (mk (ttP l f m)), .int .i64 (m : Int), .int .i64 0, .int .i64 (f : Int)]) ∧ Below w.heap.size w w' := by
  have HN : Hid (Calls Tryz.prog 36 #[.string (mk l), .int .i64 (a : Int)] w fun r w' => r = .returned (.tuple #[.agg #[.int .i64 (k : Nat), .int .i64 (f : Nat), .int .i64 (m : Nat)], .int .i64 0]) ∧ Below w.heap.size w w') := by
    have := rnext_any l (by omega) (a : Int) w
    rw [hn] at this
    exact this
  have s1 := sl_mid l f m hfm hml
  clear hn
  go_enter Tryz.func17, Tryz.ntmps17
  go_upto_region 4 with (go_at_call 36; refine HN.out.mono ?_; rintro r w2 ⟨rfl, hb⟩; have HB := hid hb; clear hb)
  have HK : Hid (Tk (w2.alloc (.cells #[.int .i64 (k : Nat), .int .i64 (f : Nat), .int .i64 (m : Nat)] 76)) w2.heap.size (k, f, m)) := hp_new _ _
  have HB2 := hid (HB.out.trans ((below_walk w2 (.cells #[.int .i64 (k : Nat), .int .i64 (f : Nat), .int .i64 (m : Nat)] 76)).mono HB.out.size))
  generalize w2.alloc (.cells #[.int .i64 (k : Nat), .int .i64 (f : Nat), .int .i64 (m : Nat)] 76) = w3 at *
  have c1 := HK.out.c1
  have c2 := HK.out.c2
  go_quiet (fail)
  go_wp2
  exact ret_4 4 5 6 7 rfl rfl ⟨rfl, below_drewN HB2.out _⟩

/-- what stands at a place, by the text alone -/
def fitR (p : Nat) (s : List UInt8) : Bool := if p = 1 then jsP 3 s else if p = 2 then decide (s = kAs) else if p = 3 then jsP 1 s else decide (s = kEnd)

section
variable (s : List UInt8) (w : World)

set_option maxRecDepth 20000 in
set_option maxHeartbeats 1000000 in
theorem rfit_1 (hs : s.length ≤ 140737488351232) : Calls Tryz.prog 18 #[.int .i64 1, .string (mk s)] w fun r w' => r = .returned (.bool (fitR 1 s)) ∧ Below w.heap.size w w' := by
  show Calls _ _ _ _ fun r w' => r = .returned (.bool (jsP 3 s)) ∧ Below w.heap.size w w'
  cases hj : jsP 3 s with
  | false =>
    have HX := hid (rtext_bad s hs hj w)
    go_enter Tryz.func18, Tryz.ntmps18
    go_wp2_with (go_at_call 19; refine HX.out.mono ?_; rintro r w2 ⟨rfl, hb⟩)
    go_ret
    exact ⟨rfl, hb⟩
  | true =>
    obtain ⟨v, h1, h2, h3, h4⟩ := js_text hj
    have HX := hid (rtext_ok s v hs h4 h3 h2 h1 w)
    clear h1
    go_enter Tryz.func18, Tryz.ntmps18
    go_wp2_with (go_at_call 19; refine HX.out.mono ?_; rintro r w2 ⟨rfl, hb⟩)
    go_ret
    exact ⟨rfl, hb⟩

set_option maxRecDepth 20000 in
theorem rfit_2 : Calls Tryz.prog 18 #[.int .i64 2, .string (mk s)] w fun r w' => r = .returned (.bool (fitR 2 s)) ∧ Below w.heap.size w w' := by
  show Calls _ _ _ _ fun r w' => r = .returned (.bool (decide (s = kAs))) ∧ Below w.heap.size w w'
  by_cases hq : s = kAs
  · have q1 : ((mk s).toList == [97, 115]) = true := by rw [tl_mk, hq]; decide
    rw [decide_eq_true hq]
    clear hq
    go_enter Tryz.func18, Tryz.ntmps18
    go_wp2
    go_ret
    exact ⟨rfl, Below.refl _ _⟩
  · have q1 : ((mk s).toList == [97, 115]) = false := by rw [tl_mk, beq_eq_false_iff_ne]; exact hq
    rw [decide_eq_false hq]
    clear hq
    go_enter Tryz.func18, Tryz.ntmps18
    go_wp2
    go_ret
    exact ⟨rfl, Below.refl _ _⟩

set_option maxRecDepth 20000 in
theorem rfit_4 : Calls Tryz.prog 18 #[.int .i64 4, .string (mk s)] w fun r w' => r = .returned (.bool (fitR 4 s)) ∧ Below w.heap.size w w' := by
  show Calls _ _ _ _ fun r w' => r = .returned (.bool (decide (s = kEnd))) ∧ Below w.heap.size w w'
  by_cases hq : s = kEnd
  · have q1 : ((mk s).toList == [59]) = true := by rw [tl_mk, hq]; decide
    rw [decide_eq_true hq]
    clear hq
    go_enter Tryz.func18, Tryz.ntmps18
    go_wp2
    go_ret
    exact ⟨rfl, Below.refl _ _⟩
  · have q1 : ((mk s).toList == [59]) = false := by rw [tl_mk, beq_eq_false_iff_ne]; exact hq
    rw [decide_eq_false hq]
    clear hq
    go_enter Tryz.func18, Tryz.ntmps18
    go_wp2
    go_ret
    exact ⟨rfl, Below.refl _ _⟩

theorem rword_js : (nmT s && !amP kyL s) = jsP 1 s := by
  have h := (js_word s).1
  cases hj : jsP 1 s with
  | true =>
    obtain ⟨a, b⟩ := h.1 hj
    rw [a]
    have : amP kyL s = false := by
      cases hm : amP kyL s with
      | false => rfl
      | true => exact absurd (of_decide_eq_true hm) b
    rw [this]; rfl
  | false =>
    cases hn : nmT s with
    | false => rfl
    | true =>
      cases hm : amP kyL s with
      | true => rfl
      | false =>
        exfalso
        have : jsP 1 s = true := h.2 ⟨hn, fun x => of_decide_eq_false hm x⟩
        rw [hj] at this
        cases this

set_option maxRecDepth 20000 in
theorem rfit_3 (hs : s.length ≤ 140737488351232) : Calls Tryz.prog 18 #[.int .i64 3, .string (mk s)] w fun r w' => r = .returned (.bool (fitR 3 s)) ∧ Below w.heap.size w w' := by
  show Calls _ _ _ _ fun r w' => r = .returned (.bool (jsP 1 s)) ∧ Below w.heap.size w w'
  have HX := rword_any s (by omega) w
  rw [rword_js] at HX
  have HX := hid HX
  go_enter Tryz.func18, Tryz.ntmps18
  go_wp2_with (go_at_call 37; refine HX.out.mono ?_; rintro r w2 ⟨rfl, hb⟩)
  go_ret
  exact ⟨rfl, hb⟩
end

end Go.Proofs.YtlpengaclkidiaaGreatDoor

/- The document's Includes (written by yrinc.py). -/
namespace Go.Proofs.YtlpengaclkidiaaGreatDoor
open Go.RowKit

/-- what is left behind the key include, from a place on -/
def inR (l : List UInt8) (p : Nat) (v n : List UInt8) (a : Nat) : Int × Nat × List UInt8 × List UInt8 × Nat :=
  if p = 1 then in1 l a else if p = 2 then in2 l v a else if p = 3 then in3 l v a else if p = 4 then in4 l v n a else (0, 0, v, n, a)
theorem inR_bad {l v n : List UInt8} {p a k f m : Nat} {e : Int} (h1 : 1 ≤ p) (h4 : p ≤ 4) (h : plP l p a = ((k, f, m), e)) (he : e ≠ 0) : inR l p v n a = (e, f, [], [], 0) := by
  unfold inR
  rcases (by omega : p = 1 ∨ p = 2 ∨ p = 3 ∨ p = 4) with rfl | rfl | rfl | rfl
  · rw [if_pos rfl]; unfold in1; rw [h, if_pos he]
  · rw [if_neg (by decide), if_pos rfl]; unfold in2; rw [h, if_pos he]
  · rw [if_neg (by decide), if_neg (by decide), if_pos rfl]; unfold in3; rw [h, if_pos he]
  · rw [if_neg (by decide), if_neg (by decide), if_neg (by decide), if_pos rfl]; unfold in4; rw [h, if_pos he]
theorem inR_1 {l v n : List UInt8} {a k f m : Nat} (h : plP l 1 a = ((k, f, m), 0)) : inR l 1 v n a = inR l 2 (vlP (ttP l f m)) n m := by
  unfold inR; rw [if_pos rfl, if_neg (by decide), if_pos rfl]; unfold in1; rw [h, if_neg (by simp)]
theorem inR_2 {l v n : List UInt8} {a k f m : Nat} (h : plP l 2 a = ((k, f, m), 0)) : inR l 2 v n a = inR l 3 v n m := by
  unfold inR; rw [if_neg (by decide), if_pos rfl, if_neg (by decide), if_neg (by decide), if_pos rfl]; unfold in2; rw [h, if_neg (by simp)]
theorem inR_3 {l v n : List UInt8} {a k f m : Nat} (h : plP l 3 a = ((k, f, m), 0)) : inR l 3 v n a = inR l 4 v (ttP l f m) m := by
  unfold inR; rw [if_neg (by decide), if_neg (by decide), if_pos rfl, if_neg (by decide), if_neg (by decide), if_neg (by decide), if_pos rfl]; unfold in3; rw [h, if_neg (by simp)]
theorem inR_4 {l v n : List UInt8} {a k f m : Nat} (h : plP l 4 a = ((k, f, m), 0)) : inR l 4 v n a = inR l 5 v n m := by
  unfold inR; rw [if_neg (by decide), if_neg (by decide), if_neg (by decide), if_pos rfl, if_neg (by decide), if_neg (by decide), if_neg (by decide), if_neg (by decide)]; unfold in4; rw [h, if_neg (by simp)]

/-- by the text alone, or by the token: the same -/
theorem fit_same {l : List UInt8} {a p k f m : Nat} (hl : l.length ≤ 65536) (ha : a ≤ l.length) (h1 : 1 ≤ p) (h4 : p ≤ 4) (hn : nxP l (a : Int) = ((k, f, m), 0)) : fitR p (ttP l f m) = fitP p k (ttP l f m) := by
  have key : (k = 0 ∧ ttP l f m = []) ∨ (1 ≤ k ∧ f < m ∧ tokP (l.drop f) = (k, m - f, 0)) := by
    rcases nx_view ha with ⟨v1, _⟩ | ⟨v0, ⟨v1, v2, v3⟩ | ⟨e, v1, v2, v3, v4, v5⟩ | ⟨k', n, v1, v2, v3, v4, v5, v6⟩⟩
    · omega
    · rw [hn] at v3
      simp only [Prod.mk.injEq, and_true] at v3
      obtain ⟨rfl, rfl, e⟩ := v3
      refine Or.inl ⟨rfl, ?_⟩
      unfold ttP; rw [e]; simp
    · rw [hn] at v5; simp only [Prod.mk.injEq] at v5; omega
    · rw [hn] at v6
      simp only [Prod.mk.injEq, and_true] at v6
      obtain ⟨rfl, rfl, rfl⟩ := v6
      refine Or.inr ⟨v2, by omega, ?_⟩
      rw [Nat.add_sub_cancel_left]; exact v1
  have j : ∀ i, 1 ≤ i → jsP i (ttP l f m) = decide (k = i) := fun i hi => by
    rcases key with ⟨rfl, e⟩ | ⟨h1, h2, h3⟩
    · rw [e, decide_eq_false (by omega)]
      unfold jsP
      rw [decide_eq_false_iff_not]
      unfold tokP
      simp
      omega
    · exact js_own h2 h3 h1 i
  unfold fitR fitP
  rcases (by omega : p = 1 ∨ p = 2 ∨ p = 3 ∨ p = 4) with rfl | rfl | rfl | rfl
  · rw [if_pos rfl, if_neg (by decide), if_pos rfl]; exact j 3 (by decide)
  · rfl
  · rw [if_neg (by decide), if_neg (by decide), if_pos rfl, if_neg (by decide), if_neg (by decide), if_neg (by decide), if_pos rfl]; exact j 1 (by decide)
  · rfl

set_option maxRecDepth 20000 in
set_option maxHeartbeats 1000000 in
theorem rincls_long (l : List UInt8) (hl : 65536 < l.length) (w : World) :
    Calls Tryz.prog 6 #[.string (mk l)] w fun r w' => ∃ v, r = .returned (.tuple #[v, .int .i64 0, .int .i64 3, .int .i64 0]) ∧ OwnN w' w.heap.size v [] ∧ Below w.heap.size w w' := by
  have hmk := mk_size l
  have q0 : (65536 : Int) < (l.length : Int) := by omega
  go_enter Tryz.func6, Tryz.ntmps6
  go_wp2
  exact ret_4 2 3 4 5 rfl rfl ⟨_, rfl, OwnN.nil _ _, Below.refl _ _⟩

set_option maxRecDepth 20000 in
set_option maxHeartbeats 8000000 in
theorem rincls_ok (l : List UInt8) (hl : l.length ≤ 65536) (w : World) :
    Calls Tryz.prog 6 #[.string (mk l)] w fun r w' => ∃ v, r = .returned (.tuple #[v, .int .i64 ((scP l 0).2.1 : Nat), .int .i64 (scP l 0).2.2.1, .int .i64 ((scP l 0).2.2.2 : Nat)]) ∧ OwnN w' w.heap.size v (toI (scP l 0).1) ∧ Below w.heap.size w w' := by
  have hmk := mk_size l
  have q0 : ¬ (65536 : Int) < (l.length : Int) := by omega
  have H0 := hid (Sg.zero hl)
  have HL := hid hl
  go_enter Tryz.func6, Tryz.ntmps6
  go_wp2
  go_loopw [6, 7] (fun v i wr => ∃ (a : Nat) (L : List (List UInt8 × List UInt8 × Nat)), i = .int .i64 a ∧ Sg l a L ∧ OwnN wr w.heap.size v (toI L) ∧ Below w.heap.size w wr) (fun _ i _ => l.length - (intOf i).toNat)
  case atStart => exact ⟨0, [], rfl, H0.out, OwnN.nil _ _, Below.refl _ _⟩
  case round =>
    obtain ⟨a, L, rfl, hS, hO, hB⟩ := hrel
    have HS := hid hS
    have HO := hid hO
    have HB := hid hB
    obtain ⟨sa, sc, hv⟩ := HO.out.shape
    rw [toI_len] at hv
    subst hv
    clear hS hO hB
    rcases pl_view 0 hl HS.out.1 with ⟨e, f, h0, _, _, _, hf, hn, hp⟩ | ⟨k, f, m, _, hfm, hm, hn, hb, hp⟩ | ⟨k, f, m, haf, hfm, hm, hn, hb, hp, _⟩
    · have FIN := hid (HS.out.last hp h0)
      have H1 := hid (rone_bad l a e f hl h0 hn wr)
      have he0 : ¬ e = 0 := h0
      have q2 : (e == 0) = false := by rw [beq_eq_false_iff_ne]; exact h0
      clear hp hn h0
      go_wp2_with (go_at_call 17; refine H1.out.mono ?_; rintro r w2 ⟨rfl, hb2⟩; have HB2 := hid hb2; clear hb2)
      refine ret_4 2 3 4 5 rfl rfl ?_
      rw [FIN.out]
      exact ⟨_, rfl, HO.out.below HB2.out, HB.out.trans (HB2.out.mono HB.out.size)⟩
    · have FIN := hid (HS.out.last hp (by decide))
      have H1 := hid (rone_ok l a k f m hl hfm hm hn wr)
      obtain ⟨S, HTX⟩ : ∃ S, Hid (ttP l f m = S) := ⟨_, rfl⟩
      rw [HTX.out] at H1 hb
      have q1 : ((mk S).toList == [105, 110, 99, 108, 117, 100, 101]) = false := by rw [tl_mk, beq_eq_false_iff_ne]; exact of_decide_eq_false hb
      clear hp hn hb
      go_wp2_with (go_at_call 17; refine H1.out.mono ?_; rintro r w2 ⟨rfl, hb2⟩; have HB2 := hid hb2; clear hb2)
      refine ret_4 2 3 4 5 rfl rfl ?_
      rw [FIN.out]
      exact ⟨_, rfl, HO.out.below HB2.out, HB.out.trans (HB2.out.mono HB.out.size)⟩
    · have H1 := hid (rone_ok l a k f m hl (by omega) hm hn wr)
      obtain ⟨S, HTX⟩ : ∃ S, Hid (ttP l f m = S) := ⟨_, rfl⟩
      rw [HTX.out] at H1 hb
      have q1 : ((mk S).toList == [105, 110, 99, 108, 117, 100, 101]) = true := by rw [tl_mk, of_decide_eq_true hb]; decide
      have HPL := hid hp
      have HM := hid hm
      clear hp hn hb
      go_upto_region 9 with (go_at_call 17; refine H1.out.mono ?_; rintro r w2 ⟨rfl, hb2⟩; have HB2 := hid hb2; clear hb2)
      have HX3 := hid (hp_new w2 (.cells #[.string ⟨#[]⟩, .string ⟨#[]⟩, .int .i64 (f : Int)] 25))
      have HO3 := hid ((HO.out.below HB2.out).below (below_walk w2 (.cells #[.string ⟨#[]⟩, .string ⟨#[]⟩, .int .i64 (f : Int)] 25)))
      have HB3 := hid ((HB.out.trans (HB2.out.mono HB.out.size)).trans ((below_walk w2 (.cells #[.string ⟨#[]⟩, .string ⟨#[]⟩, .int .i64 (f : Int)] 25)).mono (Nat.le_trans HB.out.size HB2.out.size)))
      have HGX := hid (show w.heap.size ≤ w2.heap.size from Nat.le_trans HB.out.size HB2.out.size)
      have HAP := hid (show ∀ q, (Value.slice sa L.length sc).ownBlock = some q → q < w2.heap.size from fun q hq => ((HO.out.below HB2.out).lt q hq).2)
      generalize w2.alloc (.cells #[.string ⟨#[]⟩, .string ⟨#[]⟩, .int .i64 (f : Int)] 25) = w3 at *
      obtain ⟨gx, HGE⟩ : ∃ g, Hid (w2.heap.size = g) := ⟨_, rfl⟩
      rw [HGE.out] at HX3 HGX HAP
      rw [HGE.out]
      clear HB2 HO HB H1 HGE
      go_wp2
      go_loopw [9, 13] (fun vi vp wr => ∃ (p b : Nat) (v n : List UInt8), vp = .int .i64 p ∧ vi = .int .i64 b ∧ 1 ≤ p ∧ p ≤ 5 ∧ m ≤ b ∧ b ≤ l.length ∧ in1 l m = inR l p v n b ∧ wr.heap[gx]? = some (.cells #[.string (mk v), .string (mk n), .int .i64 (f : Int)] 25 (0, 0)) ∧ OwnN wr w.heap.size (.slice sa L.length sc) (toI L) ∧ Below w.heap.size w wr) (fun _ vp _ => 5 - (intOf vp).toNat)
      case atStart => exact ⟨1, m, [], [], rfl, rfl, Nat.le_refl _, by omega, Nat.le_refl _, HM.out, rfl, HX3.out, HO3.out, HB3.out⟩
      case round =>
        obtain ⟨p, b, v, n, rfl, rfl, hp1, hp5, hmb, hbl, hin, hx, hO, hB⟩ := hrel
        have HX := hid hx
        have HO := hid hO
        have HB := hid hB
        have HIN := hid hin
        clear hx hO hB hin HX3 HO3 HB3
        rcases (by omega : p = 1 ∨ p = 2 ∨ p = 3 ∨ p = 4 ∨ p = 5) with rfl | rfl | rfl | rfl | rfl
        · rcases pl_view 1 HL.out hbl with ⟨e, f2, h0, e1, e2, _, hf, hn, hp⟩ | ⟨k2, f2, m2, _, hfm2, hm2, hn, hb, hp⟩ | ⟨k2, f2, m2, hbf, hfm2, hm2, hn, hb, hp, hk1, hk5, htk, _⟩
          · have FIN := hid (HS.out.bad HPL.out (HIN.out.trans (inR_bad hp1 (by decide) hp h0)) h0)
            have H1 := hid (rone_bad l b e f2 HL.out h0 hn wr)
            have he0 : ¬ e = 0 := h0
            have q2 : (e == 0) = false := by rw [beq_eq_false_iff_ne]; exact h0
            clear hp hn h0
            go_wp2_with (go_at_call 17; refine H1.out.mono ?_; rintro r w4 ⟨rfl, hb2⟩; have HB4 := hid hb2; clear hb2)
            refine ret_4 2 3 4 5 rfl rfl ?_
            rw [FIN.out]
            exact ⟨_, rfl, OwnN.nil _ _, HB.out.trans (HB4.out.mono HB.out.size)⟩
          · have FIN := hid (HS.out.bad HPL.out (HIN.out.trans (inR_bad hp1 (by decide) hp (by decide))) (by decide))
            have H1 := hid (rone_ok l b k2 f2 m2 HL.out hfm2 hm2 hn wr)
            have hSl : (ttP l f2 m2).length ≤ 65536 := by unfold ttP; rw [List.length_take, List.length_drop]; have := HL.out; omega
            have H2 := hid (fun W => rfit_1 (ttP l f2 m2) W (by omega))
            rw [fit_same HL.out hbl hp1 (by decide) hn, hb] at H2
            obtain ⟨S2, HS2⟩ : ∃ S, Hid (ttP l f2 m2 = S) := ⟨_, rfl⟩
            rw [HS2.out] at H1 H2
            clear hp hn hb hSl
            go_wp2_with first
              | (go_at_call 17; refine H1.out.mono ?_; rintro r w4 ⟨rfl, hb2⟩; have HB4 := hid hb2; clear hb2)
              | (go_at_call 18; refine (H2.out _).mono ?_; rintro r w5 ⟨rfl, hb2⟩; have HB5 := hid hb2; clear hb2)
            refine ret_4 2 3 4 5 rfl rfl ?_
            rw [FIN.out]
            exact ⟨_, rfl, OwnN.nil _ _, (HB.out.trans (HB4.out.mono HB.out.size)).trans (HB5.out.mono (Nat.le_trans HB.out.size HB4.out.size))⟩
          · have NXT := hid (HIN.out.trans (inR_1 hp))
            have H1 := hid (rone_ok l b k2 f2 m2 HL.out (by omega) hm2 hn wr)
            have hSl : (ttP l f2 m2).length ≤ 65536 := by unfold ttP; rw [List.length_take, List.length_drop]; have := HL.out; omega
            have H2 := hid (fun W => rfit_1 (ttP l f2 m2) W (by omega))
            rw [fit_same HL.out hbl hp1 (by decide) hn, hb] at H2
            have hj : jsP 3 (ttP l f2 m2) = true := by
              have := fit_same HL.out hbl hp1 (by decide) hn
              rw [hb] at this
              exact this
            obtain ⟨_, _, hj4, hj2, hj0⟩ := js_text hj
            have hvt := vl_text hj
            have hv4 : (vlP (ttP l f2 m2)).length ≤ 4096 := by obtain ⟨v', j1, j2, _⟩ := js_text hj; rw [hvt] at j1; injection j1 with j1; injection j1 with j1 _; rw [j1]; exact j2
            have H3 := hid (fun W => rtext_ok (ttP l f2 m2) (vlP (ttP l f2 m2)) (by omega) hj0 hj2 hv4 hvt W)
            obtain ⟨V2, HV2⟩ : ∃ S, Hid (vlP (ttP l f2 m2) = S) := ⟨_, rfl⟩
            rw [HV2.out] at H3 NXT
            clear hj hvt hv4 hj4 hj2 hj0
            obtain ⟨S2, HS2⟩ : ∃ S, Hid (ttP l f2 m2 = S) := ⟨_, rfl⟩
            rw [HS2.out] at H1 H2 H3
            clear hp hn hb hSl
            go_wp2_with first
              | (go_at_call 17; refine H1.out.mono ?_; rintro r w4 ⟨rfl, hb2⟩; have HB4 := hid hb2; clear hb2)
              | (go_at_call 18; refine (H2.out _).mono ?_; rintro r w5 ⟨rfl, hb2⟩; have HB5 := hid hb2; clear hb2)
              | (go_at_call 19; refine (H3.out _).mono ?_; rintro r w6 ⟨rfl, hb2⟩; have HB6 := hid ((HB4.out.trans (HB5.out.mono HB4.out.size)).trans (hb2.mono (Nat.le_trans HB4.out.size HB5.out.size))); have k0 := (HB6.out.block gx (hp_lt HX.out)).trans HX.out; have HK0 := hid k0; have c0 : w6.cell? ⟨gx, 0, none⟩ = some (.string (mk v)) := (by rw [cell_of_row _ _ _ _ _ _ k0]; rfl); have z0 : w6.frozen? ⟨gx, 0, none⟩ = false := (by simp [World.frozen?, k0]); clear hb2 k0)
            have hne : ∀ q, (Value.slice sa L.length sc).ownBlock = some q → q ≠ gx := fun q hq => Nat.ne_of_lt (HAP.out q hq)
            exact ⟨⟨2, m2, V2, n, by simp, by simp, by omega, by omega, by omega, hm2, NXT.out, blk_set HK0.out _, (HO.out.below HB6.out).kept (gb_set w6 ⟨gx, 0, none⟩ _) (Or.inr (fun e => hne gx e rfl)), (HB.out.trans (HB6.out.mono HB.out.size)).setCell (p := ⟨gx, 0, none⟩) HGX.out _⟩, by simp [intOf]⟩
        · rcases pl_view 2 HL.out hbl with ⟨e, f2, h0, e1, e2, _, hf, hn, hp⟩ | ⟨k2, f2, m2, _, hfm2, hm2, hn, hb, hp⟩ | ⟨k2, f2, m2, hbf, hfm2, hm2, hn, hb, hp, hk1, hk5, htk, _⟩
          · have FIN := hid (HS.out.bad HPL.out (HIN.out.trans (inR_bad hp1 (by decide) hp h0)) h0)
            have H1 := hid (rone_bad l b e f2 HL.out h0 hn wr)
            have he0 : ¬ e = 0 := h0
            have q2 : (e == 0) = false := by rw [beq_eq_false_iff_ne]; exact h0
            clear hp hn h0
            go_wp2_with (go_at_call 17; refine H1.out.mono ?_; rintro r w4 ⟨rfl, hb2⟩; have HB4 := hid hb2; clear hb2)
            refine ret_4 2 3 4 5 rfl rfl ?_
            rw [FIN.out]
            exact ⟨_, rfl, OwnN.nil _ _, HB.out.trans (HB4.out.mono HB.out.size)⟩
          · have FIN := hid (HS.out.bad HPL.out (HIN.out.trans (inR_bad hp1 (by decide) hp (by decide))) (by decide))
            have H1 := hid (rone_ok l b k2 f2 m2 HL.out hfm2 hm2 hn wr)
            have hSl : (ttP l f2 m2).length ≤ 65536 := by unfold ttP; rw [List.length_take, List.length_drop]; have := HL.out; omega
            have H2 := hid (fun W => rfit_2 (ttP l f2 m2) W)
            rw [fit_same HL.out hbl hp1 (by decide) hn, hb] at H2
            obtain ⟨S2, HS2⟩ : ∃ S, Hid (ttP l f2 m2 = S) := ⟨_, rfl⟩
            rw [HS2.out] at H1 H2
            clear hp hn hb hSl
            go_wp2_with first
              | (go_at_call 17; refine H1.out.mono ?_; rintro r w4 ⟨rfl, hb2⟩; have HB4 := hid hb2; clear hb2)
              | (go_at_call 18; refine (H2.out _).mono ?_; rintro r w5 ⟨rfl, hb2⟩; have HB5 := hid hb2; clear hb2)
            refine ret_4 2 3 4 5 rfl rfl ?_
            rw [FIN.out]
            exact ⟨_, rfl, OwnN.nil _ _, (HB.out.trans (HB4.out.mono HB.out.size)).trans (HB5.out.mono (Nat.le_trans HB.out.size HB4.out.size))⟩
          · have NXT := hid (HIN.out.trans (inR_2 hp))
            have H1 := hid (rone_ok l b k2 f2 m2 HL.out (by omega) hm2 hn wr)
            have hSl : (ttP l f2 m2).length ≤ 65536 := by unfold ttP; rw [List.length_take, List.length_drop]; have := HL.out; omega
            have H2 := hid (fun W => rfit_2 (ttP l f2 m2) W)
            rw [fit_same HL.out hbl hp1 (by decide) hn, hb] at H2
            obtain ⟨S2, HS2⟩ : ∃ S, Hid (ttP l f2 m2 = S) := ⟨_, rfl⟩
            rw [HS2.out] at H1 H2
            clear hp hn hb hSl
            go_wp2_with first
              | (go_at_call 17; refine H1.out.mono ?_; rintro r w4 ⟨rfl, hb2⟩; have HB4 := hid hb2; clear hb2)
              | (go_at_call 18; refine (H2.out _).mono ?_; rintro r w5 ⟨rfl, hb2⟩; have HB5 := hid hb2; clear hb2)
            exact ⟨⟨3, m2, v, n, by simp, by simp, by omega, by omega, by omega, hm2, NXT.out, (HB5.out.block gx (hp_lt ((HB4.out.block gx (hp_lt HX.out)).trans HX.out))).trans ((HB4.out.block gx (hp_lt HX.out)).trans HX.out), (HO.out.below HB4.out).below HB5.out, (HB.out.trans (HB4.out.mono HB.out.size)).trans (HB5.out.mono (Nat.le_trans HB.out.size HB4.out.size))⟩, by simp [intOf]⟩
        · rcases pl_view 3 HL.out hbl with ⟨e, f2, h0, e1, e2, _, hf, hn, hp⟩ | ⟨k2, f2, m2, _, hfm2, hm2, hn, hb, hp⟩ | ⟨k2, f2, m2, hbf, hfm2, hm2, hn, hb, hp, hk1, hk5, htk, _⟩
          · have FIN := hid (HS.out.bad HPL.out (HIN.out.trans (inR_bad hp1 (by decide) hp h0)) h0)
            have H1 := hid (rone_bad l b e f2 HL.out h0 hn wr)
            have he0 : ¬ e = 0 := h0
            have q2 : (e == 0) = false := by rw [beq_eq_false_iff_ne]; exact h0
            clear hp hn h0
            go_wp2_with (go_at_call 17; refine H1.out.mono ?_; rintro r w4 ⟨rfl, hb2⟩; have HB4 := hid hb2; clear hb2)
            refine ret_4 2 3 4 5 rfl rfl ?_
            rw [FIN.out]
            exact ⟨_, rfl, OwnN.nil _ _, HB.out.trans (HB4.out.mono HB.out.size)⟩
          · have FIN := hid (HS.out.bad HPL.out (HIN.out.trans (inR_bad hp1 (by decide) hp (by decide))) (by decide))
            have H1 := hid (rone_ok l b k2 f2 m2 HL.out hfm2 hm2 hn wr)
            have hSl : (ttP l f2 m2).length ≤ 65536 := by unfold ttP; rw [List.length_take, List.length_drop]; have := HL.out; omega
            have H2 := hid (fun W => rfit_3 (ttP l f2 m2) W (by omega))
            rw [fit_same HL.out hbl hp1 (by decide) hn, hb] at H2
            obtain ⟨S2, HS2⟩ : ∃ S, Hid (ttP l f2 m2 = S) := ⟨_, rfl⟩
            rw [HS2.out] at H1 H2
            clear hp hn hb hSl
            go_wp2_with first
              | (go_at_call 17; refine H1.out.mono ?_; rintro r w4 ⟨rfl, hb2⟩; have HB4 := hid hb2; clear hb2)
              | (go_at_call 18; refine (H2.out _).mono ?_; rintro r w5 ⟨rfl, hb2⟩; have HB5 := hid hb2; clear hb2)
            refine ret_4 2 3 4 5 rfl rfl ?_
            rw [FIN.out]
            exact ⟨_, rfl, OwnN.nil _ _, (HB.out.trans (HB4.out.mono HB.out.size)).trans (HB5.out.mono (Nat.le_trans HB.out.size HB4.out.size))⟩
          · have NXT := hid (HIN.out.trans (inR_3 hp))
            have H1 := hid (rone_ok l b k2 f2 m2 HL.out (by omega) hm2 hn wr)
            have hSl : (ttP l f2 m2).length ≤ 65536 := by unfold ttP; rw [List.length_take, List.length_drop]; have := HL.out; omega
            have H2 := hid (fun W => rfit_3 (ttP l f2 m2) W (by omega))
            rw [fit_same HL.out hbl hp1 (by decide) hn, hb] at H2
            obtain ⟨S2, HS2⟩ : ∃ S, Hid (ttP l f2 m2 = S) := ⟨_, rfl⟩
            rw [HS2.out] at H1 H2 NXT
            clear hp hn hb hSl
            go_wp2_with first
              | (go_at_call 17; refine H1.out.mono ?_; rintro r w4 ⟨rfl, hb2⟩; have HB4 := hid hb2; clear hb2)
              | (go_at_call 18; refine (H2.out _).mono ?_; rintro r w6 ⟨rfl, hb2⟩; have HB6 := hid (HB4.out.trans (hb2.mono HB4.out.size)); have k0 := (HB6.out.block gx (hp_lt HX.out)).trans HX.out; have HK0 := hid k0; have c0 : w6.cell? ⟨gx, 1, none⟩ = some (.string (mk n)) := (by rw [cell_of_row _ _ _ _ _ _ k0]; rfl); have z0 : w6.frozen? ⟨gx, 1, none⟩ = false := (by simp [World.frozen?, k0]); clear hb2 k0)
            have hne : ∀ q, (Value.slice sa L.length sc).ownBlock = some q → q ≠ gx := fun q hq => Nat.ne_of_lt (HAP.out q hq)
            exact ⟨⟨4, m2, v, S2, by simp, by simp, by omega, by omega, by omega, hm2, NXT.out, blk_set HK0.out _, (HO.out.below HB6.out).kept (gb_set w6 ⟨gx, 1, none⟩ _) (Or.inr (fun e => hne gx e rfl)), (HB.out.trans (HB6.out.mono HB.out.size)).setCell (p := ⟨gx, 1, none⟩) HGX.out _⟩, by simp [intOf]⟩
        · rcases pl_view 4 HL.out hbl with ⟨e, f2, h0, e1, e2, _, hf, hn, hp⟩ | ⟨k2, f2, m2, _, hfm2, hm2, hn, hb, hp⟩ | ⟨k2, f2, m2, hbf, hfm2, hm2, hn, hb, hp, hk1, hk5, htk, _⟩
          · have FIN := hid (HS.out.bad HPL.out (HIN.out.trans (inR_bad hp1 (by decide) hp h0)) h0)
            have H1 := hid (rone_bad l b e f2 HL.out h0 hn wr)
            have he0 : ¬ e = 0 := h0
            have q2 : (e == 0) = false := by rw [beq_eq_false_iff_ne]; exact h0
            clear hp hn h0
            go_wp2_with (go_at_call 17; refine H1.out.mono ?_; rintro r w4 ⟨rfl, hb2⟩; have HB4 := hid hb2; clear hb2)
            refine ret_4 2 3 4 5 rfl rfl ?_
            rw [FIN.out]
            exact ⟨_, rfl, OwnN.nil _ _, HB.out.trans (HB4.out.mono HB.out.size)⟩
          · have FIN := hid (HS.out.bad HPL.out (HIN.out.trans (inR_bad hp1 (by decide) hp (by decide))) (by decide))
            have H1 := hid (rone_ok l b k2 f2 m2 HL.out hfm2 hm2 hn wr)
            have hSl : (ttP l f2 m2).length ≤ 65536 := by unfold ttP; rw [List.length_take, List.length_drop]; have := HL.out; omega
            have H2 := hid (fun W => rfit_4 (ttP l f2 m2) W)
            rw [fit_same HL.out hbl hp1 (by decide) hn, hb] at H2
            obtain ⟨S2, HS2⟩ : ∃ S, Hid (ttP l f2 m2 = S) := ⟨_, rfl⟩
            rw [HS2.out] at H1 H2
            clear hp hn hb hSl
            go_wp2_with first
              | (go_at_call 17; refine H1.out.mono ?_; rintro r w4 ⟨rfl, hb2⟩; have HB4 := hid hb2; clear hb2)
              | (go_at_call 18; refine (H2.out _).mono ?_; rintro r w5 ⟨rfl, hb2⟩; have HB5 := hid hb2; clear hb2)
            refine ret_4 2 3 4 5 rfl rfl ?_
            rw [FIN.out]
            exact ⟨_, rfl, OwnN.nil _ _, (HB.out.trans (HB4.out.mono HB.out.size)).trans (HB5.out.mono (Nat.le_trans HB.out.size HB4.out.size))⟩
          · have NXT := hid (HIN.out.trans (inR_4 hp))
            have H1 := hid (rone_ok l b k2 f2 m2 HL.out (by omega) hm2 hn wr)
            have hSl : (ttP l f2 m2).length ≤ 65536 := by unfold ttP; rw [List.length_take, List.length_drop]; have := HL.out; omega
            have H2 := hid (fun W => rfit_4 (ttP l f2 m2) W)
            rw [fit_same HL.out hbl hp1 (by decide) hn, hb] at H2
            obtain ⟨S2, HS2⟩ : ∃ S, Hid (ttP l f2 m2 = S) := ⟨_, rfl⟩
            rw [HS2.out] at H1 H2
            clear hp hn hb hSl
            go_wp2_with first
              | (go_at_call 17; refine H1.out.mono ?_; rintro r w4 ⟨rfl, hb2⟩; have HB4 := hid hb2; clear hb2)
              | (go_at_call 18; refine (H2.out _).mono ?_; rintro r w5 ⟨rfl, hb2⟩; have HB5 := hid hb2; clear hb2)
            exact ⟨⟨5, m2, v, n, by simp, by simp, by omega, by omega, by omega, hm2, NXT.out, (HB5.out.block gx (hp_lt ((HB4.out.block gx (hp_lt HX.out)).trans HX.out))).trans ((HB4.out.block gx (hp_lt HX.out)).trans HX.out), (HO.out.below HB4.out).below HB5.out, (HB.out.trans (HB4.out.mono HB.out.size)).trans (HB5.out.mono (Nat.le_trans HB.out.size HB4.out.size))⟩, by simp [intOf]⟩
        · have NXT := hid (HS.out.more HL.out (tz := b) (by omega) hbl HPL.out (HIN.out.trans rfl))
          have c0 : wr.cell? ⟨gx, 0, none⟩ = some (.string (mk v)) := by rw [cell_of_row _ _ _ _ _ _ HX.out]; rfl
          have c1 : wr.cell? ⟨gx, 1, none⟩ = some (.string (mk n)) := by rw [cell_of_row _ _ _ _ _ _ HX.out]; rfl
          have c2 : wr.cell? ⟨gx, 2, none⟩ = some (.int .i64 (f : Int)) := by rw [cell_of_row _ _ _ _ _ _ HX.out]; rfl
          go_wp2_with (refine app_inc (by rfl) (.tmp 76) (.tmp 78) (by rfl) w.heap.size _ (toI L) (by rfl) (HO.out.below (below_walk _ _)) wr.heap.size 1 [(v, n, (f : Int))] (by rfl) (src_inc wr (v, n, (f : Int))) (by rw [toI_len]; have := HS.out.2.1; have := HS.out.1; have := HL.out; simp; omega) (by rw [hp_size]; have := HB.out.size; omega) ?_
                       intro v' w4 ho4 hg4
                       have HO4 := hid ho4
                       have HB4 := hid ((HB.out.alloc HB.out.size (.cells #[.string (mk v), .string (mk n), .int .i64 (f : Int)] 25)).grown hg4 (by rw [hp_size]; have := HB.out.size; omega) (fun q hq => (HO.out.lt q hq).1))
                       clear ho4 hg4)
          exact ⟨⟨b, L ++ [(v, n, f)], by simp, NXT.out, by rw [toI_app]; exact HO4.out, HB4.out⟩, by simp [intOf]; omega⟩

theorem rincls_any (l : List UInt8) (w : World) :
    Calls Tryz.prog 6 #[.string (mk l)] w fun r w' => ∃ v, r = .returned (.tuple #[v, .int .i64 ((isP l).2.1 : Nat), .int .i64 (isP l).2.2.1, .int .i64 ((isP l).2.2.2 : Nat)]) ∧ OwnN w' w.heap.size v (toI (isP l).1) ∧ Below w.heap.size w w' := by
  unfold isP
  by_cases hl : 65536 < l.length
  · rw [if_pos hl]; exact rincls_long l hl w
  · rw [if_neg hl]; exact rincls_ok l (by omega) w

end Go.Proofs.YtlpengaclkidiaaGreatDoor

/- ScanFinds answers true. -/
namespace Go.Proofs.YtlpengaclkidiaaGreatDoor
open Go.RowKit

theorem sc_names {l : List UInt8} (hl : l.length ≤ 65536) : ∀ (n a : Nat), a ≤ l.length → l.length - a = n → ∀ x ∈ (scP l a).1, x.2.1.length ≤ 65536 ∧ jsP 1 x.2.1 = true ∧ x.1.length ≤ 4096 := by
  intro n
  induction n using Nat.strongRecOn with
  | _ n ih =>
    intro a ha hn
    rcases sc_view hl ha with ⟨t, e, h0, hp⟩ | ⟨k, f, x, _, _, _, hp, e, g, h0, _, hi⟩ | ⟨k, f, x, v, s, t2, h1, h2, h3, h4, hp, hi⟩
    · rw [sc_end hp h0]; intro x hx; cases hx
    · rw [sc_bad hp hi h0]; intro x hx; cases hx
    · rw [sc_step hl (by omega) (by omega) hp hi]
      have ih2 := ih (l.length - t2) (by omega) t2 h4 rfl
      unfold jnP
      split
      · intro x hx; cases hx
      · intro y hy
        rcases List.mem_append.1 hy with hy | hy
        · rw [List.mem_singleton] at hy
          subst hy
          rcases in_view hl (a := x) (by omega) with ⟨e, g, h0, hg, hi2⟩ | ⟨f1, m1, k2, f2, m2, f3, m3, k4, f4, m4, i1, i2, i3, i4, i5, i6, i7, i8, i9, p1, p2, p3, p4, j3, j1, hi2⟩
          · rw [hi] at hi2
            simp only [Prod.mk.injEq] at hi2
            exact absurd hi2.1.symm h0
          · rw [hi] at hi2
            simp only [Prod.mk.injEq, true_and] at hi2
            obtain ⟨rfl, rfl, rfl⟩ := hi2
            refine ⟨?_, j1, ?_⟩
            · show (ttP l f3 m3).length ≤ 65536
              unfold ttP; rw [List.length_take, List.length_drop]; omega
            · obtain ⟨v', q1, q2, _⟩ := js_text j3
              have := vl_text j3
              rw [q1] at this
              injection this with this
              injection this with this _
              rw [← this]; exact q2
        · exact ih2 y hy
theorem is_names (l : List UInt8) : ∀ x ∈ toI (isP l).1, x.2.1.length ≤ 65536 ∧ jsP 1 x.2.1 = true ∧ x.1.length ≤ 4096 := by
  intro x hx
  unfold toI at hx
  rw [List.mem_map] at hx
  obtain ⟨y, hy, rfl⟩ := hx
  unfold isP at hy
  by_cases hl : 65536 < l.length
  · rw [if_pos hl] at hy; cases hy
  · rw [if_neg hl] at hy
    exact sc_names (by omega) _ 0 (Nat.zero_le _) rfl y hy
theorem is_many (l : List UInt8) : (isP l).1.length ≤ 65536 := by
  rcases is_last l with ⟨h, _⟩ | ⟨_, h, _⟩
  · rw [h]; simp
  · exact h

end Go.Proofs.YtlpengaclkidiaaGreatDoor

/- LexBack: values survive the way to text and back. -/
namespace Go.Proofs.YtlpengaclkidiaaGreatDoor
open Go.RowKit

theorem hx_hex : ∀ q : Fin 16, hxN (hexQ q.val) = q.val := by decide +kernel
theorem pc_qp (c : UInt8) (r : List UInt8) : pcP (qpP c ++ r) = (c, (qpP c).length) ∧ ¬ (qpP c ++ r).getD 0 0 = 34 := by
  unfold qpP
  split
  · rename_i h; subst h
    exact ⟨by unfold pcP; simp, by simp⟩
  · split
    · rename_i h; subst h
      exact ⟨by unfold pcP; simp, by simp⟩
    · split
      · rename_i h1 h2 h
        rcases h with rfl | rfl
        · exact ⟨by unfold pcP; simp, by simp⟩
        · exact ⟨by unfold pcP; simp, by simp⟩
      · split
        · rename_i h1 h2 h3 h4
          refine ⟨pc_plain (by simp) (by simp) h4, ?_⟩
          simp only [List.singleton_append, List.getD_cons_zero]
          exact fun e => h3 (Or.inl e)
        · refine ⟨?_, by simp⟩
          have hc := c.toNat_lt
          have e1 := hx_hex ⟨c.toNat / 16, by omega⟩
          have e2 := hx_hex ⟨c.toNat % 16, by omega⟩
          simp only at e1 e2
          rw [pc_coded (by simp) (by simp) (by simp)]
          unfold cdQ
          simp only [List.cons_append, List.nil_append, List.getD_cons_succ, List.getD_cons_zero]
          rw [e1, e2, if_pos ⟨by omega, by omega⟩]
          have : UInt8.ofNat (16 * (c.toNat / 16) + c.toNat % 16) = c := by
            rw [show 16 * (c.toNat / 16) + c.toNat % 16 = c.toNat by omega]
            simp
          rw [this]
          rfl
theorem qp_pos (c : UInt8) : (qpP c).length ≠ 0 := by
  unfold qpP
  repeat' split
  all_goals simp
theorem tx_flat (v r : List UInt8) : txP (v.flatMap qpP ++ 34 :: r) = some (v, (v.flatMap qpP).length + 1) := by
  induction v with
  | nil => exact txP_quote rfl
  | cons c t ih =>
    rw [List.flatMap_cons, List.append_assoc]
    obtain ⟨h1, h2⟩ := pc_qp c (t.flatMap qpP ++ 34 :: r)
    rw [txP_step h2 (by rw [h1]; exact qp_pos c), h1, List.drop_left, ih]
    simp only [Option.map_some, List.length_append, Nat.add_assoc]
theorem qu_len (v : List UInt8) : (quP v).length = (v.flatMap qpP).length + 2 := by
  show (34 :: (v.flatMap qpP ++ [34])).length = _
  rw [List.length_cons, List.length_append]
  rfl
theorem js_quote {v : List UInt8} (hv : v.length ≤ 4096) : jsP 3 (quP v) = true ∧ txP ((quP v).drop 1) = some (v, (quP v).length - 1) := by
  have h1 : (quP v).drop 1 = v.flatMap qpP ++ 34 :: [] := rfl
  have h2 := tx_flat v []
  have hl := qu_len v
  refine ⟨?_, by rw [h1, h2, hl]; rfl⟩
  unfold jsP
  rw [decide_eq_true_eq]
  unfold tokP
  rw [if_neg (by omega), show (quP v).getD 0 0 = 34 from rfl, if_neg (by decide), if_neg (by decide), if_pos rfl]
  unfold tqP
  rw [h1, h2]
  simp only
  rw [if_pos hv, hl]
theorem qp_least {l : List UInt8} {c : UInt8} {k : Nat} (h : pcP l = (c, k)) (hk : k ≠ 0) : (qpP c).length ≤ k := by
  unfold pcP at h
  split at h
  · simp only [Prod.mk.injEq] at h; omega
  · split at h
    · split at h
      · rename_i hp
        simp only [Prod.mk.injEq] at h
        obtain ⟨h1, h2⟩ := h
        rw [h1] at hp
        have hq : qpP c = [c] := by
          unfold qpP
          have a1 : ¬ c = 10 := by rintro rfl; revert hp; decide
          have a2 : ¬ c = 9 := by rintro rfl; revert hp; decide
          have a3 : ¬ (c = 34 ∨ c = 92) := by rintro (rfl | rfl) <;> (revert hp; decide)
          rw [if_neg a1, if_neg a2, if_neg a3, if_pos hp]
        rw [hq, ← h2]
        simp
      · simp only [Prod.mk.injEq] at h; omega
    · split at h
      · simp only [Prod.mk.injEq] at h; omega
      · split at h
        · simp only [Prod.mk.injEq] at h; rw [← h.1, ← h.2]; decide
        · split at h
          · simp only [Prod.mk.injEq] at h; rw [← h.1, ← h.2]; decide
          · split at h
            · rename_i hq
              simp only [Prod.mk.injEq] at h
              rw [h.1] at hq
              rw [← h.2]
              rcases hq with rfl | rfl <;> decide
            · split at h
              · simp only [Prod.mk.injEq] at h
                rw [← h.2]; exact qp_len c
              · simp only [Prod.mk.injEq] at h; omega
theorem tx_least {l v : List UInt8} {m : Nat} (h : txP l = some (v, m)) : (v.flatMap qpP).length + 1 ≤ m := by
  induction hn : l.length using Nat.strongRecOn generalizing l v m with
  | _ n ih =>
    by_cases hq : l.getD 0 0 = 34
    · rw [txP_quote hq] at h
      injection h with h; injection h with h1 h2
      rw [← h1, ← h2]; simp
    · by_cases hp : (pcP l).2 = 0
      · rw [txP_bad hq hp] at h; cases h
      · rw [txP_step hq hp] at h
        cases e : txP (l.drop (pcP l).2) with
        | none => rw [e] at h; cases h
        | some r =>
          rw [e] at h
          injection h with h; injection h with h1 h2
          have hle := pcP_le l
          have i := ih (l.drop (pcP l).2).length (by rw [List.length_drop]; omega) (v := r.1) e rfl
          have j := qp_least (c := (pcP l).1) (k := (pcP l).2) rfl hp
          rw [← h1, ← h2, List.flatMap_cons, List.length_append]
          omega

end Go.Proofs.YtlpengaclkidiaaGreatDoor

/- Includes are written; other includes in a text's place: what With answers. -/
namespace Go.Proofs.YtlpengaclkidiaaGreatDoor
open Go.RowKit

def wl1 : List UInt8 := [105, 110, 99, 108, 117, 100, 101, 32]
def wl2 : List UInt8 := [32, 97, 115, 32]
def wl3 : List UInt8 := [59, 10]
/-- an include's line -/
def wlP (x : List UInt8 × List UInt8 × Int) : List UInt8 := wl1 ++ quP x.1 ++ wl2 ++ x.2.1 ++ wl3
/-- an include that may be -/
def okI (x : List UInt8 × List UInt8 × Int) : Bool := decide (x.1.length ≤ 4096) && jsP 1 x.2.1
theorem okI_len {x : List UInt8 × List UInt8 × Int} (h : okI x = true) : x.1.length ≤ 4096 ∧ x.2.1.length ≤ 32 ∧ jsP 1 x.2.1 = true := by
  unfold okI at h
  rw [Bool.and_eq_true] at h
  have hn := ((js_word x.2.1).1.1 h.2).1
  obtain ⟨_, h2, _⟩ := of_decide_eq_true hn
  exact ⟨of_decide_eq_true h.1, h2, h.2⟩
theorem wl_len {x : List UInt8 × List UInt8 × Int} (h : okI x = true) : (wlP x).length ≤ 17000 ∧ 14 ≤ (wlP x).length := by
  obtain ⟨h1, h2, h3⟩ := okI_len h
  have hf := flat_len x.1
  unfold wlP
  simp only [List.length_append, qu_len]
  have e1 : wl1.length = 8 := rfl
  have e2 : wl2.length = 4 := rfl
  have e3 : wl3.length = 2 := rfl
  omega
/-- what With answers -/
def wiP (l : List UInt8) (L : List (List UInt8 × List UInt8 × Int)) : List UInt8 × Int :=
  if (isP l).2.2.1 ≠ 0 then ([], (isP l).2.2.1)
  else if L.all okI = false then ([], 1)
  else if 65536 < (L.flatMap wlP ++ l.drop (isP l).2.1).length then ([], 3)
  else (L.flatMap wlP ++ l.drop (isP l).2.1, 0)

/-- blocks of other things stay -/
def Oth (w w' : World) (b : Nat) : Prop := ∀ k cs T z, T ≠ 5 → k ≠ b → w.heap[k]? = some (.cells cs T z) → w'.heap[k]? = some (.cells cs T z)
theorem Oth.trans {w w' w'' : World} {b : Nat} (h : Oth w w' b) (h' : Oth w' w'' b) : Oth w w'' b := fun k cs T z h1 h2 h3 => h' k cs T z h1 h2 (h k cs T z h1 h2 h3)
theorem Oth.of {w w' : World} {b : Nat} (h : Below w.heap.size w w') : Oth w w' b := fun k _ _ _ _ _ h3 => (h.block k (hp_lt h3)).trans h3
theorem cc_oth (B b : Nat) (bs : List UInt8) (w : World) (h : Bq w B b bs) :
    Calls Tryz.prog 45 #[.pointer (some ⟨b, 0, none⟩)] w fun e w' => e = .returned (.tuple #[]) ∧ Lib.BuilderAt 60 5 B b (.pointer (some ⟨b, 0, none⟩)) (bytesV bs) w' ∧ Below B w w' ∧ Oth w w' b := by
  rcases h with h | h
  · refine (cc_fresh b w h.cell0 h.shape h.frozen0).mono ?_
    rintro e w' ⟨rfl, rfl⟩
    exact ⟨rfl, h.used _, (Below.refl B w).setCell (p := ⟨b, 0, none⟩) h.1 _, fun k _ _ _ _ h2 h3 => (hp_set w k b 0 _ h2).trans h3⟩
  · refine (cc_used b w h.cell0).mono ?_
    rintro e w' ⟨rfl, rfl⟩
    exact ⟨rfl, h, Below.refl B _, fun _ _ _ _ _ _ h3 => h3⟩
theorem oth_app {w w1 w2 : World} {B b : Nat} {v : Value} {bs : List UInt8} (h : Oth w w1 b) (ho : OwnB w1 B v bs) (hg : w1.grownBy w2 v.ownBlock) (u : Value) : Oth w (w2.setCell ⟨b, 1, none⟩ u) b := fun k cs T z h1 h2 h3 => by
  have h4 := h k cs T z h1 h2 h3
  refine (hp_set w2 k b 1 u h2).trans ((hg.block k (hp_lt h4) (fun e => ?_)).trans h4)
  rcases ho.2 with ⟨rfl, _⟩ | ⟨g, cap, cur, rfl, _, h5, _⟩
  · cases e
  · obtain rfl : k = g := by simpa [Value.ownBlock] using e
    rw [h4] at h5
    injection h5 with h5
    injection h5 with _ h5 _
    exact h1 h5

set_option maxHeartbeats 2000000 in
set_option maxRecDepth 100000 in
theorem wstr_big (B b : Nat) (bs cs : List UInt8) (w : World) (h : Bq w B b bs) (hlen : bs.length ≤ 1000000) (hcl : cs.length ≤ 1000000) (hBw : B ≤ w.heap.size) :
    Calls Tryz.prog 26 #[.pointer (some ⟨b, 0, none⟩), .string (mk cs)] w fun e w' => e = .returned (.tuple #[.int .i64 (cs.length : Nat), .nilIface]) ∧ Bq w' B b (bs ++ cs) ∧ Below B w w' ∧ Oth w w' b := by
  have hsz := mk_size cs
  have H1 := hid (cc_oth B b bs w h)
  clear h
  go_enter Tryz.func26, Tryz.ntmps26
  go_wp2_with first
    | (go_at_call 45; refine H1.out.mono ?_; clear H1; rintro e w1 ⟨rfl, hbu, hb1, ho1⟩
       have HOT := hid ho1
       clear ho1
       obtain ⟨hB, v, hbk, hown, hne⟩ := hbu
       rw [bytesV_length] at hown
       have HO : Hid (OwnB w1 B v bs) := hown
       obtain ⟨sa, sc, rfl⟩ := HO.out.shape
       have HBK := hid hbk
       have HNE := hid hne
       have HB1 := hid hb1
       have hblt : b < w1.heap.size := hp_lt hbk
       have c0 : w1.cell? ⟨b, 0, none⟩ = some (.pointer (some ⟨b, 0, none⟩)) := by rw [cell_of_row _ _ _ _ _ _ hbk]; rfl
       have c1 : w1.cell? ⟨b, 1, none⟩ = some (.slice sa bs.length sc) := by rw [cell_of_row _ _ _ _ _ _ hbk]; rfl
       clear hbk hown hne hb1)
    | (refine app_str (by rfl) (.tmp 12) (.tmp 13) (by rfl) B _ bs (by rfl) HO.out (mk cs) (by rfl) (by rw [mk_size]; omega) (by have := HB1.out.size; omega) ?_
       intro v' w2 ho hg
       have ho : OwnB w2 B v' (bs ++ cs) := ho
       obtain ⟨sa2, sc2, hv2⟩ := ho.shape
       rw [show (bs ++ cs).length = bs.length + cs.length by simp] at hv2
       subst hv2
       have hp := bq_put hB HBK.out HNE.out hg ho
       have HQ := hid hp.2
       have hbg : Below B w w2 := HB1.out.grown hg (by have := HB1.out.size; omega) (fun q hq => (HO.out.lt q hq).1)
       have HOG := hid (oth_app HOT.out HO.out hg (.slice sa2 (bs.length + cs.length) sc2))
       have HBG := hid (hbg.setCell (p := ⟨b, 1, none⟩) hB (.slice sa2 (bs.length + cs.length) sc2))
       have d0 : w2.cell? ⟨b, 0, none⟩ = some (.pointer (some ⟨b, 0, none⟩)) := by rw [cell_of_row _ _ _ _ _ _ hp.1]; rfl
       have d1 : w2.cell? ⟨b, 1, none⟩ = some (.slice sa bs.length sc) := by rw [cell_of_row _ _ _ _ _ _ hp.1]; rfl
       have fz : w2.frozen? ⟨b, 1, none⟩ = false := by simp [World.frozen?, hp.1]
       clear hp ho hg hbg)
  go_ret2
  exact ⟨rfl, HQ.out, HBG.out, HOG.out⟩

theorem Bq.below {w w' : World} {B b : Nat} {bs : List UInt8} (h : Bq w B b bs) (hb : Below w.heap.size w w') : Bq w' B b bs := by
  rcases h with ⟨hB, v, h1, h2, h3⟩ | ⟨hB, v, h1, h2, h3⟩
  · exact Or.inl ⟨hB, v, (hb.block b (hp_lt h1)).trans h1, World.ownsRow.kept h2 (below_gb hb none) (by cases e : v.ownBlock <;> simp), h3⟩
  · exact Or.inr ⟨hB, v, (hb.block b (hp_lt h1)).trans h1, World.ownsRow.kept h2 (below_gb hb none) (by cases e : v.ownBlock <;> simp), h3⟩
theorem Bq.c1 {w : World} {B b : Nat} {bs : List UInt8} (h : Bq w B b bs) : ∃ sa sc, w.cell? ⟨b, 1, none⟩ = some (.slice sa bs.length sc) := by
  have key : ∀ (p v : Value), w.heap[b]? = some (.cells #[p, v] 60 (0, 0)) → w.ownsRow B 5 1 v (bytesV bs).length (bytesV bs) → ∃ sa sc, w.cell? ⟨b, 1, none⟩ = some (.slice sa bs.length sc) := fun p v h1 h2 => by
    rw [bytesV_length] at h2
    obtain ⟨sa, sc, rfl⟩ := OwnB.shape (show OwnB w B v bs from h2)
    exact ⟨sa, sc, by rw [cell_of_row _ _ _ _ _ _ h1]; rfl⟩
  rcases h with ⟨hB, v, h1, h2, h3⟩ | ⟨hB, v, h1, h2, h3⟩
  · exact key _ v h1 h2
  · exact key _ v h1 h2
theorem Bq.lo {w : World} {B b : Nat} {bs : List UInt8} (h : Bq w B b bs) : B ≤ b ∧ b < w.heap.size := by
  rcases h with ⟨hB, v, h1, h2, h3⟩ | ⟨hB, v, h1, h2, h3⟩
  · exact ⟨hB, hp_lt h1⟩
  · exact ⟨hB, hp_lt h1⟩

set_option maxRecDepth 20000 in
theorem blen_any (B b : Nat) (bs : List UInt8) (w : World) (h : Bq w B b bs) :
    Calls Tryz.prog 25 #[.pointer (some ⟨b, 0, none⟩)] w fun e w' => e = .returned (.int .i64 (bs.length : Int)) ∧ w' = w := by
  obtain ⟨sa, sc, c1⟩ := h.c1
  have hb := h.lo.2
  clear h
  go_enter Tryz.func25, Tryz.ntmps25
  go_wp2
  go_ret
  exact ⟨rfl, rfl⟩

set_option maxRecDepth 20000 in
set_option maxHeartbeats 1000000 in
theorem maybe_any (x : List UInt8 × List UInt8 × Int) (h1 : x.1.length ≤ 140737488355328) (h2 : x.2.1.length ≤ 140737488355328) (w : World) (hT : Tabs w) :
    Calls Tryz.prog 23 #[.agg #[.string (mk x.1), .string (mk x.2.1), .int .i64 x.2.2]] w fun e w' => e = .returned (.bool (okI x)) ∧ Below w.heap.size w w' := by
  obtain ⟨p, n, t⟩ := x
  show Calls _ _ _ _ fun e w' => e = .returned (.bool (decide (p.length ≤ 4096) && jsP 1 n)) ∧ Below w.heap.size w w'
  have hmk := mk_size p
  have HB := hid (below_walk w (.cells #[.string (mk p), .string (mk n), .int .i64 t] 25))
  have HW := hid (word_is n h2 _ (hT.below HB.out))
  have hf := hp_new w (.cells #[.string (mk p), .string (mk n), .int .i64 t] 25)
  have c0 : (w.alloc (.cells #[.string (mk p), .string (mk n), .int .i64 t] 25)).cell? ⟨w.heap.size, 0, none⟩ = some (.string (mk p)) := by rw [cell_of_row _ _ _ _ _ _ hf]; rfl
  have c1 : (w.alloc (.cells #[.string (mk p), .string (mk n), .int .i64 t] 25)).cell? ⟨w.heap.size, 1, none⟩ = some (.string (mk n)) := by rw [cell_of_row _ _ _ _ _ _ hf]; rfl
  clear hf hT h2
  by_cases hq : p.length ≤ 4096
  · have q1 : (p.length : Int) ≤ 4096 := by omega
    rw [decide_eq_true hq, Bool.true_and]
    obtain ⟨j, HJ⟩ : ∃ j, Hid (jsP 1 n = j) := ⟨_, rfl⟩
    rw [HJ.out] at HW
    rw [HJ.out]
    go_enter Tryz.func23, Tryz.ntmps23
    go_upto_region 1 with (refine bx_row (by rfl) 25 (.tmp 0) (by rfl) _ (by rfl) ?_)
    generalize w.alloc (.cells #[.string (mk p), .string (mk n), .int .i64 t] 25) = w1 at *
    go_wp2_with (go_at_call 43; refine HW.out.mono ?_; rintro e w' ⟨rfl, m, rfl⟩)
    go_ret
    exact ⟨rfl, below_drewN HB.out _⟩
  · have q1 : ¬ (p.length : Int) ≤ 4096 := by omega
    rw [decide_eq_false hq, Bool.false_and]
    go_enter Tryz.func23, Tryz.ntmps23
    go_upto_region 1 with (refine bx_row (by rfl) 25 (.tmp 0) (by rfl) _ (by rfl) ?_)
    generalize w.alloc (.cells #[.string (mk p), .string (mk n), .int .i64 t] 25) = w1 at *
    go_wp2
    go_ret
    exact ⟨rfl, HB.out⟩

set_option maxRecDepth 20000 in
set_option maxHeartbeats 2000000 in
theorem wrinc_any (B b : Nat) (bs : List UInt8) (x : List UInt8 × List UInt8 × Int) (hx : okI x = true) (w : World) (h : Bq w B b bs) (hlen : bs.length ≤ 100000) (hBw : B ≤ w.heap.size) :
    Calls Tryz.prog 24 #[.pointer (some ⟨b, 0, none⟩), .agg #[.string (mk x.1), .string (mk x.2.1), .int .i64 x.2.2]] w fun e w' => e = .returned (.tuple #[]) ∧ Bq w' B b (bs ++ wlP x) ∧ Below B w w' ∧ Oth w w' b := by
  obtain ⟨hp, hn, _⟩ := okI_len hx
  obtain ⟨p, n, t⟩ := x
  simp only at hp hn ⊢
  have hfl := flat_len p
  have hql := qu_len p
  have HB := hid (below_walk w (.cells #[.string (mk p), .string (mk n), .int .i64 t] 25))
  have HQ1 := hid (h.below HB.out)
  have HK1 := hid (hp_new w (.cells #[.string (mk p), .string (mk n), .int .i64 t] 25))
  have HQU := hid (quote_any p hp)
  have e1 : wl1.length = 8 := rfl
  have e2 : wl2.length = 4 := rfl
  have e3 : wl3.length = 2 := rfl
  obtain ⟨Q, HQE⟩ : ∃ q, Hid (quP p = q) := ⟨_, rfl⟩
  rw [HQE.out] at hql HQU
  have hQ : Q.length ≤ 17000 := by omega
  have hsz := hp_size w (.cells #[.string (mk p), .string (mk n), .int .i64 t] 25)
  have W1 := hid (fun W hW hs => wstr_big B b bs wl1 W hW (by omega) (by omega) hs)
  have W2 := hid (fun W hW hs => wstr_big B b (bs ++ wl1) Q W hW (by rw [List.length_append]; omega) (by omega) hs)
  have W3 := hid (fun W hW hs => wstr_big B b (bs ++ wl1 ++ Q) wl2 W hW (by rw [List.length_append, List.length_append]; omega) (by omega) hs)
  have W4 := hid (fun W hW hs => wstr_big B b (bs ++ wl1 ++ Q ++ wl2) n W hW (by rw [List.length_append, List.length_append, List.length_append]; omega) (by omega) hs)
  have W5 := hid (fun W hW hs => wstr_big B b (bs ++ wl1 ++ Q ++ wl2 ++ n) wl3 W hW (by rw [List.length_append, List.length_append, List.length_append, List.length_append]; omega) (by omega) hs)
  have HLO := hid h.lo
  have k1 := cell_of_row _ _ 1 _ _ _ HK1.out
  clear h hfl
  go_enter Tryz.func24, Tryz.ntmps24
  go_upto_region 1 with (refine bx_row (by rfl) 25 (.tmp 1) (by rfl) _ (by rfl) ?_)
  have c0 : (w.alloc (.cells #[.string (mk p), .string (mk n), .int .i64 t] 25)).cell? ⟨w.heap.size, 0, none⟩ = some (.string (mk p)) := by rw [cell_of_row _ _ _ _ _ _ HK1.out]; rfl
  clear k1
  generalize w.alloc (.cells #[.string (mk p), .string (mk n), .int .i64 t] 25) = w1 at *
  go_upto_region 2 with (go_at_call 44; refine (HQU.out _).mono ?_; rintro r w2 ⟨rfl, hb⟩; have HB2 := hid hb; clear hb)
  have HQ2 := hid (HQ1.out.below HB2.out)
  have HS2 := hid (show B ≤ w2.heap.size by have := HB2.out.size; omega)
  go_upto_region 3 with (go_at_call 26; refine (W1.out _ HQ2.out HS2.out).mono ?_; rintro r w3 ⟨rfl, hq, hb, ho⟩; have HQ3 := hid hq; have HB3 := hid hb; have HO3 := hid ho; clear hq hb ho)
  go_upto_region 4 with (go_at_call 26; refine (W2.out _ HQ3.out (Nat.le_trans HS2.out HB3.out.size)).mono ?_; rintro r w4 ⟨rfl, hq, hb, ho⟩; have HQ4 := hid hq; have HB4 := hid (HB3.out.trans hb); have HO4 := hid (HO3.out.trans ho); clear hq hb ho)
  go_upto_region 5 with (go_at_call 26; refine (W3.out _ HQ4.out (Nat.le_trans HS2.out HB4.out.size)).mono ?_; rintro r w5 ⟨rfl, hq, hb, ho⟩; have HQ5 := hid hq; have HB5 := hid (HB4.out.trans hb); have HO5 := hid (HO4.out.trans ho); clear hq hb ho)
  have k5 := HO5.out _ _ _ _ (by decide) (by have := HLO.out.2; omega) ((HB2.out.block _ (hp_lt HK1.out)).trans HK1.out)
  have c5 : w5.cell? ⟨w.heap.size, 1, none⟩ = some (.string (mk n)) := by rw [cell_of_row _ _ _ _ _ _ k5]; rfl
  clear k5
  go_upto_region 6 with (go_at_call 26; refine (W4.out _ HQ5.out (Nat.le_trans HS2.out HB5.out.size)).mono ?_; rintro r w6 ⟨rfl, hq, hb, ho⟩; have HQ6 := hid hq; have HB6 := hid (HB5.out.trans hb); have HO6 := hid (HO5.out.trans ho); clear hq hb ho)
  go_wp2_with (go_at_call 26; refine (W5.out _ HQ6.out (Nat.le_trans HS2.out HB6.out.size)).mono ?_; rintro r w7 ⟨rfl, hq, hb, ho⟩)
  go_end0
  refine ⟨rfl, ?_, ((HB.out.mono hBw).trans (HB2.out.mono (by omega))).trans (HB6.out.trans hb), ((Oth.of HB.out).trans (Oth.of HB2.out)).trans (HO6.out.trans ho)⟩
  have e : bs ++ wlP (p, n, t) = bs ++ wl1 ++ Q ++ wl2 ++ n ++ wl3 := by
    unfold wlP
    simp only [HQE.out, List.append_assoc]
  rw [e]
  exact hq

end Go.Proofs.YtlpengaclkidiaaGreatDoor

/- The program's With. -/
namespace Go.Proofs.YtlpengaclkidiaaGreatDoor
open Go.RowKit

theorem OwnN.oth {w w' : World} {base b : Nat} {v : Value} {L : List (List UInt8 × List UInt8 × Int)} (h : OwnN w base v L) (ho : Oth w w' b) (hb : ∀ k, v.ownBlock = some k → k ≠ b) : OwnN w' base v L := by
  obtain ⟨h0, h1 | ⟨g, cap, cur, hv, hB, hh, r⟩⟩ := h
  · exact ⟨h0, Or.inl h1⟩
  · exact ⟨h0, Or.inr ⟨g, cap, cur, hv, hB, ho g cur _ _ (by decide) (hb g (by rw [hv]; rfl)) hh, r⟩⟩
theorem is_short {l : List UInt8} (h : (isP l).2.2.1 = 0) : l.length ≤ 65536 := by
  unfold isP at h
  by_cases hl : 65536 < l.length
  · rw [if_pos hl] at h; simp at h
  · omega
theorem is_to (l : List UInt8) : (isP l).2.1 ≤ l.length := by
  rcases is_last l with ⟨_, h⟩ | ⟨_, _, L', x, _, k, m, _, _, h, _⟩
  · omega
  · exact h

set_option maxRecDepth 20000 in
set_option maxHeartbeats 1000000 in
theorem with_err (l : List UInt8) (v : Value) (w : World) (hT : Tabs w) (he : (isP l).2.2.1 ≠ 0) :
    Calls Tryz.prog 10 #[.string (mk l), v] w fun r w' => r = .returned (.tuple #[.string ⟨#[]⟩, .int .i64 (isP l).2.2.1]) ∧ Below w.heap.size w w' := by
  have HI := hid (incls_any l w hT)
  obtain ⟨e, HE1⟩ : ∃ e, Hid ((isP l).2.2.1 = e) := ⟨_, rfl⟩
  obtain ⟨g, HE2⟩ : ∃ e, Hid ((isP l).2.2.2 = e) := ⟨_, rfl⟩
  obtain ⟨L0, HE4⟩ : ∃ e, Hid ((isP l).1 = e) := ⟨_, rfl⟩
  rw [HE1.out, HE2.out, HE4.out] at HI
  rw [HE1.out] at he
  rw [HE1.out]
  have he0 : ¬ e = 0 := he
  clear hT he
  go_enter Tryz.func10, Tryz.ntmps10
  go_upto_region 3 with (go_at_call 5; refine HI.out.mono ?_; rintro r w2 ⟨v1, rfl, ho, hb⟩; have HB1 := hid hb; obtain ⟨sa1, sc1, hv⟩ := ho.shape; subst hv; clear ho hb)
  have HB2 := hid (HB1.out.trans ((below_walk w2 (.cells #[.int .i64 e, .int .i64 (g : Int)] 28)).mono HB1.out.size))
  have c0 : (w2.alloc (.cells #[.int .i64 e, .int .i64 (g : Int)] 28)).cell? ⟨w2.heap.size, 0, none⟩ = some (.int .i64 e) := by rw [cell_of_row _ _ _ _ _ _ (hp_new _ _)]; rfl
  generalize w2.alloc (.cells #[.int .i64 e, .int .i64 (g : Int)] 28) = w3 at *
  go_quiet (fail)
  go_wp2
  go_ret2
  exact ⟨rfl, below_drewN HB2.out _⟩

/-- up to a place all may be -/
def AllOk (L : List (List UInt8 × List UInt8 × Int)) (k : Nat) : Prop := ∀ j, j < k → okI (L.getD j noI) = true
theorem AllOk.all {L : List (List UInt8 × List UInt8 × Int)} (h : AllOk L L.length) : L.all okI = true := by
  rw [List.all_eq_true]
  intro x hx
  obtain ⟨j, hj, rfl⟩ := List.mem_iff_getElem.1 hx
  have := h j hj
  rwa [List.getD_eq_getElem?_getD, List.getElem?_eq_getElem hj] at this
theorem all_not {L : List (List UInt8 × List UInt8 × Int)} {k : Nat} (hk : k < L.length) (h : okI (L.getD k noI) = false) : L.all okI = false := by
  rw [Bool.eq_false_iff]
  intro ha
  rw [List.all_eq_true] at ha
  have := ha _ (List.getElem_mem hk)
  rw [List.getD_eq_getElem?_getD, List.getElem?_eq_getElem hk] at h
  rw [show (some L[k]).getD noI = L[k] from rfl, this] at h
  cases h
theorem fl_succ (L : List (List UInt8 × List UInt8 × Int)) (k : Nat) (hk : k < L.length) : (L.take k).flatMap wlP ++ wlP (L.getD k noI) = (L.take (k + 1)).flatMap wlP := by
  rw [List.take_succ_eq_append_getElem hk, List.flatMap_append, List.getD_eq_getElem?_getD, List.getElem?_eq_getElem hk]
  simp
theorem fl_le (L : List (List UInt8 × List UInt8 × Int)) (k : Nat) : ((L.take k).flatMap wlP).length ≤ (L.flatMap wlP).length := by
  have h : L.flatMap wlP = (L.take k).flatMap wlP ++ (L.drop k).flatMap wlP := by rw [← List.flatMap_append, List.take_append_drop]
  rw [h, List.length_append]
  omega

set_option maxRecDepth 20000 in
set_option maxHeartbeats 8000000 in
theorem with_ok (l : List UInt8) (v : Value) (L : List (List UInt8 × List UInt8 × Int)) (hn : L.length ≤ 140737488355328) (hp : ∀ x ∈ L, x.1.length ≤ 140737488355328 ∧ x.2.1.length ≤ 140737488355328) (w : World) (hT : Tabs w) (h : Incs w v L) (he : (isP l).2.2.1 = 0) :
    Calls Tryz.prog 10 #[.string (mk l), v] w fun r w' => r = .returned (.tuple #[.string (mk (wiP l L).1), .int .i64 (wiP l L).2]) ∧ Below w.heap.size w w' := by
  have HI := hid (incls_any l w hT)
  have HEN := hid (fun v W hT h => end_is l v W hT h)
  have hl := is_short he
  have hto := is_to l
  have hmk := mk_size l
  have hwi : wiP l L = if L.all okI = false then ([], 1) else if 65536 < (L.flatMap wlP ++ l.drop (isP l).2.1).length then ([], 3) else (L.flatMap wlP ++ l.drop (isP l).2.1, 0) := by
    unfold wiP; rw [he, if_neg (by simp)]
  obtain ⟨g, HE2⟩ : ∃ e, Hid ((isP l).2.2.2 = e) := ⟨_, rfl⟩
  obtain ⟨L0, HE4⟩ : ∃ e, Hid ((isP l).1 = e) := ⟨_, rfl⟩
  obtain ⟨tz, HE3⟩ : ∃ e, Hid ((isP l).2.1 = e) := ⟨_, rfl⟩
  rw [he, HE2.out, HE4.out] at HI
  rw [HE3.out] at HEN hto hwi
  rw [HE4.out] at HEN
  have HWI := hid hwi
  have HT := hid hT
  have HIN := hid h
  have HP := hid hp
  obtain ⟨ao, c, rfl⟩ := h.shape
  clear hT h hp hwi he
  go_enter Tryz.func10, Tryz.ntmps10
  go_upto_region 2 with (go_at_call 5; refine HI.out.mono ?_; rintro r w2 ⟨v1, rfl, ho, hb⟩; have HO1 := hid ho; have HB1 := hid hb; obtain ⟨sa1, sc1, hv⟩ := ho.shape; rw [toI_len] at hv; subst hv; clear ho hb)
  have HB2 := hid (HB1.out.trans ((below_walk w2 (.cells #[.int .i64 0, .int .i64 (g : Int)] 28)).mono HB1.out.size))
  have HO2 := hid (HO1.out.below (below_walk w2 (.cells #[.int .i64 0, .int .i64 (g : Int)] 28)))
  have c0 : (w2.alloc (.cells #[.int .i64 0, .int .i64 (g : Int)] 28)).cell? ⟨w2.heap.size, 0, none⟩ = some (.int .i64 0) := by rw [cell_of_row _ _ _ _ _ _ (hp_new _ _)]; rfl
  generalize w2.alloc (.cells #[.int .i64 0, .int .i64 (g : Int)] 28) = w3 at *
  clear HI HB1 HO1
  go_wp2
  go_loopw [25] (fun i wr => ∃ k : Nat, i = .int .i64 k ∧ k ≤ L.length ∧ AllOk L k ∧ OwnN wr w.heap.size (.slice sa1 L0.length sc1) (toI L0) ∧ Below w.heap.size w wr) (fun i _ => L.length - (intOf i).toNat)
  case atStart => exact ⟨0, rfl, Nat.zero_le _, fun j hj => by omega, HO2.out, HB2.out⟩
  case round =>
    clear HO2 HB2 c0
    obtain ⟨k, rfl, hk, hok, ho, hb⟩ := hrel
    have HOK := hid hok
    have HO := hid ho
    have HB := hid hb
    clear hok ho hb
    by_cases hlt : k < L.length
    · have q1 : (k : Int) < (L.length : Int) := by omega
      obtain ⟨g1, o1, hs1, _, e0, e1, e2⟩ := (HIN.out.below HB.out).at k hlt
      subst hs1
      have hpx := HP.out (L.getD k noI) (by rw [List.getD_eq_getElem?_getD, List.getElem?_eq_getElem hlt]; exact List.getElem_mem hlt)
      have HMB := hid (fun W hT => maybe_any (L.getD k noI) hpx.1 hpx.2 W hT)
      obtain ⟨⟨x, y, z⟩, HX⟩ : ∃ t, Hid (L.getD k noI = t) := ⟨_, rfl⟩
      rw [HX.out] at e0 e1 e2 HMB
      cases hj : okI (x, y, z) with
      | false =>
        have FIN : Hid (wiP l L = ([], 1)) := by
          show wiP l L = _
          rw [HWI.out, if_pos (all_not hlt (by rw [HX.out]; exact hj))]
        rw [hj] at HMB
        clear hj
        go_wp2_with (go_at_call 23; refine (HMB.out _ ((HT.out.below HB.out).below (below_walk _ _))).mono ?_; rintro r w4 ⟨rfl, hb⟩)
        go_ret2
        rw [FIN.out]
        exact ⟨rfl, (HB.out.trans ((below_walk _ _).mono HB.out.size)).trans (hb.mono (by rw [hp_size]; have := HB.out.size; omega))⟩
      | true =>
        have NXT : Hid (AllOk L (k + 1)) := fun j hjk => by
          rcases Nat.lt_or_ge j k with h | h
          · exact HOK.out j h
          · obtain rfl : j = k := by omega
            rw [HX.out]; exact hj
        rw [hj] at HMB
        clear hj
        go_wp2_with (go_at_call 23; refine (HMB.out _ ((HT.out.below HB.out).below (below_walk _ _))).mono ?_; rintro r w4 ⟨rfl, hb⟩; have HB4 := hid ((below_walk wr (.cells #[.string (mk x), .string (mk y), .int .i64 z] 25)).trans (hb.mono (by rw [hp_size]; omega))); clear hb)
        exact ⟨⟨k + 1, by simp, by omega, NXT.out, HO.out.below HB4.out, HB.out.trans (HB4.out.mono HB.out.size)⟩, by simp [intOf]; omega⟩
    · have q1 : ¬ (k : Int) < (L.length : Int) := by omega
      obtain rfl : k = L.length := by omega
      have HAL := hid HOK.out.all
      have HW2 : Hid (wiP l L = if 65536 < (L.flatMap wlP ++ l.drop tz).length then ([], 3) else (L.flatMap wlP ++ l.drop tz, 0)) := by
        show wiP l L = _
        rw [HWI.out, HAL.out, if_neg (by simp)]
      go_upto_region 11 with fail
      have HB5 := hid (HB.out.trans ((below_walk wr (.cells #[.pointer none, .slice none 0 0] 60)).mono HB.out.size))
      have HO5 := hid (HO.out.below (below_walk wr (.cells #[.pointer none, .slice none 0 0] 60)))
      have HQ5 : Hid (Bq (wr.alloc (.cells #[.pointer none, .slice none 0 0] 60)) w.heap.size wr.heap.size []) := Or.inl ⟨HB.out.size, _, hp_new _ _, World.ownsRow_nil _ _ _ _, by simp [Value.ownBlock]⟩
      have HNB := hid (show ∀ q, (Value.slice sa1 L0.length sc1).ownBlock = some q → q ≠ wr.heap.size from fun q hq => Nat.ne_of_lt (HO.out.lt q hq).2)
      generalize wr.alloc (.cells #[.pointer none, .slice none 0 0] 60) = w5 at *
      obtain ⟨b, HBE⟩ : ∃ b, Hid (wr.heap.size = b) := ⟨_, rfl⟩
      rw [HBE.out] at HQ5 HNB
      rw [HBE.out]
      clear HO HB HBE HOK HWI
      go_wp2
      go_loopw [35] (fun i wr => ∃ k : Nat, i = .int .i64 k ∧ k ≤ L.length ∧ Bq wr w.heap.size b ((L.take k).flatMap wlP) ∧ ((L.take k).flatMap wlP).length ≤ 65536 ∧ OwnN wr w.heap.size (.slice sa1 L0.length sc1) (toI L0) ∧ Below w.heap.size w wr) (fun i _ => L.length - (intOf i).toNat)
      case atStart => exact ⟨0, rfl, Nat.zero_le _, HQ5.out, by simp, HO5.out, HB5.out⟩
      case round =>
        clear HQ5 HO5 HB5
        obtain ⟨k, rfl, hk, hq, hql, ho, hb⟩ := hrel
        have HQ := hid hq
        have HO := hid ho
        have HB := hid hb
        clear hq ho hb
        by_cases hlt : k < L.length
        · have q1 : (k : Int) < (L.length : Int) := by omega
          obtain ⟨g1, o1, hs1, _, e0, e1, e2⟩ := (HIN.out.below HB.out).at k hlt
          subst hs1
          have hokx : okI (L.getD k noI) = true := by
            have := List.all_eq_true.1 HAL.out _ (List.getElem_mem hlt)
            rw [List.getD_eq_getElem?_getD, List.getElem?_eq_getElem hlt]; exact this
          have HWR := hid (fun W hQ hs => wrinc_any w.heap.size b ((L.take k).flatMap wlP) (L.getD k noI) hokx W hQ (by omega) hs)
          have hwl := wl_len hokx
          have HFS := hid (fl_succ L k hlt)
          have HFL := hid (fl_le L (k + 1))
          rw [HFS.out] at HWR
          have hnl : ((L.take (k + 1)).flatMap wlP).length ≤ 100000 := by rw [← HFS.out, List.length_append]; omega
          obtain ⟨⟨x, y, z⟩, HX⟩ : ∃ t, Hid (L.getD k noI = t) := ⟨_, rfl⟩
          rw [HX.out] at e0 e1 e2 HWR
          obtain ⟨F, HF⟩ : ∃ F, Hid ((L.take (k + 1)).flatMap wlP = F) := ⟨_, rfl⟩
          rw [HF.out] at HWR HFL hnl
          have HLN := hid (fun W hQ => blen_any w.heap.size b F W hQ)
          clear hwl hokx
          by_cases hlong : 65536 < F.length
          · have q2 : (65536 : Int) < (F.length : Int) := by omega
            have FIN : Hid (wiP l L = ([], 3)) := by
              show wiP l L = _
              rw [HW2.out, if_pos (by rw [List.length_append]; have := HFL.out; omega)]
            go_wp2_with first
              | (go_at_call 24; refine (HWR.out _ (HQ.out.below (below_walk _ _)) (by rw [hp_size]; have := HB.out.size; omega)).mono ?_; rintro r w6 ⟨rfl, hq6, hb6, _⟩; have HQ6 := hid hq6; have HB6 := hid hb6; clear hq6 hb6)
              | (go_at_call 25; refine (HLN.out _ HQ6.out).mono ?_; rintro r w7 ⟨rfl, h7⟩; have h7 := h7.symm; subst h7)
            go_ret2
            rw [FIN.out]
            exact ⟨rfl, (HB.out.trans ((below_walk _ _).mono HB.out.size)).trans HB6.out⟩
          · have q2 : ¬ (65536 : Int) < (F.length : Int) := by omega
            go_wp2_with first
              | (go_at_call 24; refine (HWR.out _ (HQ.out.below (below_walk _ _)) (by rw [hp_size]; have := HB.out.size; omega)).mono ?_; rintro r w6 ⟨rfl, hq6, hb6, ho6⟩; have HQ6 := hid hq6; have HB6 := hid hb6; have HO6 := hid ((HO.out.below (below_walk wr (.cells #[.string (mk x), .string (mk y), .int .i64 z] 25))).oth ho6 HNB.out); clear hq6 hb6 ho6)
              | (go_at_call 25; refine (HLN.out _ HQ6.out).mono ?_; rintro r w7 ⟨rfl, h7⟩; have h7 := h7.symm; subst h7)
            exact ⟨⟨k + 1, by simp, by omega, by rw [HF.out]; exact HQ6.out, by rw [HF.out]; omega, HO6.out, (HB.out.trans ((below_walk _ _).mono HB.out.size)).trans HB6.out⟩, by simp [intOf]; omega⟩
        · have q1 : ¬ (k : Int) < (L.length : Int) := by omega
          obtain rfl : k = L.length := by omega
          rw [List.take_length] at HQ hql
          have s1 := sl_from l tz hto
          obtain ⟨F, HF⟩ : ∃ F, Hid (L.flatMap wlP = F) := ⟨_, rfl⟩
          obtain ⟨D, HD⟩ : ∃ D, Hid (l.drop tz = D) := ⟨_, rfl⟩
          have hdl : D.length ≤ 65536 := by rw [← HD.out, List.length_drop]; omega
          rw [HF.out] at HQ hql
          rw [HD.out] at s1
          have HW3 := HW2.out
          rw [HF.out, HD.out] at HW3
          have HW3 := hid HW3
          have HWS := hid (fun W hQ hs => wstr_big w.heap.size b F D W hQ (by omega) (by omega) hs)
          have HLN := hid (fun W hQ => blen_any w.heap.size b (F ++ D) W hQ)
          have HST := hid (fun W hQ hs => bstr_any w.heap.size b (F ++ D) W hQ hs)
          obtain ⟨G, HG⟩ : ∃ G, Hid (F ++ D = G) := ⟨_, rfl⟩
          rw [HG.out] at HW3 HWS HLN HST
          by_cases hlong : 65536 < G.length
          · have q2 : (65536 : Int) < (G.length : Int) := by omega
            rw [if_pos hlong] at HW3
            go_wp2_with first
              | (go_at_call 27; refine (HEN.out _ _ (HT.out.below HB.out) HO.out.incs).mono ?_; rintro r w6 ⟨rfl, hb6⟩; have HB6 := hid hb6; have HQ6 := hid (HQ.out.below hb6); have HC6 := hid (HB.out.trans (hb6.mono HB.out.size)); clear hb6)
              | (go_at_call 26; refine (HWS.out _ HQ6.out HC6.out.size).mono ?_; rintro r w7 ⟨rfl, hq7, hb7, _⟩; have HQ7 := hid hq7; have HC7 := hid (HC6.out.trans hb7); clear hq7 hb7)
              | (go_at_call 25; refine (HLN.out _ HQ7.out).mono ?_; rintro r w8 ⟨rfl, h8⟩; have h8 := h8.symm; subst h8)
            go_ret2
            rw [HW3.out]
            exact ⟨rfl, HC7.out⟩
          · have q2 : ¬ (65536 : Int) < (G.length : Int) := by omega
            rw [if_neg hlong] at HW3
            go_wp2_with first
              | (go_at_call 27; refine (HEN.out _ _ (HT.out.below HB.out) HO.out.incs).mono ?_; rintro r w6 ⟨rfl, hb6⟩; have HB6 := hid hb6; have HQ6 := hid (HQ.out.below hb6); have HC6 := hid (HB.out.trans (hb6.mono HB.out.size)); clear hb6)
              | (go_at_call 26; refine (HWS.out _ HQ6.out HC6.out.size).mono ?_; rintro r w7 ⟨rfl, hq7, hb7, _⟩; have HQ7 := hid hq7; have HC7 := hid (HC6.out.trans hb7); clear hq7 hb7)
              | (go_at_call 25; refine (HLN.out _ HQ7.out).mono ?_; rintro r w8 ⟨rfl, h8⟩; have h8 := h8.symm; subst h8)
              | (go_at_call 28; refine (HST.out _ HQ7.out HC7.out.size).mono ?_; rintro r w9 ⟨rfl, hb9⟩; have HC9 := hid (HC7.out.trans hb9); clear hb9)
            go_ret2
            rw [HW3.out]
            exact ⟨rfl, HC9.out⟩

theorem with_any (l : List UInt8) (v : Value) (L : List (List UInt8 × List UInt8 × Int)) (hn : L.length ≤ 140737488355328) (hp : ∀ x ∈ L, x.1.length ≤ 140737488355328 ∧ x.2.1.length ≤ 140737488355328) (w : World) (hT : Tabs w) (h : Incs w v L) :
    Calls Tryz.prog 10 #[.string (mk l), v] w fun r w' => r = .returned (.tuple #[.string (mk (wiP l L).1), .int .i64 (wiP l L).2]) ∧ Below w.heap.size w w' := by
  by_cases he : (isP l).2.2.1 = 0
  · exact with_ok l v L hn hp w hT h he
  · have e : wiP l L = ([], (isP l).2.2.1) := by unfold wiP; rw [if_pos he]
    rw [e]
    exact with_err l v w hT he

end Go.Proofs.YtlpengaclkidiaaGreatDoor

/- Rows of one's own that are written over; includes appended from anywhere. -/
namespace Go.Proofs.YtlpengaclkidiaaGreatDoor
open Go.RowKit

/-- the mark -/
def mkI : List UInt8 × List UInt8 × Int := ([109, 97, 114, 107], [109], -1)

theorem step_app_incs {ops : Array Oper} {o : Oper} {a : Act} {w : World} {K : Act → World → Prop} {Q : Exit → Act → World → Prop} {E : Prop} (hgd : o.guard = none) (s x : Operand)
    (ho : o.op = .call { callee := .builtin .append, args := #[s, x], argTypes := #[22, 22] })
    (base : Nat) (v : Value) (L : List (List UInt8 × List UInt8 × Int)) (hs : a.eval s = v) (hown : OwnN w base v L) (vx : Value) (M : List (List UInt8 × List UInt8 × Int)) (hx : a.eval x = vx) (hsrc : Incs w vx M)
    (hlen : L.length + M.length ≤ 1000000000000) (hbase : base ≤ w.heap.size)
    (h : ∀ v' w', OwnN w' base v' (L ++ M) → w.grownBy w' v.ownBlock → K (a.put o.dst v') w') : if Region.wanted o (yielded ops a.tmps) = true then Oper.wp Tryz.prog o a w K Q else E := by
  rw [if_pos (by simp [Region.wanted, hgd])]
  obtain ⟨i0, hi, hz0, hz1, hz2⟩ := info_parts Tryz.infoInc
  have fin : ∀ (ad : Addr) (m c : Nat) (news : List Value), news = iv M → vx = .slice (some ad) m c → m = M.length → (∀ j u, news[j]? = some u → w.cell? (ad.add j) = some u) → Oper.wp Tryz.prog o a w K Q := by
    intro ad m c news hn hv hm hcl
    subst hn hv hm
    obtain ⟨v', w', hr, h1, h2, _⟩ := run_append_own (P := Tryz.prog) w base 22 o.type 25 i0 (.agg #[.string ⟨#[]⟩, .string ⟨#[]⟩, .int .i64 0]) 3 40 Tryz.underlying22 hi hz0 hz1 hz2 rfl (by decide) v L.length (iv L) hown ad M.length c (iv M) (iv_len M) hcl (iv_one M) (by unfold maxLen; omega) (by omega) hbase
    unfold Oper.wp
    simp [execOp, ho, resolve, invoke, builtin, hs, hx, hr, Result.andThen]
    refine h v' w' ?_ h2
    unfold OwnN
    rw [iv_app, List.length_append]
    exact h1
  rcases hsrc with ⟨ao, c, rfl, rfl, h0⟩ | ⟨g, off, c, rfl, hlt, h1, h2⟩
  · cases ao with
    | none =>
      obtain rfl := h0 rfl
      have hrun := run_append_owned_none (P := Tryz.prog) (w := w) base 22 o.type 25 i0 3 Tryz.underlying22 hi v L.length (iv L) hown
      unfold Oper.wp
      simp [execOp, ho, resolve, invoke, builtin, hs, hx, hrun, Result.andThen]
      exact h v w (by simpa using hown) (gb_refl _ _)
    | some ad => exact fin ad 0 c [] rfl rfl rfl (fun j u hj => by simp at hj)
  · refine fin ⟨g, off, none⟩ _ c _ rfl rfl rfl ?_
    intro j u hj
    have hjl : j < M.length * 3 := by
      rcases Nat.lt_or_ge j (M.length * 3) with h | h
      · exact h
      · rw [List.getElem?_eq_none (by rw [iv_len]; exact h)] at hj; cases hj
    rw [show (⟨g, off, none⟩ : Addr).add j = ⟨g, off + j, none⟩ by by_cases h0 : j = 0 <;> simp [Addr.add, h0]]
    have hk : j / 3 < M.length := by omega
    obtain ⟨t0, t1, t2⟩ := iv_get M (j / 3) hk
    obtain ⟨c0, c1, c2⟩ := h2 (j / 3) hk
    rcases (by omega : j = 3 * (j / 3) ∨ j = 3 * (j / 3) + 1 ∨ j = 3 * (j / 3) + 2) with e | e | e
    · rw [← e, hj] at t0
      rw [show off + j = off + j / 3 * 3 by omega, c0, t0]
    · rw [← e, hj] at t1
      rw [show off + j = off + j / 3 * 3 + 1 by omega, c1, t1]
    · rw [← e, hj] at t2
      rw [show off + j = off + j / 3 * 3 + 2 by omega, c2, t2]

/-- a row that may be written over: how many it has, not which -/
def Rw (e : TypeId) (size : Nat) (w : World) (base : Nat) (v : Value) (n : Nat) : Prop := ∃ xs, w.ownsRow base e size v n xs
theorem Rw.kept {e : TypeId} {size base n : Nat} {w w' : World} {v : Value} {row : Option Nat} (h : Rw e size w base v n) (hg : w.grownBy w' row) (hne : v.ownBlock = none ∨ v.ownBlock ≠ row) : Rw e size w' base v n := let ⟨xs, hx⟩ := h; ⟨xs, World.ownsRow.kept hx hg hne⟩
theorem Rw.below {e : TypeId} {size base n : Nat} {w w' : World} {v : Value} (h : Rw e size w base v n) (hb : Below w.heap.size w w') : Rw e size w' base v n :=
  h.kept (below_gb hb none) (by cases e : v.ownBlock <;> simp)
theorem Rw.lt {e : TypeId} {size base n : Nat} {w : World} {v : Value} (h : Rw e size w base v n) : ∀ k, v.ownBlock = some k → base ≤ k ∧ k < w.heap.size := let ⟨_, hx⟩ := h; World.ownsRow.lt hx
theorem Rw.form {e : TypeId} {size base n : Nat} {w : World} {v : Value} (h : Rw e size w base v n) (hn : 0 < n) : ∃ g cap, v = .slice (some ⟨g, 0, none⟩) n cap ∧ base ≤ g ∧ g < w.heap.size := by
  obtain ⟨xs, hx⟩ := h
  rcases hx.2 with ⟨_, h0⟩ | ⟨g, cap, cur, hv, hb, hh, _⟩
  · omega
  · exact ⟨g, cap, hv, hb, hp_lt hh⟩
theorem Rw.set {e : TypeId} {size base n g cap : Nat} {w : World} (h : Rw e size w base (.slice (some ⟨g, 0, none⟩) n cap) n) (j : Nat) (u : Value) : Rw e size (w.setCell ⟨g, j, none⟩ u) base (.slice (some ⟨g, 0, none⟩) n cap) n := by
  obtain ⟨xs, hx⟩ := h
  obtain ⟨hl, h0 | ⟨g', cap', cur, hv, hb, hh, h1, h2, h3, h4⟩⟩ := hx
  · cases h0.1
  · injection hv with e1 e2 e3
    injection e1 with e1
    injection e1 with e1
    subst e1 e3
    refine ⟨(cur.setIfInBounds j u).toList.take (n * size), ?_, Or.inr ⟨g, cap, cur.setIfInBounds j u, rfl, hb, blk_set hh u, h1, h2, by simpa using h3, rfl⟩⟩
    rw [List.length_take, Array.length_toList, Array.size_setIfInBounds]
    rw [← h4, List.length_take, Array.length_toList] at hl
    exact hl
theorem Rw.cell {e : TypeId} {size base n g cap : Nat} {w : World} (h : Rw e size w base (.slice (some ⟨g, 0, none⟩) n cap) n) (j : Nat) (hj : j < n * size) : (∃ u, w.cell? ⟨g, j, none⟩ = some u) ∧ w.frozen? ⟨g, j, none⟩ = false := by
  obtain ⟨xs, hx⟩ := h
  have hx' := hx
  obtain ⟨hl, h0 | ⟨g', cap', cur, hv, hb, hh, h1, h2, h3, h4⟩⟩ := hx
  · cases h0.1
  · injection hv with e1 e2 e3
    injection e1 with e1
    injection e1 with e1
    subst e1
    refine ⟨?_, by simp [World.frozen?, hh]⟩
    have := World.ownsRow.cells hx' (g := g) rfl j _ (List.getElem?_eq_getElem (by omega))
    rw [addr_add] at this
    exact ⟨_, this⟩
theorem Rw.there3 {e : TypeId} {base n g cap : Nat} {w : World} (h : Rw e 3 w base (.slice (some ⟨g, 0, none⟩) n cap) n) (i : Nat) (hi : i < n) : w.there g (i * 3) 3 := fun j hj => by
  obtain ⟨⟨u, hu⟩, hf⟩ := h.cell (i * 3 + j) (by omega)
  exact ⟨by rw [hu]; rfl, hf⟩

/-- the mark and the room stand -/
structure Kp (w : World) (gm nr na : Nat) (v8 : Value) (R : List (List UInt8 × List UInt8 × Int)) : Prop where
  intro ::
  mark : w.heap[gm]? = some (.cells #[.string (mk mkI.1), .string (mk mkI.2.1), .int .i64 (-1)] 25 (0, 0))
  room : OwnN w nr v8 R
  low : gm < nr
  top : ∀ k, v8.ownBlock = some k → k < na
theorem Kp.grown {w w' : World} {gm nr na : Nat} {v8 : Value} {R : List (List UInt8 × List UInt8 × Int)} {row : Option Nat} (h : Kp w gm nr na v8 R) (hg : w.grownBy w' row) (hr : ∀ k, row = some k → na ≤ k) (hnn : nr ≤ na) : Kp w' gm nr na v8 R :=
  ⟨(hg.block gm (hp_lt h.mark) (fun e => by have := hr gm e.symm; have := h.low; omega)).trans h.mark,
    h.room.kept hg (by
      cases e : v8.ownBlock with
      | none => exact Or.inl rfl
      | some k => exact Or.inr (fun x => by have := hr k x.symm; have := h.top k e; omega)), h.low, h.top⟩
theorem Kp.below {w w' : World} {gm nr na : Nat} {v8 : Value} {R : List (List UInt8 × List UInt8 × Int)} (h : Kp w gm nr na v8 R) (hb : Below w.heap.size w w') : Kp w' gm nr na v8 R :=
  ⟨(hb.block gm (hp_lt h.mark)).trans h.mark, h.room.below hb, h.low, h.top⟩
theorem Kp.c0 {w : World} {gm nr na : Nat} {v8 : Value} {R : List (List UInt8 × List UInt8 × Int)} (h : Kp w gm nr na v8 R) : w.cell? ⟨gm, 0, none⟩ = some (.string (mk mkI.1)) := by rw [cell_of_row _ _ _ _ _ _ h.mark]; rfl
theorem Kp.c1 {w : World} {gm nr na : Nat} {v8 : Value} {R : List (List UInt8 × List UInt8 × Int)} (h : Kp w gm nr na v8 R) : w.cell? ⟨gm, 1, none⟩ = some (.string (mk mkI.2.1)) := by rw [cell_of_row _ _ _ _ _ _ h.mark]; rfl
theorem Kp.c2 {w : World} {gm nr na : Nat} {v8 : Value} {R : List (List UInt8 × List UInt8 × Int)} (h : Kp w gm nr na v8 R) : w.cell? ⟨gm, 2, none⟩ = some (.int .i64 (-1)) := by rw [cell_of_row _ _ _ _ _ _ h.mark]; rfl
/-- the beginning of a row of includes -/
theorem Incs.take {w : World} {ad : Option Addr} {n cap : Nat} {A B : List (List UInt8 × List UInt8 × Int)} (h : Incs w (.slice ad n cap) (A ++ B)) (hB : B ≠ []) : Incs w (.slice ad A.length cap) A := by
  rcases h with ⟨_, _, _, h0, _⟩ | ⟨g, o, c, hv, hlt, h1, h2⟩
  · exact absurd (List.append_eq_nil_iff.1 h0).2 hB
  · injection hv with e1 e2 e3
    subst e1 e3
    refine Or.inr ⟨g, o, cap, rfl, hlt, by rw [List.length_append] at h1; omega, fun j hj => ?_⟩
    have := h2 j (by rw [List.length_append]; omega)
    have e : (A ++ B).getD j noI = A.getD j noI := by rw [List.getD_eq_getElem?_getD, List.getD_eq_getElem?_getD, List.getElem?_append_left hj]
    rw [e] at this
    exact this
theorem sl_toI (ad : Addr) (n cap k : Nat) (hk : k ≤ cap) (W : World) : (Instr.slice 22 (.slice (some ad) n cap) none (some (.int .i64 (k : Int))) none).run Tryz.prog W = .ok (.slice (some ad) k cap) W := by
  have hk2 : (k : Int) ≤ (cap : Int) := by omega
  go_simp

end Go.Proofs.YtlpengaclkidiaaGreatDoor
