/- Contracts and pure facts that the proof needs, joined. -/
import Derived.Test.YtgihbllkjoegcabDoorG1
import Derived.BigRegion
import Derived.StillTail
import Derived.Deep.Cut
import Derived.StillTailTactics
import Derived.BigQuiet
import Derived.ProofKit
import Derived.OpenShut
import Derived.Deep.Strs
import Derived.SizedLaws
import Derived.Test.YtgihbllkjoegcabDoorRows
import Derived.Deep.Slices
import Derived.JoinedCond
import Derived.LaidLaws
import Derived.Lib.LaidU8
import Derived.Lib.LaidTab

/- The document's token: what it answers; the end, texts, signs. -/
namespace Go.Proofs.YtgihbllkjoegcabDoor
open Go.RowKit

/-- what the document's token answers -/
def rtP (l : List UInt8) (a : Nat) : (Nat × Nat × Nat) × Int :=
  if (tokP (l.drop a)).2.2 ≠ 0 then ((0, a, 0), (tokP (l.drop a)).2.2) else (((tokP (l.drop a)).1, a, a + (tokP (l.drop a)).2.1), 0)
theorem rt_ok {l : List UInt8} {a k n : Nat} (h : tokP (l.drop a) = (k, n, 0)) : rtP l a = ((k, a, a + n), 0) := by unfold rtP; rw [h, if_neg (by simp)]
theorem rt_bad {l : List UInt8} {a k n : Nat} {e : Int} (h : tokP (l.drop a) = (k, n, e)) (he : e ≠ 0) : rtP l a = ((0, a, 0), e) := by unfold rtP; rw [h, if_pos he]
def RtPost (l : List UInt8) (a : Nat) (w : World) (e : Ending) (w' : World) : Prop := e = .returned (.tuple #[.agg (tkC (rtP l a).1).toArray, .int .i64 (rtP l a).2]) ∧ Below w.heap.size w w'

set_option maxRecDepth 20000 in
set_option maxHeartbeats 2000000 in
theorem rtok_end (l : List UInt8) (a : Nat) (ha : a = l.length) (w : World) :
    Calls Tryd.prog 28 #[.string (mk l), .int .i64 (a : Nat)] w (RtPost l a w) := by
  have hsz := mk_size l
  obtain ⟨d, hu, hd⟩ := Tryd.rowTok
  have HR := hid (rt_ok (l := l) (a := a) (k := 0) (n := 0) (by rw [List.drop_eq_nil_of_le (by omega)]; rfl))
  subst ha
  unfold RtPost
  go_enter Tryd.func28, Tryd.ntmps28
  go_wp2_with (refine st_row (by rfl) 34 (.tmp 4) (.tmp 19) (by rfl) _ (tkC (0, l.length, l.length)) (by rfl) (by simp [Act.eval, tkC]) 34 _ (by exact hp_new _ _) (by exact Tryd.infoTok) (by rfl) (tkC_one _) ?_; intro w5 hw5)
  refine ret_row2 4 5 34 rfl _ rfl _ _ hw5.blk d hu hd Tryd.infoTok _ rfl rfl ⟨?_, below_rs hw5 (below_walk _ _) (Nat.le_refl _)⟩
  rw [HR.out]
  rfl

set_option maxRecDepth 20000 in
set_option maxHeartbeats 4000000 in
theorem rtok_text (l : List UInt8) (a : Nat) (ha : a < l.length) (hl : l.length ≤ 65536) (h1 : ltB (l.getD a 0) = false) (h2 : dgB (l.getD a 0) = false) (h3 : l.getD a 0 = 34) (w : World) :
    Calls Tryd.prog 28 #[.string (mk l), .int .i64 (a : Nat)] w (RtPost l a w) := by
  have hsz := mk_size l
  obtain ⟨d, hu, hd⟩ := Tryd.rowTok
  have hdl : (l.drop a).length = l.length - a := List.length_drop
  have hd0 := drop_getD l a 0
  rw [Nat.add_zero] at hd0
  have q1 : ¬ (a : Int) = (l.length : Int) := by omega
  have q9 : ((a : Int) == (l.length : Int)) = false := by simpa using q1
  have i0 := at_mk l a ha
  have H1 := hid (rletter_any ((l.getD a 0).toNat : Nat))
  have H2 := hid (rdigit_any ((l.getD a 0).toNat : Nat))
  obtain ⟨z, HZ⟩ : ∃ z : UInt8, Hid (l.getD a 0 = z) := ⟨_, rfl⟩
  rw [HZ.out] at i0 hd0 H1 H2
  rw [HZ.out] at h1 h2 h3
  subst h3
  have i0 : ∀ W, (Instr.index 9 (.string (mk l)) (.int .i64 (a : Int))).run Tryd.prog W = .ok (.int .u8 34) W := i0
  rw [show ltI ((UInt8.toNat 34 : Nat) : Int) = false from by decide] at H1
  rw [show dgI ((UInt8.toNat 34 : Nat) : Int) = false from by decide] at H2
  have HK : tokP (l.drop a) = tqP (l.drop a) := by unfold tokP; rw [if_neg (by omega), hd0, if_neg (by decide), if_neg (by decide), if_pos rfl]
  have H3 := hid (quoted_any l a ha (by omega))
  have hdd : (l.drop a).drop 1 = l.drop (a + 1) := by rw [List.drop_drop]
  unfold RtPost
  unfold tqP at HK
  rw [hdd] at HK
  cases htx : txP (l.drop (a + 1)) with
  | none =>
    rw [htx] at HK
    have HR := hid (rt_bad HK (by decide))
    have HQ : quV l a = .tuple #[.string ⟨#[]⟩, .int .i64 (-1)] := by unfold quV; rw [htx]
    rw [HQ] at H3
    clear HK htx HQ hdd h1 h2 hd0 hdl
    go_enter Tryd.func28, Tryd.ntmps28
    go_wp2_with first
      | (go_at_call 42; refine (H1.out _).mono ?_; rintro e w' ⟨rfl, rfl⟩)
      | (go_at_call 43; refine (H2.out _).mono ?_; rintro e w' ⟨rfl, rfl⟩)
      | (go_at_call 46; refine (H3.out _).mono ?_; rintro e w4 ⟨rfl, hb4⟩)
      | (refine st_row (by rfl) 34 (.tmp 4) (.tmp 116) (by rfl) _ (tkC (0, a, 0)) (by rfl) (by simp [Act.eval, tkC]) 34 _ (by exact (by rw [hb4.block _ (by rw [hp_size]; omega)]; exact hp_new _ _ : w4.heap[w.heap.size]? = some (.cells #[.int .i64 0, .int .i64 0, .int .i64 0] 34 (0, 0)))) (by exact Tryd.infoTok) (by rfl) (tkC_one _) ?_; intro w5 hw5)
    refine ret_row2 4 5 34 rfl _ rfl _ _ hw5.blk d hu hd Tryd.infoTok _ rfl rfl ⟨?_, below_rs hw5 ((below_walk _ _).trans (hb4.mono (by rw [hp_size]; omega))) (Nat.le_refl _)⟩
    rw [HR.out]
    rfl
  | some r =>
    rw [htx] at HK
    simp only at HK
    have hle := txP_le (v := r.1) (m := r.2) htx
    rw [List.length_drop] at hle
    by_cases h4 : r.1.length ≤ 4096
    · rw [if_pos h4] at HK
      have HR := hid (rt_ok HK)
      have HQ : quV l a = .tuple #[.string (mk r.1), .int .i64 ((a + 1 + r.2 : Nat) : Int)] := by unfold quV; rw [htx]; simp only; rw [if_neg (by omega)]
      rw [HQ] at H3
      obtain ⟨m, HM⟩ : ∃ m, Hid (a + 1 + r.2 = m) := ⟨_, rfl⟩
      rw [HM.out] at H3
      rw [show a + (r.2 + 1) = m by have := HM.out; omega] at HR
      clear HK htx HQ hdd h1 h2 hd0 hdl hle h4
      go_enter Tryd.func28, Tryd.ntmps28
      go_wp2_with first
        | (go_at_call 42; refine (H1.out _).mono ?_; rintro e w' ⟨rfl, rfl⟩)
        | (go_at_call 43; refine (H2.out _).mono ?_; rintro e w' ⟨rfl, rfl⟩)
        | (go_at_call 46; refine (H3.out _).mono ?_; rintro e w4 ⟨rfl, hb4⟩)
        | (refine st_row (by rfl) 34 (.tmp 4) (.tmp 119) (by rfl) _ (tkC (3, a, m)) (by rfl) (by simp [Act.eval, tkC]) 34 _ (by exact (by rw [hb4.block _ (by rw [hp_size]; omega)]; exact hp_new _ _ : w4.heap[w.heap.size]? = some (.cells #[.int .i64 0, .int .i64 0, .int .i64 0] 34 (0, 0)))) (by exact Tryd.infoTok) (by rfl) (tkC_one _) ?_; intro w5 hw5)
      refine ret_row2 4 5 34 rfl _ rfl _ _ hw5.blk d hu hd Tryd.infoTok _ rfl rfl ⟨?_, below_rs hw5 ((below_walk _ _).trans (hb4.mono (by rw [hp_size]; omega))) (Nat.le_refl _)⟩
      rw [HR.out]
      rfl
    · rw [if_neg h4] at HK
      have HR := hid (rt_bad HK (by decide))
      have HQ : quV l a = .tuple #[.string ⟨#[]⟩, .int .i64 (-1)] := by unfold quV; rw [htx]; simp only; rw [if_pos (by omega)]
      rw [HQ] at H3
      clear HK htx HQ hdd h1 h2 hd0 hdl hle h4
      go_enter Tryd.func28, Tryd.ntmps28
      go_wp2_with first
        | (go_at_call 42; refine (H1.out _).mono ?_; rintro e w' ⟨rfl, rfl⟩)
        | (go_at_call 43; refine (H2.out _).mono ?_; rintro e w' ⟨rfl, rfl⟩)
        | (go_at_call 46; refine (H3.out _).mono ?_; rintro e w4 ⟨rfl, hb4⟩)
        | (refine st_row (by rfl) 34 (.tmp 4) (.tmp 116) (by rfl) _ (tkC (0, a, 0)) (by rfl) (by simp [Act.eval, tkC]) 34 _ (by exact (by rw [hb4.block _ (by rw [hp_size]; omega)]; exact hp_new _ _ : w4.heap[w.heap.size]? = some (.cells #[.int .i64 0, .int .i64 0, .int .i64 0] 34 (0, 0)))) (by exact Tryd.infoTok) (by rfl) (tkC_one _) ?_; intro w5 hw5)
      refine ret_row2 4 5 34 rfl _ rfl _ _ hw5.blk d hu hd Tryd.infoTok _ rfl rfl ⟨?_, below_rs hw5 ((below_walk _ _).trans (hb4.mono (by rw [hp_size]; omega))) (Nat.le_refl _)⟩
      rw [HR.out]
      rfl

set_option maxRecDepth 20000 in
set_option maxHeartbeats 4000000 in
theorem rtok_sign (l : List UInt8) (a : Nat) (ha : a < l.length) (hl : l.length ≤ 65536) (h1 : ltB (l.getD a 0) = false) (h2 : dgB (l.getD a 0) = false) (h3 : ¬ l.getD a 0 = 34) (w : World) :
    Calls Tryd.prog 28 #[.string (mk l), .int .i64 (a : Nat)] w (RtPost l a w) := by
  have hsz := mk_size l
  obtain ⟨d, hu, hd⟩ := Tryd.rowTok
  have hdl : (l.drop a).length = l.length - a := List.length_drop
  have hd0 := drop_getD l a 0
  rw [Nat.add_zero] at hd0
  have q1 : ¬ (a : Int) = (l.length : Int) := by omega
  have q9 : ((a : Int) == (l.length : Int)) = false := by simpa using q1
  have i0 := at_mk l a ha
  have H1 := hid (rletter_any ((l.getD a 0).toNat : Nat))
  have H2 := hid (rdigit_any ((l.getD a 0).toNat : Nat))
  obtain ⟨z, HZ⟩ : ∃ z : UInt8, Hid (l.getD a 0 = z) := ⟨_, rfl⟩
  rw [HZ.out] at i0 hd0 H1 H2
  rw [HZ.out] at h1 h2 h3
  rw [show ltI (z.toNat : Nat) = false from h1] at H1
  rw [show dgI (z.toNat : Nat) = false from h2] at H2
  have HK : tokP (l.drop a) = sqP (l.drop a) := by unfold tokP; rw [if_neg (by omega), hd0, if_neg (by rw [h1]; decide), if_neg (by rw [h2]; decide), if_neg h3]
  have H3 := hid (rsign_any l a ha (by omega))
  have n4 : ¬ (z.toNat : Int) = 34 := fun e => h3 ((u8_eq (n := 34) (by omega)).1 e)
  unfold RtPost
  unfold sqP at HK
  have hsl := sgP_len (l.drop a)
  obtain ⟨n, HN⟩ : ∃ n, Hid (sgP (l.drop a) = n) := ⟨_, rfl⟩
  rw [HN.out] at H3 HK hsl
  by_cases hn : n = 0
  · rw [if_pos hn] at HK
    subst hn
    have HR := hid (rt_bad HK (by decide))
    clear HK h1 h2 h3 hd0 hdl hsl
    go_enter Tryd.func28, Tryd.ntmps28
    go_wp2_with first
      | (go_at_call 42; refine (H1.out _).mono ?_; rintro e w' ⟨rfl, rfl⟩)
      | (go_at_call 43; refine (H2.out _).mono ?_; rintro e w' ⟨rfl, rfl⟩)
      | (go_at_call 47; refine (H3.out _).mono ?_; rintro e w4 ⟨rfl, hb4⟩)
      | (refine st_row (by rfl) 34 (.tmp 4) (.tmp 126) (by rfl) _ (tkC (0, a, 0)) (by rfl) (by simp [Act.eval, tkC]) 34 _ (by exact (by rw [hb4.block _ (by rw [hp_size]; omega)]; exact hp_new _ _ : w4.heap[w.heap.size]? = some (.cells #[.int .i64 0, .int .i64 0, .int .i64 0] 34 (0, 0)))) (by exact Tryd.infoTok) (by rfl) (tkC_one _) ?_; intro w5 hw5)
    refine ret_row2 4 5 34 rfl _ rfl _ _ hw5.blk d hu hd Tryd.infoTok _ rfl rfl ⟨?_, below_rs hw5 ((below_walk _ _).trans (hb4.mono (by rw [hp_size]; omega))) (Nat.le_refl _)⟩
    rw [HR.out]
    rfl
  · rw [if_neg hn] at HK
    have HR := hid (rt_ok HK)
    have q5 : ¬ (n : Int) = 0 := by omega
    have q6 : (a : Int) + (n : Int) ≤ 65536 := by omega
    clear HK h1 h2 h3 hd0 hdl hsl hn
    go_enter Tryd.func28, Tryd.ntmps28
    go_wp2_with first
      | (go_at_call 42; refine (H1.out _).mono ?_; rintro e w' ⟨rfl, rfl⟩)
      | (go_at_call 43; refine (H2.out _).mono ?_; rintro e w' ⟨rfl, rfl⟩)
      | (go_at_call 47; refine (H3.out _).mono ?_; rintro e w4 ⟨rfl, hb4⟩)
      | (refine st_row (by rfl) 34 (.tmp 4) (.tmp 131) (by rfl) _ (tkC (5, a, a + n)) (by rfl) (by simp [Act.eval, tkC]) 34 _ (by exact (by rw [hb4.block _ (by rw [hp_size]; omega)]; exact hp_new _ _ : w4.heap[w.heap.size]? = some (.cells #[.int .i64 0, .int .i64 0, .int .i64 0] 34 (0, 0)))) (by exact Tryd.infoTok) (by rfl) (tkC_one _) ?_; intro w5 hw5)
    refine ret_row2 4 5 34 rfl _ rfl _ _ hw5.blk d hu hd Tryd.infoTok _ rfl rfl ⟨?_, below_rs hw5 ((below_walk _ _).trans (hb4.mono (by rw [hp_size]; omega))) (Nat.le_refl _)⟩
    rw [HR.out]
    rfl

end Go.Proofs.YtgihbllkjoegcabDoor

/- The document's token: words. -/
namespace Go.Proofs.YtgihbllkjoegcabDoor
open Go.RowKit

set_option maxRecDepth 20000 in
set_option maxHeartbeats 4000000 in
theorem rtok_word (l : List UInt8) (a : Nat) (ha : a < l.length) (hl : l.length ≤ 65536) (h1 : ltB (l.getD a 0) = true) (w : World) :
    Calls Tryd.prog 28 #[.string (mk l), .int .i64 (a : Nat)] w (RtPost l a w) := by
  have hsz := mk_size l
  obtain ⟨d, hu, hd⟩ := Tryd.rowTok
  have hdl : (l.drop a).length = l.length - a := List.length_drop
  have hd0 := drop_getD l a 0
  rw [Nat.add_zero] at hd0
  have q1 : ¬ (a : Int) = (l.length : Int) := by omega
  have q9 : ((a : Int) == (l.length : Int)) = false := by simpa using q1
  have i0 := at_mk l a ha
  have H1 := hid (rletter_any ((l.getD a 0).toNat : Nat))
  have H2 := hid (rdigit_any ((l.getD a 0).toNat : Nat))
  obtain ⟨z, HZ⟩ : ∃ z : UInt8, Hid (l.getD a 0 = z) := ⟨_, rfl⟩
  rw [HZ.out] at i0 hd0 H1 H2
  rw [HZ.out] at h1
  rw [show ltI (z.toNat : Nat) = true from h1] at H1
  have HK : tokP (l.drop a) = wdP (l.drop a) := by unfold tokP; rw [if_neg (by omega), hd0, if_pos h1]
  have HKK := hid HK
  have HDL := hid hdl
  unfold RtPost
  clear h1 hd0 hdl HK
  go_enter Tryd.func28, Tryd.ntmps28
  go_wp2_with (go_at_call 42; refine (H1.out _).mono ?_; rintro e w' ⟨rfl, rfl⟩)
  clear H1
  go_loop [6] (fun i => ∃ k : Nat, i = .int .i64 ((a + k : Nat) : Int) ∧ Tw wdB (l.drop a) k) (fun i => l.length - (intOf i).toNat)
  case atStart => exact ⟨0, rfl, Tw.zero _ _⟩
  case round =>
    obtain ⟨k, rfl, HT⟩ := hrel
    have HT : Hid (Tw wdB (l.drop a) k) := HT
    have hk := HT.out.1
    have hkl : a + k ≤ l.length := by have := HDL.out; omega
    obtain ⟨m, hm⟩ : ∃ m, a + k = m := ⟨_, rfl⟩
    have hma : m - a = k := by omega
    rw [hm] at hkl ⊢
    have q8 : (m : Int) - (a : Int) = (k : Int) := by omega
    have fin : twN wdB (l.drop a) = k → Hid (tokP (l.drop a) = if 32 < k then (0, 0, 123) else if (l.drop a).take k ∈ kyL then (4, k, 0) else (1, k, 0)) := fun e => by
      show tokP _ = _
      rw [HKK.out]
      unfold wdP; rw [e]
    have s1 := sl_mid l a m (by omega) hkl
    rw [hma] at s1
    have HKY := hid (rkey_any ((l.drop a).take k))
    have HM := hid hm
    have hgd : (l.drop a).getD k 0 = l.getD m 0 := by rw [drop_getD, hm]
    clear hm hma
    by_cases hlt : m < l.length
    · have q2 : (m : Int) < (l.length : Int) := by omega
      have i1 := at_mk l m hlt
      obtain ⟨c, HC⟩ : ∃ c : UInt8, Hid (l.getD m 0 = c) := ⟨_, rfl⟩
      rw [HC.out] at i1 hgd
      have HGD := hid hgd
      clear hgd
      have H4 := hid (rletter_any (c.toNat : Nat))
      have H5 := hid (rdigit_any (c.toNat : Nat))
      by_cases hb : wdB c = true
      · have hb' : ltI (c.toNat : Nat) = true ∨ (ltI (c.toNat : Nat) = false ∧ dgI (c.toNat : Nat) = true) := by
          unfold wdB ltB dgB at hb
          cases e : ltI (c.toNat : Nat) with
          | true => exact Or.inl rfl
          | false => rw [e] at hb; exact Or.inr ⟨rfl, by simpa using hb⟩
        have HN := hid (HT.out.more (by have := HDL.out; have := HM.out; omega) HGD.out hb)
        clear hb fin
        rcases hb' with hb1 | ⟨hb1, hb2⟩
        · rw [hb1] at H4
          clear hb1
          go_wp2_with (go_at_call 42; refine (H4.out _).mono ?_; rintro e w' ⟨rfl, rfl⟩)
          exact ⟨⟨k + 1, by have := HM.out; simp; omega, HN.out⟩, by simp [intOf]; omega⟩
        · rw [hb1] at H4
          rw [hb2] at H5
          clear hb1 hb2
          go_wp2_with first
            | (go_at_call 42; refine (H4.out _).mono ?_; rintro e w' ⟨rfl, rfl⟩)
            | (go_at_call 43; refine (H5.out _).mono ?_; rintro e w' ⟨rfl, rfl⟩)
          exact ⟨⟨k + 1, by have := HM.out; simp; omega, HN.out⟩, by simp [intOf]; omega⟩
      · have hb : wdB c = false := by simpa using hb
        have FIN := fin (HT.out.stop HGD.out hb)
        rw [show ltI (c.toNat : Nat) = false from (wd_or hb).1] at H4
        rw [show dgI (c.toNat : Nat) = false from (wd_or hb).2] at H5
        clear hb fin
        by_cases h32 : 32 < k
        · have FIN : tokP (l.drop a) = (0, 0, 123) := by have := FIN.out; rw [if_pos h32] at this; exact this
          have HR := hid (rt_bad FIN (by decide))
          have q3 : (32 : Int) < (k : Int) := by omega
          clear FIN
          as_aux_lemma =>
            go_wp2_with first
              | (go_at_call 42; refine (H4.out _).mono ?_; rintro e w' ⟨rfl, rfl⟩)
                | (go_at_call 43; refine (H5.out _).mono ?_; rintro e w' ⟨rfl, rfl⟩)
              | (refine st_row (by rfl) 34 (.tmp 4) (.tmp 50) (by rfl) _ (tkC (0, a, 0)) (by rfl) (by simp [Act.eval, tkC]) 34 _ (by exact hp_new _ _) (by exact Tryd.infoTok) (by rfl) (tkC_one _) ?_; intro w5 hw5)
            refine ret_row2 4 5 34 rfl _ rfl _ _ hw5.blk d hu hd Tryd.infoTok _ rfl rfl ⟨?_, below_rs hw5 (below_walk _ _) (Nat.le_refl _)⟩
            rw [HR.out]
            rfl
        · have q3 : ¬ (32 : Int) < (k : Int) := by omega
          by_cases hm : (l.drop a).take k ∈ kyL
          · have FIN : tokP (l.drop a) = (4, k, 0) := by have := FIN.out; rw [if_neg h32, if_pos hm] at this; exact this
            have HR := hid (rt_ok FIN)
            rw [HM.out] at HR
            rw [show amP kyL ((l.drop a).take k) = true from decide_eq_true hm] at HKY
            clear FIN hm
            as_aux_lemma =>
              go_wp2_with first
                | (go_at_call 42; refine (H4.out _).mono ?_; rintro e w' ⟨rfl, rfl⟩)
                | (go_at_call 43; refine (H5.out _).mono ?_; rintro e w' ⟨rfl, rfl⟩)
                | (go_at_call 44; refine (HKY.out _).mono ?_; rintro e w4 ⟨rfl, hb4⟩)
                | (refine st_row (by rfl) 34 (.tmp 4) (.tmp 58) (by rfl) _ (tkC (4, a, m)) (by rfl) (by simp [Act.eval, tkC]) 34 _ (by exact (by rw [hb4.block _ (by rw [hp_size]; omega)]; exact hp_new _ _ : w4.heap[w.heap.size]? = some (.cells #[.int .i64 0, .int .i64 0, .int .i64 0] 34 (0, 0)))) (by exact Tryd.infoTok) (by rfl) (tkC_one _) ?_; intro w5 hw5)
              refine ret_row2 4 5 34 rfl _ rfl _ _ hw5.blk d hu hd Tryd.infoTok _ rfl rfl ⟨?_, below_rs hw5 ((below_walk _ _).trans (hb4.mono (by rw [hp_size]; omega))) (Nat.le_refl _)⟩
              rw [HR.out]
              rfl
          · have FIN : tokP (l.drop a) = (1, k, 0) := by have := FIN.out; rw [if_neg h32, if_neg hm] at this; exact this
            have HR := hid (rt_ok FIN)
            rw [HM.out] at HR
            rw [show amP kyL ((l.drop a).take k) = false from decide_eq_false hm] at HKY
            clear FIN hm
            as_aux_lemma =>
              go_wp2_with first
                | (go_at_call 42; refine (H4.out _).mono ?_; rintro e w' ⟨rfl, rfl⟩)
                | (go_at_call 43; refine (H5.out _).mono ?_; rintro e w' ⟨rfl, rfl⟩)
                | (go_at_call 44; refine (HKY.out _).mono ?_; rintro e w4 ⟨rfl, hb4⟩)
                | (refine st_row (by rfl) 34 (.tmp 4) (.tmp 61) (by rfl) _ (tkC (1, a, m)) (by rfl) (by simp [Act.eval, tkC]) 34 _ (by exact (by rw [hb4.block _ (by rw [hp_size]; omega)]; exact hp_new _ _ : w4.heap[w.heap.size]? = some (.cells #[.int .i64 0, .int .i64 0, .int .i64 0] 34 (0, 0)))) (by exact Tryd.infoTok) (by rfl) (tkC_one _) ?_; intro w5 hw5)
              refine ret_row2 4 5 34 rfl _ rfl _ _ hw5.blk d hu hd Tryd.infoTok _ rfl rfl ⟨?_, below_rs hw5 ((below_walk _ _).trans (hb4.mono (by rw [hp_size]; omega))) (Nat.le_refl _)⟩
              rw [HR.out]
              rfl
    · have q2 : ¬ (m : Int) < (l.length : Int) := by omega
      have FIN := fin (by
        have e := HDL.out
        have e2 := HM.out
        have e3 : (l.drop a).length = k := by omega
        have e4 := HT.out
        rw [← e3] at e4 ⊢
        exact e4.all)
      clear fin hgd
      by_cases h32 : 32 < k
      · have FIN : tokP (l.drop a) = (0, 0, 123) := by have := FIN.out; rw [if_pos h32] at this; exact this
        have HR := hid (rt_bad FIN (by decide))
        have q3 : (32 : Int) < (k : Int) := by omega
        clear FIN
        as_aux_lemma =>
          go_wp2_with first
            | (refine st_row (by rfl) 34 (.tmp 4) (.tmp 50) (by rfl) _ (tkC (0, a, 0)) (by rfl) (by simp [Act.eval, tkC]) 34 _ (by exact hp_new _ _) (by exact Tryd.infoTok) (by rfl) (tkC_one _) ?_; intro w5 hw5)
          refine ret_row2 4 5 34 rfl _ rfl _ _ hw5.blk d hu hd Tryd.infoTok _ rfl rfl ⟨?_, below_rs hw5 (below_walk _ _) (Nat.le_refl _)⟩
          rw [HR.out]
          rfl
      · have q3 : ¬ (32 : Int) < (k : Int) := by omega
        by_cases hm : (l.drop a).take k ∈ kyL
        · have FIN : tokP (l.drop a) = (4, k, 0) := by have := FIN.out; rw [if_neg h32, if_pos hm] at this; exact this
          have HR := hid (rt_ok FIN)
          rw [HM.out] at HR
          rw [show amP kyL ((l.drop a).take k) = true from decide_eq_true hm] at HKY
          clear FIN hm
          as_aux_lemma =>
            go_wp2_with first
              | (go_at_call 44; refine (HKY.out _).mono ?_; rintro e w4 ⟨rfl, hb4⟩)
              | (refine st_row (by rfl) 34 (.tmp 4) (.tmp 58) (by rfl) _ (tkC (4, a, m)) (by rfl) (by simp [Act.eval, tkC]) 34 _ (by exact (by rw [hb4.block _ (by rw [hp_size]; omega)]; exact hp_new _ _ : w4.heap[w.heap.size]? = some (.cells #[.int .i64 0, .int .i64 0, .int .i64 0] 34 (0, 0)))) (by exact Tryd.infoTok) (by rfl) (tkC_one _) ?_; intro w5 hw5)
            refine ret_row2 4 5 34 rfl _ rfl _ _ hw5.blk d hu hd Tryd.infoTok _ rfl rfl ⟨?_, below_rs hw5 ((below_walk _ _).trans (hb4.mono (by rw [hp_size]; omega))) (Nat.le_refl _)⟩
            rw [HR.out]
            rfl
        · have FIN : tokP (l.drop a) = (1, k, 0) := by have := FIN.out; rw [if_neg h32, if_neg hm] at this; exact this
          have HR := hid (rt_ok FIN)
          rw [HM.out] at HR
          rw [show amP kyL ((l.drop a).take k) = false from decide_eq_false hm] at HKY
          clear FIN hm
          as_aux_lemma =>
            go_wp2_with first
              | (go_at_call 44; refine (HKY.out _).mono ?_; rintro e w4 ⟨rfl, hb4⟩)
              | (refine st_row (by rfl) 34 (.tmp 4) (.tmp 61) (by rfl) _ (tkC (1, a, m)) (by rfl) (by simp [Act.eval, tkC]) 34 _ (by exact (by rw [hb4.block _ (by rw [hp_size]; omega)]; exact hp_new _ _ : w4.heap[w.heap.size]? = some (.cells #[.int .i64 0, .int .i64 0, .int .i64 0] 34 (0, 0)))) (by exact Tryd.infoTok) (by rfl) (tkC_one _) ?_; intro w5 hw5)
            refine ret_row2 4 5 34 rfl _ rfl _ _ hw5.blk d hu hd Tryd.infoTok _ rfl rfl ⟨?_, below_rs hw5 ((below_walk _ _).trans (hb4.mono (by rw [hp_size]; omega))) (Nat.le_refl _)⟩
            rw [HR.out]
            rfl

end Go.Proofs.YtgihbllkjoegcabDoor

/- The document's token: numbers. -/
namespace Go.Proofs.YtgihbllkjoegcabDoor
open Go.RowKit

set_option maxRecDepth 20000 in
set_option maxHeartbeats 4000000 in
theorem rtok_num (l : List UInt8) (a : Nat) (ha : a < l.length) (hl : l.length ≤ 65536) (h1 : ltB (l.getD a 0) = false) (h2 : dgB (l.getD a 0) = true) (w : World) :
    Calls Tryd.prog 28 #[.string (mk l), .int .i64 (a : Nat)] w (RtPost l a w) := by
  have hsz := mk_size l
  obtain ⟨d, hu, hd⟩ := Tryd.rowTok
  have hdl : (l.drop a).length = l.length - a := List.length_drop
  have hd0 := drop_getD l a 0
  rw [Nat.add_zero] at hd0
  have q1 : ¬ (a : Int) = (l.length : Int) := by omega
  have q9 : ((a : Int) == (l.length : Int)) = false := by simpa using q1
  have i0 := at_mk l a ha
  have H1 := hid (rletter_any ((l.getD a 0).toNat : Nat))
  have H2 := hid (rdigit_any ((l.getD a 0).toNat : Nat))
  obtain ⟨z, HZ⟩ : ∃ z : UInt8, Hid (l.getD a 0 = z) := ⟨_, rfl⟩
  rw [HZ.out] at i0 hd0 H1 H2
  rw [HZ.out] at h1 h2
  rw [show ltI (z.toNat : Nat) = false from h1] at H1
  rw [show dgI (z.toNat : Nat) = true from h2] at H2
  have HK : tokP (l.drop a) = nuP (l.drop a) := by unfold tokP; rw [if_neg (by omega), hd0, if_neg (by rw [h1]; decide), if_pos h2]
  have HKK := hid HK
  have HDL := hid hdl
  have HD0 := hid hd0
  have HZD := hid h2
  unfold RtPost
  clear h1 h2 hd0 hdl HK
  go_enter Tryd.func28, Tryd.ntmps28
  go_wp2_with first
    | (go_at_call 42; refine (H1.out _).mono ?_; rintro e w' ⟨rfl, rfl⟩)
    | (go_at_call 43; refine (H2.out _).mono ?_; rintro e w' ⟨rfl, rfl⟩)
  clear H1 H2
  go_loop [6] (fun i => ∃ k : Nat, i = .int .i64 ((a + k : Nat) : Int) ∧ Tw dgB (l.drop a) k) (fun i => l.length - (intOf i).toNat)
  case atStart => exact ⟨0, rfl, Tw.zero _ _⟩
  case round =>
    obtain ⟨k, rfl, HT⟩ := hrel
    have HT : Hid (Tw dgB (l.drop a) k) := HT
    have hk := HT.out.1
    have hkl : a + k ≤ l.length := by have := HDL.out; omega
    obtain ⟨m, hm⟩ : ∃ m, a + k = m := ⟨_, rfl⟩
    have hma : m - a = k := by omega
    rw [hm] at hkl ⊢
    have s1 := sl_mid l a m (by omega) hkl
    rw [hma] at s1
    have HNU := hid (rnumber_any ((l.drop a).take k) (by rw [List.length_take]; have := HDL.out; omega))
    have HM := hid hm
    have hgd : (l.drop a).getD k 0 = l.getD m 0 := by rw [drop_getD, hm]
    clear hm hma
    have keyf : twN dgB (l.drop a) = k → 1 ≤ k := fun e => by
      rw [← e]
      have hne : 0 < (l.drop a).length := by have := HDL.out; omega
      cases hx : l.drop a with
      | nil => rw [hx] at hne; simp at hne
      | cons c t =>
        have hc : c = z := by have := HD0.out; rw [hx] at this; exact this
        rw [twN_cons (by rw [hc]; exact HZD.out)]
        omega
    have nuk : twN dgB (l.drop a) = k → (NuOk ((l.drop a).take k) ↔ ¬ (((l.drop a).getD 0 0 = 48 ∧ 1 < k) ∨ 9223372036854775807 < valP ((l.drop a).take k))) := fun e => by
      have h1 := keyf e
      have hlen : ((l.drop a).take k).length = k := by rw [List.length_take]; omega
      have h0 : ((l.drop a).take k).getD 0 0 = (l.drop a).getD 0 0 := by
        simp only [List.getD_eq_getElem?_getD]; rw [List.getElem?_take_of_lt (by omega)]
      unfold NuOk
      rw [hlen, h0]
      constructor
      · rintro ⟨_, b, _, d⟩ (x | x)
        · exact b ⟨x.2, x.1⟩
        · omega
      · intro h
        exact ⟨by omega, fun x => h (Or.inl ⟨x.2, x.1⟩), dgs_take HT.out, by have : ¬ 9223372036854775807 < valP ((l.drop a).take k) := fun x => h (Or.inr x); omega⟩
    by_cases hlt : m < l.length
    · have q2 : (m : Int) < (l.length : Int) := by omega
      have i1 := at_mk l m hlt
      obtain ⟨c, HC⟩ : ∃ c : UInt8, Hid (l.getD m 0 = c) := ⟨_, rfl⟩
      rw [HC.out] at i1 hgd
      have HGD := hid hgd
      clear hgd
      have H4 := hid (rletter_any (c.toNat : Nat))
      have H5 := hid (rdigit_any (c.toNat : Nat))
      cases hb : dgI (c.toNat : Nat) with
      | true =>
        rw [hb] at H5
        have HN := hid (HT.out.more (by have := HDL.out; have := HM.out; omega) HGD.out hb)
        clear hb keyf nuk
        go_wp2_with (go_at_call 43; refine (H5.out _).mono ?_; rintro e w' ⟨rfl, rfl⟩)
        exact ⟨⟨k + 1, by have := HM.out; simp; omega, HN.out⟩, by simp [intOf]; omega⟩
      | false =>
        rw [hb] at H5
        have he := HT.out.stop HGD.out (show dgB c = false from hb)
        have NUK := nuk he
        have FIN : tokP (l.drop a) = if ((l.drop a).getD 0 0 = 48 ∧ 1 < k) ∨ ltB c = true ∨ 9223372036854775807 < valP ((l.drop a).take k) then (0, 0, 121) else (2, k, 0) := by
          rw [HKK.out]; unfold nuP; rw [he, HGD.out]
        clear hb keyf nuk he
        by_cases hok : NuOk ((l.drop a).take k)
        · have hno := NUK.1 hok
          rw [rn_ok hok] at HNU
          obtain ⟨v, HV⟩ : ∃ v, Hid (valP ((l.drop a).take k) = v) := ⟨_, rfl⟩
          rw [HV.out] at HNU
          cases hb : ltI (c.toNat : Nat) with
          | true =>
            rw [hb] at H4
            rw [if_pos (Or.inr (Or.inl (show ltB c = true from hb)))] at FIN
            have HR := hid (rt_bad FIN (by decide))
            clear FIN NUK hok hno hb
            as_aux_lemma =>
              go_wp2_with first
                | (go_at_call 43; refine (H5.out _).mono ?_; rintro e w' ⟨rfl, rfl⟩)
                | (go_at_call 42; refine (H4.out _).mono ?_; rintro e w' ⟨rfl, rfl⟩)
                | (go_at_call 45; refine (HNU.out _).mono ?_; rintro e w' ⟨rfl, rfl⟩)
                | (refine st_row (by rfl) 34 (.tmp 4) (.tmp 100) (by rfl) _ (tkC (0, a, 0)) (by rfl) (by simp [Act.eval, tkC]) 34 _ (by exact hp_new _ _) (by exact Tryd.infoTok) (by rfl) (tkC_one _) ?_; intro w5 hw5)
              refine ret_row2 4 5 34 rfl _ rfl _ _ hw5.blk d hu hd Tryd.infoTok _ rfl rfl ⟨?_, below_rs hw5 (below_walk _ _) (Nat.le_refl _)⟩
              rw [HR.out]
              rfl
          | false =>
            rw [hb] at H4
            rw [if_neg (by rintro (x | x | x); exact hno (Or.inl x); unfold ltB at x; rw [hb] at x; cases x; exact hno (Or.inr x))] at FIN
            have HR := hid (rt_ok FIN)
            rw [HM.out] at HR
            clear FIN NUK hok hno hb
            as_aux_lemma =>
              go_wp2_with first
                | (go_at_call 43; refine (H5.out _).mono ?_; rintro e w' ⟨rfl, rfl⟩)
                | (go_at_call 42; refine (H4.out _).mono ?_; rintro e w' ⟨rfl, rfl⟩)
                | (go_at_call 45; refine (HNU.out _).mono ?_; rintro e w' ⟨rfl, rfl⟩)
                | (refine st_row (by rfl) 34 (.tmp 4) (.tmp 103) (by rfl) _ (tkC (2, a, m)) (by rfl) (by simp [Act.eval, tkC]) 34 _ (by exact hp_new _ _) (by exact Tryd.infoTok) (by rfl) (tkC_one _) ?_; intro w5 hw5)
              refine ret_row2 4 5 34 rfl _ rfl _ _ hw5.blk d hu hd Tryd.infoTok _ rfl rfl ⟨?_, below_rs hw5 (below_walk _ _) (Nat.le_refl _)⟩
              rw [HR.out]
              rfl
        · rw [rn_bad hok] at HNU
          have hyes : ((l.drop a).getD 0 0 = 48 ∧ 1 < k) ∨ 9223372036854775807 < valP ((l.drop a).take k) := Classical.byContradiction (fun h => hok (NUK.2 h))
          rw [if_pos (by rcases hyes with x | x; exact Or.inl x; exact Or.inr (Or.inr x))] at FIN
          have HR := hid (rt_bad FIN (by decide))
          clear FIN NUK hok hyes
          as_aux_lemma =>
            go_wp2_with first
              | (go_at_call 43; refine (H5.out _).mono ?_; rintro e w' ⟨rfl, rfl⟩)
              | (go_at_call 45; refine (HNU.out _).mono ?_; rintro e w' ⟨rfl, rfl⟩)
              | (refine st_row (by rfl) 34 (.tmp 4) (.tmp 100) (by rfl) _ (tkC (0, a, 0)) (by rfl) (by simp [Act.eval, tkC]) 34 _ (by exact hp_new _ _) (by exact Tryd.infoTok) (by rfl) (tkC_one _) ?_; intro w5 hw5)
            refine ret_row2 4 5 34 rfl _ rfl _ _ hw5.blk d hu hd Tryd.infoTok _ rfl rfl ⟨?_, below_rs hw5 (below_walk _ _) (Nat.le_refl _)⟩
            rw [HR.out]
            rfl
    · have q2 : ¬ (m : Int) < (l.length : Int) := by omega
      have he : twN dgB (l.drop a) = k := by
        have e := HDL.out
        have e2 := HM.out
        have e3 : (l.drop a).length = k := by omega
        have e4 := HT.out
        rw [← e3] at e4 ⊢
        exact e4.all
      have NUK := nuk he
      have hz0 : l.getD m 0 = 0 := by rw [List.getD_eq_getElem?_getD, List.getElem?_eq_none (by omega)]; rfl
      have FIN : tokP (l.drop a) = if ((l.drop a).getD 0 0 = 48 ∧ 1 < k) ∨ ltB 0 = true ∨ 9223372036854775807 < valP ((l.drop a).take k) then (0, 0, 121) else (2, k, 0) := by
        rw [HKK.out]; unfold nuP; rw [he, hgd, hz0]
      clear keyf nuk he hz0 hgd
      by_cases hok : NuOk ((l.drop a).take k)
      · have hno := NUK.1 hok
        rw [rn_ok hok] at HNU
        obtain ⟨v, HV⟩ : ∃ v, Hid (valP ((l.drop a).take k) = v) := ⟨_, rfl⟩
        rw [HV.out] at HNU
        rw [if_neg (by rintro (x | x | x); exact hno (Or.inl x); revert x; decide; exact hno (Or.inr x))] at FIN
        have HR := hid (rt_ok FIN)
        rw [HM.out] at HR
        clear FIN NUK hok hno
        as_aux_lemma =>
          go_wp2_with first
            | (go_at_call 45; refine (HNU.out _).mono ?_; rintro e w' ⟨rfl, rfl⟩)
            | (refine st_row (by rfl) 34 (.tmp 4) (.tmp 103) (by rfl) _ (tkC (2, a, m)) (by rfl) (by simp [Act.eval, tkC]) 34 _ (by exact hp_new _ _) (by exact Tryd.infoTok) (by rfl) (tkC_one _) ?_; intro w5 hw5)
          refine ret_row2 4 5 34 rfl _ rfl _ _ hw5.blk d hu hd Tryd.infoTok _ rfl rfl ⟨?_, below_rs hw5 (below_walk _ _) (Nat.le_refl _)⟩
          rw [HR.out]
          rfl
      · rw [rn_bad hok] at HNU
        have hyes : ((l.drop a).getD 0 0 = 48 ∧ 1 < k) ∨ 9223372036854775807 < valP ((l.drop a).take k) := Classical.byContradiction (fun h => hok (NUK.2 h))
        rw [if_pos (by rcases hyes with x | x; exact Or.inl x; exact Or.inr (Or.inr x))] at FIN
        have HR := hid (rt_bad FIN (by decide))
        clear FIN NUK hok hyes
        as_aux_lemma =>
          go_wp2_with first
            | (go_at_call 45; refine (HNU.out _).mono ?_; rintro e w' ⟨rfl, rfl⟩)
            | (refine st_row (by rfl) 34 (.tmp 4) (.tmp 100) (by rfl) _ (tkC (0, a, 0)) (by rfl) (by simp [Act.eval, tkC]) 34 _ (by exact hp_new _ _) (by exact Tryd.infoTok) (by rfl) (tkC_one _) ?_; intro w5 hw5)
          refine ret_row2 4 5 34 rfl _ rfl _ _ hw5.blk d hu hd Tryd.infoTok _ rfl rfl ⟨?_, below_rs hw5 (below_walk _ _) (Nat.le_refl _)⟩
          rw [HR.out]
          rfl

end Go.Proofs.YtgihbllkjoegcabDoor

/- The document's gap. -/
namespace Go.Proofs.YtgihbllkjoegcabDoor
open Go.RowKit

theorem drop_one {l : List UInt8} {a : Nat} (h : a < l.length) : l.drop a = l.getD a 0 :: l.drop (a + 1) := by
  rw [List.drop_eq_getElem_cons h]
  simp [List.getD_eq_getElem?_getD, h]
theorem gn_blank {l : List UInt8} {a : Nat} (h : a < l.length) (hb : bkB (l.getD a 0) = true) : gapN false (l.drop a) = gapN false (l.drop (a + 1)) + 1 := by
  rw [drop_one h, gapN, if_pos hb]
theorem gn_rem {l : List UInt8} {a : Nat} (h : a + 1 < l.length) (h1 : l.getD a 0 = 47) (h2 : l.getD (a + 1) 0 = 47) : gapN false (l.drop a) = gapN true (l.drop a) := by
  rw [drop_one (by omega : a < l.length), gapN, h1, if_neg (by decide), if_pos ⟨rfl, by rw [drop_one h, h2]; rfl⟩, gapN, if_neg (by decide)]
theorem gn_in {l : List UInt8} {a : Nat} (h : a < l.length) (h1 : ¬ l.getD a 0 = 10) : gapN true (l.drop a) = gapN true (l.drop (a + 1)) + 1 := by
  rw [drop_one h, gapN, if_neg h1]
theorem gn_nl {l : List UInt8} {a : Nat} (h : a < l.length) (h1 : l.getD a 0 = 10) : gapN true (l.drop a) = gapN false (l.drop a) := by
  have e1 : gapN true (10 :: l.drop (a + 1)) = gapN false (l.drop (a + 1)) + 1 := by rw [gapN, if_pos rfl]
  have e2 : gapN false (10 :: l.drop (a + 1)) = gapN false (l.drop (a + 1)) + 1 := by rw [gapN, if_pos (by decide)]
  rw [drop_one h, h1, e1, e2]
theorem gn_end {l : List UInt8} {a : Nat} (h : ¬ a < l.length) : gapN true (l.drop a) = gapN false (l.drop a) ∧ gapN false (l.drop a) = 0 := by
  rw [List.drop_eq_nil_of_le (by omega)]
  exact ⟨rfl, rfl⟩
theorem gn_stop {l : List UInt8} {a : Nat} (h : a < l.length) (hb : bkB (l.getD a 0) = false) (h2 : ¬ (l.getD a 0 = 47 ∧ a + 1 < l.length ∧ l.getD (a + 1) 0 = 47)) : gapN false (l.drop a) = 0 := by
  rw [drop_one h, gapN, if_neg (by rw [hb]; decide), if_neg]
  rintro ⟨e1, e2⟩
  refine h2 ⟨e1, ?_⟩
  rw [head_drop] at e2
  exact getD_some e2
/-- a gap gone so far, within a remark or not -/
def Gq (l : List UInt8) (a0 : Nat) (b : Bool) (a : Nat) : Prop := a0 ≤ a ∧ a ≤ l.length ∧ frP l a0 = a + gapN b (l.drop a)

set_option maxHeartbeats 4000000 in
theorem rgap_any (l : List UInt8) (a0 : Nat) (ha : a0 ≤ l.length) (hl : l.length ≤ 140737488355328) (w : World) :
    Calls Tryd.prog 11 #[.string (mk l), .int .i64 (a0 : Nat)] w fun e w' => e = .returned (.int .i64 (frP l a0 : Nat)) ∧ w' = w := by
  have hsz := mk_size l
  go_enter Tryd.func11, Tryd.ntmps11
  go_wp2
  go_loop [1] (fun i => ∃ a : Nat, i = .int .i64 a ∧ Gq l a0 false a) (fun i => l.length - (intOf i).toNat)
  case atStart => exact ⟨a0, rfl, Nat.le_refl _, ha, rfl⟩
  case round =>
    obtain ⟨a, rfl, HG⟩ := hrel
    have HG : Hid (Gq l a0 false a) := HG
    have hal := HG.out.2.1
    by_cases hlt : a < l.length
    · have q1 : (a : Int) < (l.length : Int) := by omega
      have i1 := at_mk l a hlt
      obtain ⟨c, HC⟩ : ∃ c : UInt8, Hid (l.getD a 0 = c) := ⟨_, rfl⟩
      rw [HC.out] at i1
      by_cases hb : bkB c = true
      · have hb' : (c.toNat : Int) = 32 ∨ (¬ (c.toNat : Int) = 32 ∧ (c.toNat : Int) = 9) ∨ (¬ (c.toNat : Int) = 32 ∧ ¬ (c.toNat : Int) = 9 ∧ (c.toNat : Int) = 10) ∨ (¬ (c.toNat : Int) = 32 ∧ ¬ (c.toNat : Int) = 9 ∧ ¬ (c.toNat : Int) = 10 ∧ (c.toNat : Int) = 13) := by
          unfold bkB bkI at hb
          have := of_decide_eq_true hb
          omega
        have HN : Hid (Gq l a0 false (a + 1)) := ⟨by have := HG.out.1; omega, hlt, by have := HG.out.2.2; have := gn_blank hlt (by rw [HC.out]; exact hb); omega⟩
        clear hb
        rcases hb' with e | ⟨_, e⟩ | ⟨_, _, e⟩ | ⟨_, _, _, e⟩
        all_goals rw [e] at i1
        all_goals clear e
        all_goals go_wp2
        all_goals exact ⟨⟨a + 1, by simp, HN.out⟩, by simp [intOf]; omega⟩
      · have hb : bkB c = false := by simpa using hb
        have hnb : ¬ (c.toNat : Int) = 32 ∧ ¬ (c.toNat : Int) = 9 ∧ ¬ (c.toNat : Int) = 10 ∧ ¬ (c.toNat : Int) = 13 := by
          unfold bkB bkI at hb
          have := of_decide_eq_false hb
          omega
        obtain ⟨n1, n2, n3, n4⟩ := hnb
        have HBF := hid hb
        clear hb
        by_cases hr : c = 47 ∧ a + 1 < l.length ∧ l.getD (a + 1) 0 = 47
        · obtain ⟨rfl, r2, r3⟩ := hr
          have i2 := at_mk l (a + 1) r2
          rw [r3, show ((a + 1 : Nat) : Int) = (a : Int) + 1 by omega] at i2
          have i1 : ∀ W, (Instr.index 9 (.string (mk l)) (.int .i64 (a : Int))).run Tryd.prog W = .ok (.int .u8 47) W := i1
          have i2 : ∀ W, (Instr.index 9 (.string (mk l)) (.int .i64 ((a : Int) + 1))).run Tryd.prog W = .ok (.int .u8 47) W := i2
          have q2 : (a : Int) + 1 < (l.length : Int) := by omega
          have HS : Hid (Gq l a0 true a) := ⟨HG.out.1, hal, by have := HG.out.2.2; rw [gn_rem r2 HC.out r3] at this; exact this⟩
          clear r3 n1 n2 n3 n4
          go_wp2
          go_loop [1] (fun i => ∃ b : Nat, i = .int .i64 b ∧ Gq l a0 true b ∧ (b = a ∨ a < b)) (fun i => l.length - (intOf i).toNat)
          case atStart => exact ⟨a, rfl, HS.out, Or.inl rfl⟩
          case round =>
            obtain ⟨b, rfl, HH, hab⟩ := hrel
            have HH : Hid (Gq l a0 true b) := HH
            have hbl := HH.out.2.1
            by_cases hltb : b < l.length
            · have q3 : (b : Int) < (l.length : Int) := by omega
              have i3 := at_mk l b hltb
              obtain ⟨d, HD⟩ : ∃ d : UInt8, Hid (l.getD b 0 = d) := ⟨_, rfl⟩
              rw [HD.out] at i3
              by_cases h10 : d = 10
              · have HX : Hid (Gq l a0 false b) := ⟨HH.out.1, hbl, by have := HH.out.2.2; rw [gn_nl hltb (by rw [HD.out]; exact h10)] at this; exact this⟩
                have hab2 : a < b := by
                  rcases hab with e | e
                  · exfalso
                    have e1 := HC.out
                    have e2 := HD.out
                    rw [e, e1, h10] at e2
                    exact absurd e2 (by decide)
                  · exact e
                subst h10
                have i3 : ∀ W, (Instr.index 9 (.string (mk l)) (.int .i64 (b : Int))).run Tryd.prog W = .ok (.int .u8 10) W := i3
                clear i1 i2 q1 q2
                go_wp2
                exact ⟨⟨b, rfl, HX.out⟩, by simp [intOf]; omega⟩
              · have n5 : ¬ (d.toNat : Int) = 10 := fun e => h10 ((u8_eq (n := 10) (by omega)).1 e)
                have HX : Hid (Gq l a0 true (b + 1)) := ⟨by have := HH.out.1; omega, hltb, by have := HH.out.2.2; have := gn_in hltb (by rw [HD.out]; exact h10); omega⟩
                clear h10 i1 i2 q1 q2
                go_wp2
                exact ⟨⟨b + 1, by simp, HX.out, by omega⟩, by simp [intOf]; omega⟩
            · have q3 : ¬ (b : Int) < (l.length : Int) := by omega
              have HX : Hid (Gq l a0 false b) := ⟨HH.out.1, hbl, by have := HH.out.2.2; rw [(gn_end hltb).1] at this; exact this⟩
              clear i1 i2 q1 q2
              go_wp2
              exact ⟨⟨b, rfl, HX.out⟩, by simp [intOf]; omega⟩
        · have HF : Hid (frP l a0 = a) := by
            have e1 := HG.out.2.2
            rw [gn_stop hlt (by rw [HC.out]; exact HBF.out) (by rw [HC.out]; exact hr)] at e1
            exact e1
          by_cases h47 : c = 47
          · subst h47
            have i1 : ∀ W, (Instr.index 9 (.string (mk l)) (.int .i64 (a : Int))).run Tryd.prog W = .ok (.int .u8 47) W := i1
            clear n1 n2 n3 n4
            by_cases hl2 : a + 1 < l.length
            · have q2 : (a : Int) + 1 < (l.length : Int) := by omega
              have i2 := at_mk l (a + 1) hl2
              obtain ⟨d, HD⟩ : ∃ d : UInt8, Hid (l.getD (a + 1) 0 = d) := ⟨_, rfl⟩
              rw [HD.out, show ((a + 1 : Nat) : Int) = (a : Int) + 1 by omega] at i2
              have n6 : ¬ (d.toNat : Int) = 47 := fun e => hr ⟨rfl, hl2, by rw [HD.out]; exact (u8_eq (n := 47) (by omega)).1 e⟩
              clear hr
              go_wp2
              go_ret
              exact ⟨ret_i (by rw [HF.out]), rfl⟩
            · have q2 : ¬ (a : Int) + 1 < (l.length : Int) := by omega
              clear hr
              go_wp2
              go_ret
              exact ⟨ret_i (by rw [HF.out]), rfl⟩
          · have n7 : ¬ (c.toNat : Int) = 47 := fun e => h47 ((u8_eq (n := 47) (by omega)).1 e)
            clear hr h47
            go_wp2
            · rename_i hx
              exfalso
              simp [n1, n2, n3, n4] at hx
            · go_ret
              exact ⟨ret_i (by rw [HF.out]), rfl⟩
    · have q1 : ¬ (a : Int) < (l.length : Int) := by omega
      have HF : Hid (frP l a0 = a) := by have e1 := HG.out.2.2; rw [(gn_end hlt).2] at e1; exact e1
      go_wp2
      go_ret
      exact ⟨ret_i (by rw [HF.out]), rfl⟩

end Go.Proofs.YtgihbllkjoegcabDoor

/- The document's Next, and LexNexts. -/
namespace Go.Proofs.YtgihbllkjoegcabDoor
open Go.RowKit

theorem rtoken_any (l : List UInt8) (a : Nat) (ha : a ≤ l.length) (hl : l.length ≤ 65536) (w : World) :
    Calls Tryd.prog 28 #[.string (mk l), .int .i64 (a : Nat)] w (RtPost l a w) := by
  by_cases he : a = l.length
  · exact rtok_end l a he w
  · have hlt : a < l.length := by omega
    cases h1 : ltB (l.getD a 0) with
    | true => exact rtok_word l a hlt hl h1 w
    | false =>
      cases h2 : dgB (l.getD a 0) with
      | true => exact rtok_num l a hlt hl h1 h2 w
      | false =>
        by_cases h3 : l.getD a 0 = 34
        · exact rtok_text l a hlt hl h1 h2 h3 w
        · exact rtok_sign l a hlt hl h1 h2 h3 w

end Go.Proofs.YtgihbllkjoegcabDoor

/- Slices of tokens: of one's own; appended. -/
namespace Go.Proofs.YtgihbllkjoegcabDoor
open Go.RowKit

theorem Tryd.infoTok3 : (Tryd.prog.info? 34).map (fun i => (i.zero, i.size, i.bytes)) = some (some (.agg #[.int .i64 0, .int .i64 0, .int .i64 0]), 3, 24) := by kernel_rfl

/-- tokens as cells -/
def tv (L : List (Nat × Nat × Nat)) : List Value := L.flatMap tkC
theorem tv_app (A B : List (Nat × Nat × Nat)) : tv (A ++ B) = tv A ++ tv B := by simp [tv]
theorem tv_cons (x : Nat × Nat × Nat) (B : List (Nat × Nat × Nat)) : tv (x :: B) = .int .i64 x.1 :: .int .i64 x.2.1 :: .int .i64 x.2.2 :: tv B := rfl
theorem tv_len (L : List (Nat × Nat × Nat)) : (tv L).length = L.length * 3 := by
  induction L with
  | nil => rfl
  | cons x r ih => rw [tv_cons]; simp [ih]; omega
theorem tv_one (L : List (Nat × Nat × Nat)) : ∀ u ∈ tv L, u.oneCell' = true := by
  intro u hu
  simp only [tv, List.mem_flatMap] at hu
  obtain ⟨x, _, hu⟩ := hu
  exact tkC_one x u hu
theorem tv_get (L : List (Nat × Nat × Nat)) : ∀ (j : Nat), j < L.length → (tv L)[3 * j]? = some (.int .i64 (L.getD j (0, 0, 0)).1) ∧ (tv L)[3 * j + 1]? = some (.int .i64 (L.getD j (0, 0, 0)).2.1) ∧ (tv L)[3 * j + 2]? = some (.int .i64 (L.getD j (0, 0, 0)).2.2) := by
  induction L with
  | nil => intro j hj; simp at hj
  | cons x r ih =>
    intro j hj
    cases j with
    | zero => simp [tv_cons]
    | succ j =>
      have := ih j (by simpa using hj)
      rw [tv_cons, show 3 * (j + 1) = 3 * j + 1 + 1 + 1 by omega]
      simpa using this

def OwnT (w : World) (base : Nat) (v : Value) (L : List (Nat × Nat × Nat)) : Prop := w.ownsRow base 34 3 v L.length (tv L)
theorem OwnT.nil (w : World) (base : Nat) : OwnT w base (.slice none 0 0) [] := World.ownsRow_nil _ _ _ _
theorem OwnT.kept {w w' : World} {base : Nat} {v : Value} {L : List (Nat × Nat × Nat)} {row : Option Nat} (h : OwnT w base v L) (hg : w.grownBy w' row) (hne : v.ownBlock = none ∨ v.ownBlock ≠ row) : OwnT w' base v L := World.ownsRow.kept h hg hne
theorem OwnT.below {w w' : World} {base : Nat} {v : Value} {L : List (Nat × Nat × Nat)} (h : OwnT w base v L) (hb : Below w.heap.size w w') : OwnT w' base v L :=
  World.ownsRow.kept h (below_gb hb none) (by cases e : v.ownBlock <;> simp)
theorem OwnT.lt {w : World} {base : Nat} {v : Value} {L : List (Nat × Nat × Nat)} (h : OwnT w base v L) : ∀ k, v.ownBlock = some k → base ≤ k ∧ k < w.heap.size := World.ownsRow.lt h
theorem OwnT.shape {w : World} {base : Nat} {v : Value} {L : List (Nat × Nat × Nat)} (h : OwnT w base v L) : ∃ a cap, v = .slice a L.length cap := by
  rcases h.2 with ⟨rfl, h0⟩ | ⟨g, cap, cur, rfl, _⟩
  · exact ⟨none, 0, by rw [h0]⟩
  · exact ⟨_, _, rfl⟩
theorem OwnT.le {w : World} {base base' : Nat} {v : Value} {L : List (Nat × Nat × Nat)} (h : OwnT w base v L) (hb : base' ≤ base) : OwnT w base' v L :=
  ⟨h.1, h.2.elim Or.inl (fun ⟨g, cap, cur, hv, hg, r⟩ => Or.inr ⟨g, cap, cur, hv, Nat.le_trans hb hg, r⟩)⟩
/-- a token of a row -/
theorem OwnT.at {w : World} {base : Nat} {ao : Option Addr} {n c : Nat} {L : List (Nat × Nat × Nat)} (h : OwnT w base (.slice ao n c) L) (k : Nat) (hk : k < L.length) :
    ∃ g, ao = some ⟨g, 0, none⟩ ∧ ∀ j v, (tkC (L.getD k (0, 0, 0)))[j]? = some v → w.cell? ⟨g, k * 3 + j, none⟩ = some v := by
  have hh := h
  rcases h.2 with ⟨h0, h1⟩ | ⟨g, cap, cur, hv, hb, hk2, h1, _⟩
  · omega
  · injection hv with e1 e2 e3
    refine ⟨g, e1, fun j v hj => ?_⟩
    have hj3 : j < 3 := by
      rcases Nat.lt_or_ge j 3 with h | h
      · exact h
      · rw [List.getElem?_eq_none (by simpa [tkC] using h)] at hj; cases hj
    have ht := tv_get L k hk
    have hget : (tv L)[3 * k + j]? = some v := by
      match j, hj3 with
      | 0, _ => rw [Nat.add_zero, ht.1]; exact hj
      | 1, _ => rw [ht.2.1]; exact hj
      | 2, _ => rw [ht.2.2]; exact hj
    have := World.ownsRow.cells hh (g := g) (by rw [e1]; rfl) _ _ hget
    rw [addr_add, Nat.mul_comm] at this
    exact this

/-- append(own, one token) -/
theorem app_tok {w : World} {ops : Array Oper} {rest : List Oper} {o : Oper} {a : Act} {Q : Exit → Act → World → Prop} (hgd : o.guard = none) (s x : Operand)
    (ho : o.op = .call { callee := .builtin .append, args := #[s, x], argTypes := #[25, 25] })
    (base : Nat) (v : Value) (L : List (Nat × Nat × Nat)) (hs : a.eval s = v) (hown : OwnT w base v L) (g c : Nat) (M : List (Nat × Nat × Nat)) (hx : a.eval x = .slice (some ⟨g, 0, none⟩) M.length c)
    (hsrc : ∀ j u, (tv M)[j]? = some u → w.cell? ⟨g, j, none⟩ = some u) (hlen : L.length + M.length ≤ 1000000000000) (hbase : base ≤ w.heap.size)
    (h : ∀ v' w', OwnT w' base v' (L ++ M) → w.grownBy w' v.ownBlock → wpList Tryd.prog ops Q rest (a.put o.dst v') w') : wpList Tryd.prog ops Q (o :: rest) a w := by
  refine wpList_plain hgd fun K hK => ?_
  obtain ⟨i0, hi, hz0, hz1, hz2⟩ := info_parts Tryd.infoTok3
  obtain ⟨v', w', hr, h1, h2, _⟩ := run_append_own (P := Tryd.prog) w base 25 o.type 34 i0 (.agg #[.int .i64 0, .int .i64 0, .int .i64 0]) 3 24 Tryd.underlying25 hi hz0 hz1 hz2 rfl (by decide) v L.length (tv L) hown ⟨g, 0, none⟩ M.length c (tv M) (tv_len M) (fun j u hj => by rw [addr_add]; exact hsrc j u hj) (tv_one M) (by unfold maxLen; omega) (by omega) hbase
  unfold Oper.wp
  simp [execOp, ho, resolve, invoke, builtin, hs, hx, hr, Result.andThen]
  refine hK _ _ (h v' w' ?_ h2)
  unfold OwnT
  rw [tv_app, List.length_append]
  exact h1

end Go.Proofs.YtgihbllkjoegcabDoor

/- The program's All. -/
namespace Go.Proofs.YtgihbllkjoegcabDoor
open Go.RowKit

theorem results_tc {fn : Func} {p q : Tmp} {ty : TypeId} (h : fn.results = #[.tmp p, .cell q ty]) (tmps : Array Value) (P : Program) (w : World) :
    (results fn tmps).run P w = ((asAddr (tmps.getD q undef)).run P w).andThen fun a w₁ => ((loadVar ty a).run P w₁).andThen fun v w₂ => .ok (.tuple #[tmps.getD p undef, v]) w₂ := by
  simp only [results, h]
  simp [Sem.run_bind, Result.andThen]
theorem ret_tc {P : Program} {fn : Func} {R : Ending → World → Prop} {a : Act} {w : World} (p q : Tmp) (ty : TypeId) (h : fn.results = #[.tmp p, .cell q ty]) (v : Value) (hv : a.tmps.getD p undef = v) (g : Nat) (hp : a.tmps.getD q undef = .pointer (some ⟨g, 0, none⟩))
    (cs : List Value) (t : TypeId) (hb : w.heap[g]? = some (.cells cs.toArray t (0, 0))) (d : TypeDesc) (hu : P.underlying ty = some d) (hd : d.isRow = true) (hi : (P.info? ty).map (·.size) = some cs.length)
    (hdf : a.defers = []) (hR : R (.returned (.tuple #[v, .agg cs.toArray])) w) : bodyPost P fn R .ret a w := by
  refine bodyPost_ret (v := .tuple #[v, .agg cs.toArray]) ?_ hdf hR
  rw [results_tc h, hp, hv]
  have := run_loadVar_mid (P := P) w g 0 ty cs d (fun j v hv => by rw [Nat.zero_add, cell_of_row w g j cs.toArray t (0, 0) hb]; simpa using hv) hu hd hi
  simp [asAddr, this]

/-- a token into a variable that was made last -/
theorem st_tok {w : World} {ops : Array Oper} {rest : List Oper} {o : Oper} {a : Act} {Q : Exit → Act → World → Prop} (hgd : o.guard = none) (x y : Operand) (ho : o.op = .store 34 x y)
    (t : Nat × Nat × Nat) (hx : a.eval x = .pointer (some ⟨w.heap.size, 0, none⟩)) (hy : a.eval y = .agg #[.int .i64 t.1, .int .i64 t.2.1, .int .i64 t.2.2])
    (old : Array Value) (hold : old.size = 3)
    (h : ∀ wz, wz.heap.size = w.heap.size + 1 → wz.heap[w.heap.size]? = some (.cells #[.int .i64 t.1, .int .i64 t.2.1, .int .i64 t.2.2] 34 (0, 0)) → Below w.heap.size w wz → wpList Tryd.prog ops Q rest (a.put o.dst undef) wz) :
    wpList Tryd.prog ops Q (o :: rest) a (w.alloc (.cells old 34)) :=
  st_new hgd 34 x y ho (tkC t) hx hy 34 old Tryd.infoTok hold (tkC_one t) (h _ (hp_size _ _) (hp_new _ _) (below_walk _ _))

theorem nx_view {l : List UInt8} {a : Nat} (ha : a ≤ l.length) :
    (65536 < l.length ∧ nxP l (a : Int) = ((0, 0, 0), 3)) ∨ (l.length ≤ 65536 ∧ ((frP l a = l.length ∧ tkP l a = (0, 0, 0) ∧ nxP l (a : Int) = ((0, frP l a, frP l a), 0)) ∨ (∃ e : Int, 120 ≤ e ∧ e ≤ 123 ∧ frP l a < l.length ∧ tkP l a = (0, 0, e) ∧ nxP l (a : Int) = ((0, frP l a, 0), e)) ∨
      ∃ k n : Nat, tkP l a = (k, n, 0) ∧ 1 ≤ k ∧ k ≤ 5 ∧ 1 ≤ n ∧ frP l a + n ≤ l.length ∧ nxP l (a : Int) = ((k, frP l a, frP l a + n), 0))) := by
  by_cases hl : 65536 < l.length
  · refine Or.inl ⟨hl, ?_⟩
    have : plN l (a : Int) = 3 := by unfold plN; rw [if_pos hl]
    unfold nxP
    rw [this, if_pos (by decide)]
  · refine Or.inr ⟨by omega, ?_⟩
    have hp : plN l (a : Int) = 0 := by unfold plN; rw [if_neg hl, if_neg (by omega)]
    have e0 : nxP l (a : Int) = if (tkP l a).2.2 ≠ 0 then ((0, frP l a, 0), (tkP l a).2.2) else (((tkP l a).1, frP l a, frP l a + (tkP l a).2.1), 0) := by
      unfold nxP
      rw [hp, if_neg (by simp)]
      simp only [Int.toNat_natCast]
    rcases tk_view ha with ⟨v1, v2⟩ | ⟨v1, e, v2, v3, v4⟩ | ⟨kk, n, v1, v2, v3, v4, v5⟩
    · refine Or.inl ⟨v1, v2, ?_⟩
      rw [e0, v2]; simp
    · refine Or.inr (Or.inl ⟨e, v2, v3, v1, v4, ?_⟩)
      rw [e0, v4, if_pos (by simp; omega)]
    · refine Or.inr (Or.inr ⟨kk, n, v1, v2, v3, v4, v5, ?_⟩)
      rw [e0, v1, if_neg (by simp)]

theorem src_tok (wz : World) (t : Nat × Nat × Nat) : ∀ j u, (tv [t])[j]? = some u → (wz.alloc (.cells #[.int .i64 t.1, .int .i64 t.2.1, .int .i64 t.2.2] 34)).cell? ⟨wz.heap.size, j, none⟩ = some u := by
  intro j u hj
  rw [cell_of_row _ _ _ _ _ _ (hp_new _ _)]
  rw [show tv [t] = [.int .i64 t.1, .int .i64 t.2.1, .int .i64 t.2.2] from rfl] at hj
  simpa using hj

/-- what All answers: the tokens, why, where -/
def alP (l : List UInt8) : List (Nat × Nat × Nat) × Int × Nat := if 65536 < l.length then ([], 3, 0) else if (allP l 0).2.1 = 0 then ((allP l 0).1, 0, 0) else ([], (allP l 0).2)
/-- tokens so far -/
def Lt (l : List UInt8) (a : Nat) (ts : List (Nat × Nat × Nat)) : Prop := a ≤ l.length ∧ ts.length ≤ a ∧ allP l 0 = (ts ++ (allP l a).1, (allP l a).2)
theorem Lt.zero (l : List UInt8) : Lt l 0 [] := ⟨Nat.zero_le _, Nat.le_refl _, rfl⟩
theorem Lt.more {l : List UInt8} {a k n : Nat} {ts : List (Nat × Nat × Nat)} (h : Lt l a ts) (ht : tkP l a = (k, n, 0)) (hk : k ≠ 0) : Lt l (frP l a + n) (ts ++ [(k, frP l a, frP l a + n)]) := by
  have hs := tok_size ht hk
  rw [List.length_drop] at hs
  have hf := frP_le h.1
  refine ⟨by omega, by rw [List.length_append]; have := h.2.1; simp; omega, ?_⟩
  rw [h.2.2, all_step ht hk h.1]
  simp
theorem Lt.bad {l : List UInt8} {a k n : Nat} {e : Int} {ts : List (Nat × Nat × Nat)} (h : Lt l a ts) (hl : l.length ≤ 65536) (ht : tkP l a = (k, n, e)) (he : e ≠ 0) : alP l = ([], e, frP l a) := by
  unfold alP
  rw [if_neg (by omega), h.2.2, all_bad ht he, if_neg he]
theorem Lt.last {l : List UInt8} {a n : Nat} {ts : List (Nat × Nat × Nat)} (h : Lt l a ts) (hl : l.length ≤ 65536) (ht : tkP l a = (0, n, 0)) : alP l = (ts ++ [(0, frP l a, frP l a)], 0, 0) := by
  unfold alP
  rw [if_neg (by omega), h.2.2, all_end ht, if_pos rfl]

set_option maxHeartbeats 4000000 in
theorem all_any (l : List UInt8) (hl : l.length ≤ 140737488355328) (w : World) (hT : Tabs w) :
    Calls Tryd.prog 9 #[.string (mk l)] w fun e w' => ∃ v, e = .returned (.tuple #[v, .agg #[.int .i64 (alP l).2.1, .int .i64 ((alP l).2.2 : Nat)]]) ∧ OwnT w' w.heap.size v (alP l).1 ∧ Below w.heap.size w w' := by
  have H0 := hid (Lt.zero l)
  have HT := hid hT
  clear hT
  go_enter Tryd.func9, Tryd.ntmps9
  go_wp2
  go_loopw [4, 5] (fun v i wr => ∃ (a : Nat) (ts : List (Nat × Nat × Nat)), i = .int .i64 a ∧ Lt l a ts ∧ OwnT wr (w.heap.size + 1) v ts ∧ Below (w.heap.size + 1) (w.alloc (.cells #[.int .i64 0, .int .i64 0] 28)) wr) (fun _ i _ => l.length - (intOf i).toNat)
  case atStart => exact ⟨0, [], rfl, H0.out, OwnT.nil _ _, Below.refl _ _⟩
  case round =>
    obtain ⟨a, ts, rfl, HL, HO, HB⟩ := hrel
    have HL : Hid (Lt l a ts) := HL
    have HO : Hid (OwnT wr (w.heap.size + 1) _ ts) := HO
    have HB : Hid (Below (w.heap.size + 1) (w.alloc (.cells #[.int .i64 0, .int .i64 0] 28)) wr) := HB
    have hsz : w.heap.size + 1 ≤ wr.heap.size := by have := HB.out.size; rw [hp_size] at this; exact this
    have HB0 : Hid (Below w.heap.size w wr) := ((below_walk w _).trans (HB.out.mono (by omega)))
    have hblk : wr.heap[w.heap.size]? = some (.cells #[.int .i64 0, .int .i64 0] 28 (0, 0)) := by
      rw [HB.out.block _ (by omega)]; exact hp_new _ _
    have HBK := hid hblk
    have HN := hid (next_any l hl (a : Int) wr (HT.out.below HB0.out))
    clear hblk
    obtain ⟨sa, sc, rfl⟩ := HO.out.shape
    have key : (∃ (e : Int) (f : Nat), e ≠ 0 ∧ nxP l (a : Int) = ((0, f, 0), e) ∧ alP l = ([], e, f)) ∨ (∃ f : Nat, l.length ≤ 65536 ∧ nxP l (a : Int) = ((0, f, f), 0) ∧ alP l = (ts ++ [(0, f, f)], 0, 0)) ∨
        (∃ k f n : Nat, l.length ≤ 65536 ∧ k ≠ 0 ∧ a < f + n ∧ f + n ≤ l.length ∧ nxP l (a : Int) = ((k, f, f + n), 0) ∧ Lt l (f + n) (ts ++ [(k, f, f + n)])) := by
      rcases nx_view HL.out.1 with ⟨v1, v2⟩ | ⟨v0, ⟨v1, v2, v3⟩ | ⟨e, v1, v2, v3, v4, v5⟩ | ⟨k, n, v1, v2, v3, v4, v5, v6⟩⟩
      · exact Or.inl ⟨3, 0, by decide, v2, by unfold alP; rw [if_pos v1]⟩
      · exact Or.inr (Or.inl ⟨_, v0, v3, HL.out.last v0 v2⟩)
      · exact Or.inl ⟨e, _, by omega, v5, HL.out.bad v0 v4 (by omega)⟩
      · exact Or.inr (Or.inr ⟨k, _, n, v0, by omega, by have := (frP_le HL.out.1).1; omega, v5, v6, HL.out.more v1 (by omega)⟩)
    rcases key with ⟨e, f, he, v5, hfin⟩ | ⟨f, v0, v5, hfin⟩ | ⟨k, f, n, v0, hk, hkn, hkl, v5, hfin⟩
    · have FIN := hid hfin
      rw [v5] at HN
      have he0 : ¬ e = 0 := he
      clear v5 he hfin
      have HN : Hid (Calls Tryd.prog 12 #[.string (mk l), .int .i64 (a : Int)] wr fun e1 w' => e1 = .returned (.tuple #[.agg #[.int .i64 0, .int .i64 (f : Int), .int .i64 0], .int .i64 e]) ∧ Below wr.heap.size wr w') := HN
      go_wp2_with first
        | (go_at_call 12; refine HN.out.mono ?_; rintro e1 w2 ⟨rfl, HB2⟩)
        | (refine st_tok (by rfl) (.tmp 6) (.tmp 12) (by rfl) (0, f, 0) (by rfl) (by rfl) _ (by rfl) ?_; intro wz hz1 hz2 hz3)
      have HBZ : Hid (wz.heap[w.heap.size]? = some (.cells #[.int .i64 0, .int .i64 0] 28 (0, 0))) := by
        show wz.heap[w.heap.size]? = _
        have e2 := HB2.size
        rw [hz3.block _ (by omega), HB2.block _ (by omega)]; exact HBK.out
      have c1 : wz.cell? ⟨w2.heap.size, 1, none⟩ = some (.int .i64 (f : Int)) := by rw [cell_of_row _ _ _ _ _ _ hz2]; rfl
      have d0 : wz.cell? ⟨w.heap.size, 0, none⟩ = some (.int .i64 0) := by rw [cell_of_row _ _ _ _ _ _ HBZ.out]; rfl
      have d1 : wz.cell? ⟨w.heap.size, 1, none⟩ = some (.int .i64 0) := by rw [cell_of_row _ _ _ _ _ _ HBZ.out]; rfl
      have f0 : wz.frozen? ⟨w.heap.size, 0, none⟩ = false := by simp [World.frozen?, HBZ.out]
      have f1 : wz.frozen? ⟨w.heap.size, 1, none⟩ = false := by simp [World.frozen?, HBZ.out]
      have HZ3 : Hid (Below w.heap.size w wz) := HB0.out.trans ((HB2.mono (by omega)).trans (hz3.mono (by have := HB2.size; omega)))
      clear hz2 hz3
      go_region
      have e3 : ((wz.setCell ⟨w.heap.size, 0, none⟩ (.int .i64 e)).setCell ⟨w.heap.size, 1, none⟩ (.int .i64 (f : Int))).drew.heap[w.heap.size]? = some (.cells [Value.int .i64 e, .int .i64 (f : Int)].toArray 28 (0, 0)) := blk_set (blk_set HBZ.out _) _
      have e4 : Below w.heap.size w ((wz.setCell ⟨w.heap.size, 0, none⟩ (.int .i64 e)).setCell ⟨w.heap.size, 1, none⟩ (.int .i64 (f : Int))).drew := ((HZ3.out.setCell (Nat.le_refl _) _).setCell (Nat.le_refl _) _).drew
      generalize ((wz.setCell ⟨w.heap.size, 0, none⟩ (.int .i64 e)).setCell ⟨w.heap.size, 1, none⟩ (.int .i64 (f : Int))).drew = w3 at *
      have E3 := hid e3
      have E4 := hid e4
      clear e3 e4 c1 d0 d1 f0 f1
      go_wp2
      refine ret_tc 2 3 28 rfl _ rfl _ rfl _ _ E3.out _ Tryd.underlying28 rfl (by kernel_rfl) rfl ⟨.slice none 0 0, ?_, ?_, E4.out⟩
      · rw [FIN.out]
        rfl
      · rw [FIN.out]
        exact OwnT.nil _ _
    · have FIN := hid hfin
      rw [v5] at HN
      clear v5 hfin
      have HN : Hid (Calls Tryd.prog 12 #[.string (mk l), .int .i64 (a : Int)] wr fun e1 w' => e1 = .returned (.tuple #[.agg #[.int .i64 (0 : Nat), .int .i64 (f : Nat), .int .i64 (f : Nat)], .int .i64 0]) ∧ Below wr.heap.size wr w') := HN
      go_wp2_with first
        | (go_at_call 12; refine HN.out.mono ?_; rintro e1 w2 ⟨rfl, HB2⟩)
        | (refine st_tok (by rfl) (.tmp 6) (.tmp 12) (by rfl) (0, f, f) (by rfl) (by rfl) _ (by rfl) ?_; intro wz hz1 hz2 hz3; have HZ2 := hid hz2; have HB2' := hid HB2; have HZ3 := hid hz3; have HZ1 := hid hz1; clear hz1 hz2 hz3 HB2)
        | (refine ld_row (by rfl) 34 (.tmp 6) (by rfl) w2.heap.size (by rfl) (tkC (0, f, f)) 34 HZ2.out _ Tryd.underlying34 rfl Tryd.infoTok ?_; unfold tkC)
        | (refine st_row (by rfl) 28 (.tmp 3) (.tmp 28) (by rfl) w.heap.size [.int .i64 0, .int .i64 0] (by rfl) (by rfl) 28 _ HBF.out (by kernel_rfl) (by rfl) (by intro v hv; simp at hv; rw [hv]; rfl) ?_; intro w5 hw5)
        | (refine app_tok (by rfl) (.tmp 20) (.tmp 22) (by rfl) (w.heap.size + 1) _ ts (by rfl) (((HO.out.below HB2'.out).below (HZ3.out.mono (Nat.le_refl _))).below (below_walk _ _)) wz.heap.size 1 [(0, f, f)] (by rfl) (src_tok wz _) (by have := HL.out.2.1; have := HL.out.1; simp; omega) (by rw [hp_size]; have := HB2'.out.size; have := HZ1.out; omega) ?_
           intro v' w4 ho hg
           have HO4 := hid ho
           have hne : ∀ q, (Value.slice sa ts.length sc).ownBlock = some q → q < wr.heap.size := fun q hq => (HO.out.lt q hq).2
           have HS2 := hid HB2'.out.size
           have hz4 : w4.heap[w2.heap.size]? = some (.cells #[.int .i64 (0 : Nat), .int .i64 (f : Nat), .int .i64 (f : Nat)] 34 (0, 0)) := by
             rw [hg.block w2.heap.size (by rw [hp_size]; have := HZ1.out; omega) (fun e => by have := hne _ e.symm; have := HS2.out; omega), hp_old _ _ _ (by have := HZ1.out; omega)]
             exact HZ2.out
           have HB4 : Hid (Below (w.heap.size + 1) (w.alloc (.cells #[.int .i64 0, .int .i64 0] 28)) w4) := by
             have b1 : Below (w.heap.size + 1) (w.alloc (.cells #[.int .i64 0, .int .i64 0] 28)) (wz.alloc (.cells #[.int .i64 (0 : Nat), .int .i64 (f : Nat), .int .i64 (f : Nat)] 34)) :=
               ((HB.out.trans (HB2'.out.mono (by omega))).trans (HZ3.out.mono (by have := HS2.out; omega))).trans ((below_walk _ _).mono (by have := HS2.out; have := HZ1.out; omega))
             exact b1.grown hg (by rw [hp_size]; have := HS2.out; have := HZ1.out; omega) (fun q hq => (HO.out.lt q hq).1)
           have HBF : Hid (w4.heap[w.heap.size]? = some (.cells #[.int .i64 0, .int .i64 0] 28 (0, 0))) := by
             show w4.heap[w.heap.size]? = _
             rw [HB4.out.block _ (by omega)]; exact hp_new _ _
           have c0 : w4.cell? ⟨w2.heap.size, 0, none⟩ = some (.int .i64 (0 : Nat)) := by rw [cell_of_row _ _ _ _ _ _ hz4]; rfl
           have c2 : w4.cell? ⟨w2.heap.size, 2, none⟩ = some (.int .i64 (f : Nat)) := by rw [cell_of_row _ _ _ _ _ _ hz4]; rfl
           obtain ⟨sa2, sc2, rfl⟩ := HO4.out.shape
           have HL4 : Hid ((ts ++ [(0, f, f)]).length = ts.length + 1) := by show _ = _; simp
           rw [HL4.out]
           rw [HL4.out] at HO4
           clear ho hg hne hz4 HN)
      refine ret_tc 2 3 28 rfl _ rfl _ rfl _ _ hw5.blk _ Tryd.underlying28 rfl (by kernel_rfl) rfl ⟨.slice sa2 (ts.length + 1) sc2, ?_, ?_, ?_⟩
      · rw [FIN.out]
        rfl
      · rw [FIN.out]
        exact (HO4.out.kept hw5.grown (Or.inr (fun e => by have := (HO4.out.lt _ e).1; omega))).le (by omega)
      · exact below_rs hw5 ((below_walk w _).trans (HB4.out.mono (by omega))) (Nat.le_refl _)
    · have FIN := hid hfin
      rw [v5] at HN
      have hk0 : ¬ (k : Int) = 0 := by omega
      obtain ⟨m, HM⟩ : ∃ m, Hid (f + n = m) := ⟨_, rfl⟩
      rw [HM.out] at HN FIN hkn hkl
      clear v5 hfin hk
      have HN : Hid (Calls Tryd.prog 12 #[.string (mk l), .int .i64 (a : Int)] wr fun e1 w' => e1 = .returned (.tuple #[.agg #[.int .i64 (k : Nat), .int .i64 (f : Nat), .int .i64 (m : Nat)], .int .i64 0]) ∧ Below wr.heap.size wr w') := HN
      go_wp2_with first
        | (go_at_call 12; refine HN.out.mono ?_; rintro e1 w2 ⟨rfl, HB2⟩)
        | (refine st_tok (by rfl) (.tmp 6) (.tmp 12) (by rfl) (k, f, m) (by rfl) (by rfl) _ (by rfl) ?_; intro wz hz1 hz2 hz3; have HZ2 := hid hz2; have HB2' := hid HB2; have HZ3 := hid hz3; have HZ1 := hid hz1; clear hz1 hz2 hz3 HB2)
        | (refine ld_row (by rfl) 34 (.tmp 6) (by rfl) w2.heap.size (by rfl) (tkC (k, f, m)) 34 HZ2.out _ Tryd.underlying34 rfl Tryd.infoTok ?_; unfold tkC)
        | (refine app_tok (by rfl) (.tmp 20) (.tmp 22) (by rfl) (w.heap.size + 1) _ ts (by rfl) (((HO.out.below HB2'.out).below (HZ3.out.mono (Nat.le_refl _))).below (below_walk _ _)) wz.heap.size 1 [(k, f, m)] (by rfl) (src_tok wz _) (by have := HL.out.2.1; have := HL.out.1; simp; omega) (by rw [hp_size]; have := HB2'.out.size; have := HZ1.out; omega) ?_
           intro v' w4 ho hg
           have HO4 := hid ho
           have hne : ∀ q, (Value.slice sa ts.length sc).ownBlock = some q → q < wr.heap.size := fun q hq => (HO.out.lt q hq).2
           have HS2 := hid HB2'.out.size
           have hz4 : w4.heap[w2.heap.size]? = some (.cells #[.int .i64 (k : Nat), .int .i64 (f : Nat), .int .i64 (m : Nat)] 34 (0, 0)) := by
             rw [hg.block w2.heap.size (by rw [hp_size]; have := HZ1.out; omega) (fun e => by have := hne _ e.symm; have := HS2.out; omega), hp_old _ _ _ (by have := HZ1.out; omega)]
             exact HZ2.out
           have HB4 : Hid (Below (w.heap.size + 1) (w.alloc (.cells #[.int .i64 0, .int .i64 0] 28)) w4) := by
             have b1 : Below (w.heap.size + 1) (w.alloc (.cells #[.int .i64 0, .int .i64 0] 28)) (wz.alloc (.cells #[.int .i64 (k : Nat), .int .i64 (f : Nat), .int .i64 (m : Nat)] 34)) :=
               ((HB.out.trans (HB2'.out.mono (by omega))).trans (HZ3.out.mono (by have := HS2.out; omega))).trans ((below_walk _ _).mono (by have := HS2.out; have := HZ1.out; omega))
             exact b1.grown hg (by rw [hp_size]; have := HS2.out; have := HZ1.out; omega) (fun q hq => (HO.out.lt q hq).1)
           have HBF : Hid (w4.heap[w.heap.size]? = some (.cells #[.int .i64 0, .int .i64 0] 28 (0, 0))) := by
             show w4.heap[w.heap.size]? = _
             rw [HB4.out.block _ (by omega)]; exact hp_new _ _
           have c0 : w4.cell? ⟨w2.heap.size, 0, none⟩ = some (.int .i64 (k : Nat)) := by rw [cell_of_row _ _ _ _ _ _ hz4]; rfl
           have c2 : w4.cell? ⟨w2.heap.size, 2, none⟩ = some (.int .i64 (m : Nat)) := by rw [cell_of_row _ _ _ _ _ _ hz4]; rfl
           obtain ⟨sa2, sc2, rfl⟩ := HO4.out.shape
           have HL4 : Hid ((ts ++ [(k, f, m)]).length = ts.length + 1) := by show _ = _; simp
           rw [HL4.out]
           rw [HL4.out] at HO4
           clear ho hg hne hz4 HN)
      exact ⟨⟨m, _, by simp, by rw [← HM.out]; exact (HM.out ▸ FIN.out), HO4.out, HB4.out⟩, by simp [intOf]; omega⟩

end Go.Proofs.YtgihbllkjoegcabDoor

/- Word and Key; what must come, whatever else is so. -/
namespace Go.Proofs.YtgihbllkjoegcabDoor
open Go.RowKit

/-- one token of a kind, and nothing else -/
def jsP (k : Nat) (l : List UInt8) : Bool := decide (tokP l = (k, l.length, 0))

set_option maxHeartbeats 1000000 in
theorem just_any (k : Nat) (l : List UInt8) (hl : l.length ≤ 140737488355328) (w : World) (hT : Tabs w) :
    Calls Tryd.prog 26 #[.int .i64 (k : Nat), .string (mk l)] w fun e w' => e = .returned (.bool (jsP k l)) ∧ ∃ n, w' = w.drewN n := by
  have hsz := mk_size l
  have H1 := hid (token_any l hl w hT)
  clear hT
  obtain ⟨⟨x, y, z⟩, HX⟩ : ∃ r, Hid (tokP l = r) := ⟨_, rfl⟩
  rw [HX.out] at H1
  unfold tokV at H1
  go_enter Tryd.func26, Tryd.ntmps26
  go_wp2_with (go_at_call 22; refine H1.out.mono ?_; rintro e w' ⟨rfl, m, rfl⟩)
  all_goals go_ret
  all_goals refine ⟨ret_b ?_, _, rfl⟩
  all_goals unfold jsP
  all_goals rw [HX.out]
  all_goals simp only [decide_eq_true_eq, Prod.mk.injEq, Bool.false_eq_true, false_iff]
  all_goals simp_all
  all_goals omega

set_option maxHeartbeats 1000000 in
theorem word_is (l : List UInt8) (hl : l.length ≤ 140737488355328) (w : World) (hT : Tabs w) :
    Calls Tryd.prog 19 #[.string (mk l)] w fun e w' => e = .returned (.bool (jsP 1 l)) ∧ ∃ n, w' = w.drewN n := by
  have H1 := hid (just_any 1 l hl w hT)
  clear hT
  go_enter Tryd.func19, Tryd.ntmps19
  go_wp2_with (go_at_call 26; refine H1.out.mono ?_; rintro e w' ⟨rfl, m, rfl⟩)
  go_ret
  exact ⟨rfl, _, rfl⟩

set_option maxHeartbeats 1000000 in
theorem key_is (l : List UInt8) (hl : l.length ≤ 140737488355328) (w : World) (hT : Tabs w) :
    Calls Tryd.prog 18 #[.string (mk l)] w fun e w' => e = .returned (.bool (jsP 4 l)) ∧ ∃ n, w' = w.drewN n := by
  have H1 := hid (just_any 4 l hl w hT)
  clear hT
  go_enter Tryd.func18, Tryd.ntmps18
  go_wp2_with (go_at_call 26; refine H1.out.mono ?_; rintro e w' ⟨rfl, m, rfl⟩)
  go_ret
  exact ⟨rfl, _, rfl⟩

theorem aw_all : alP [97, 60, 61, 98, 32, 47, 47, 32, 120] = ([(1, 0, 1), (5, 1, 3), (1, 3, 4), (0, 9, 9)], 0, 0) := by
  have t0 : tkP [97, 60, 61, 98, 32, 47, 47, 32, 120] 0 = (1, 1, 0) := by decide +kernel
  have t1 : tkP [97, 60, 61, 98, 32, 47, 47, 32, 120] 1 = (5, 2, 0) := by decide +kernel
  have t2 : tkP [97, 60, 61, 98, 32, 47, 47, 32, 120] 3 = (1, 1, 0) := by decide +kernel
  have t3 : tkP [97, 60, 61, 98, 32, 47, 47, 32, 120] 4 = (0, 0, 0) := by decide +kernel
  have f0 : frP [97, 60, 61, 98, 32, 47, 47, 32, 120] 0 = 0 := by decide +kernel
  have f1 : frP [97, 60, 61, 98, 32, 47, 47, 32, 120] 1 = 1 := by decide +kernel
  have f2 : frP [97, 60, 61, 98, 32, 47, 47, 32, 120] 3 = 3 := by decide +kernel
  have f3 : frP [97, 60, 61, 98, 32, 47, 47, 32, 120] 4 = 9 := by decide +kernel
  unfold alP
  rw [if_neg (by decide), all_step t0 (by decide) (by decide), f0, all_step t1 (by decide) (by decide), f1, all_step t2 (by decide) (by decide), f2, all_end t3, f3]
  rfl
theorem aw_if : jsP 4 [105, 102] = true := by decide +kernel
theorem aw_x1 : jsP 1 [120, 49] = true := by decide +kernel

set_option maxHeartbeats 2000000 in
theorem awake_any (w : World) (hT : Tabs w) :
    Calls Tryd.prog 10 #[] w fun e w' => e = .returned (.bool true) ∧ Below w.heap.size w w' := by
  have H1 := all_any [97, 60, 61, 98, 32, 47, 47, 32, 120] (by decide) w hT
  rw [aw_all] at H1
  have H1 : Hid (Calls Tryd.prog 9 #[.string ⟨#[97, 60, 61, 98, 32, 47, 47, 32, 120]⟩] w fun e w' => ∃ v, e = .returned (.tuple #[v, .agg #[.int .i64 0, .int .i64 0]]) ∧ OwnT w' w.heap.size v [(1, 0, 1), (5, 1, 3), (1, 3, 4), (0, 9, 9)] ∧ Below w.heap.size w w') := H1
  have H2 : Hid (∀ w, Tabs w → Calls Tryd.prog 18 #[.string ⟨#[105, 102]⟩] w fun e w' => e = .returned (.bool true) ∧ ∃ n, w' = w.drewN n) := fun w h => by
    have := key_is [105, 102] (by decide) w h
    rw [aw_if] at this
    exact this
  have H3 : Hid (∀ w, Tabs w → Calls Tryd.prog 19 #[.string ⟨#[120, 49]⟩] w fun e w' => e = .returned (.bool true) ∧ ∃ n, w' = w.drewN n) := fun w h => by
    have := word_is [120, 49] (by decide) w h
    rw [aw_x1] at this
    exact this
  have HT := hid hT
  clear hT
  go_enter Tryd.func10, Tryd.ntmps10
  go_wp2_with first
    | (go_at_call 9; refine H1.out.mono ?_; rintro e w2 ⟨v, rfl, ho, hb⟩
       obtain ⟨sa, sc, rfl⟩ := ho.shape
       obtain ⟨g, rfl, hc⟩ := ho.at 1 (by decide)
       have hlt := (ho.lt g rfl).2
       have HB := hid hb
       have HO := hid ho
       have c0 := hc 0 _ rfl
       have c1 := hc 1 _ rfl
       have c2 := hc 2 _ rfl
       clear ho hb hc)
    | (go_at_call 18; refine (H2.out _ (HT.out.below (HB.out.alloc HB.out.size _))).mono ?_; rintro e w' ⟨rfl, m, rfl⟩)
    | (go_at_call 19; refine (H3.out _ ((HT.out.below (HB.out.alloc HB.out.size _)).drewN _)).mono ?_; rintro e w' ⟨rfl, m2, rfl⟩)
  go_ret
  exact ⟨rfl, below_drewN (HB.out.alloc HB.out.size _) _⟩

end Go.Proofs.YtgihbllkjoegcabDoor

/- What All answers, plainly: each token stands by itself. -/
namespace Go.Proofs.YtgihbllkjoegcabDoor
open Go.RowKit

theorem al_view (l : List UInt8) : (∃ (e : Int) (p : Nat), e ≠ 0 ∧ alP l = ([], e, p) ∧ (65536 < l.length ∧ e = 3 ∧ p = 0 ∨ l.length ≤ 65536 ∧ ∃ ts, Lb l 0 ts e p)) ∨ (∃ ts, l.length ≤ 65536 ∧ Lx l 0 ts ∧ alP l = (ts, 0, 0)) := by
  unfold alP
  by_cases hl : 65536 < l.length
  · rw [if_pos hl]
    exact Or.inl ⟨3, 0, by decide, rfl, Or.inl ⟨hl, rfl, rfl⟩⟩
  · rw [if_neg hl]
    rcases all_view (l := l) (Nat.zero_le _) with ⟨ts, h1, h2⟩ | ⟨ts, e, p, h1, h2⟩
    · rw [h2, if_pos rfl]
      exact Or.inr ⟨ts, by omega, h1, rfl⟩
    · have hn := h1.num
      rw [h2, if_neg (by simp only; omega)]
      exact Or.inl ⟨e, p, by omega, rfl, Or.inr ⟨by omega, ts, h1⟩⟩

/-- a token's variable -/
def Tk (w : World) (g : Nat) (t : Nat × Nat × Nat) : Prop := w.heap[g]? = some (.cells #[.int .i64 t.1, .int .i64 t.2.1, .int .i64 t.2.2] 34 (0, 0))
theorem Tk.below {w w' : World} {g B : Nat} {t : Nat × Nat × Nat} (h : Tk w g t) (hb : Below B w w') (hg : g < B) : Tk w' g t := by unfold Tk; rw [hb.block g hg]; exact h
theorem Tk.lt {w : World} {g : Nat} {t : Nat × Nat × Nat} (h : Tk w g t) : g < w.heap.size := hp_lt h
theorem Tk.c0 {w : World} {g k f m : Nat} (h : Tk w g (k, f, m)) : w.cell? ⟨g, 0, none⟩ = some (.int .i64 (k : Int)) := by rw [cell_of_row _ _ _ _ _ _ h]; rfl
theorem Tk.c1 {w : World} {g k f m : Nat} (h : Tk w g (k, f, m)) : w.cell? ⟨g, 1, none⟩ = some (.int .i64 (f : Int)) := by rw [cell_of_row _ _ _ _ _ _ h]; rfl
theorem Tk.c2 {w : World} {g k f m : Nat} (h : Tk w g (k, f, m)) : w.cell? ⟨g, 2, none⟩ = some (.int .i64 (m : Int)) := by rw [cell_of_row _ _ _ _ _ _ h]; rfl
/-- a token into a variable that was made last -/
theorem st_tk {w : World} {ops : Array Oper} {rest : List Oper} {o : Oper} {a : Act} {Q : Exit → Act → World → Prop} (hgd : o.guard = none) (x y : Operand) (ho : o.op = .store 34 x y)
    (t : Nat × Nat × Nat) (hx : a.eval x = .pointer (some ⟨w.heap.size, 0, none⟩)) (hy : a.eval y = .agg #[.int .i64 t.1, .int .i64 t.2.1, .int .i64 t.2.2])
    (old : Array Value) (hold : old.size = 3)
    (h : ∀ wz, Tk wz w.heap.size t → Below w.heap.size w wz → wpList Tryd.prog ops Q rest (a.put o.dst undef) wz) :
    wpList Tryd.prog ops Q (o :: rest) a (w.alloc (.cells old 34)) :=
  st_tok hgd x y ho t hx hy old hold (fun wz _ h2 h3 => h wz h2 h3)

/-- a token that stands by itself -/
def Sole (l : List UInt8) (t : Nat × Nat × Nat) : Prop := ∃ k f n, t = (k, f, f + n) ∧ 1 ≤ k ∧ k ≤ 5 ∧ 1 ≤ n ∧ f + n ≤ l.length ∧ tokP (l.drop f) = (k, n, 0) ∧ gapP (l.drop f) = 0
theorem Lx.mem {l : List UInt8} {a : Nat} {ts : List (Nat × Nat × Nat)} (h : Lx l a ts) : ∀ t ∈ ts, t = (0, l.length, l.length) ∨ Sole l t :=
  Lx.ind (M := fun _ ts => ∀ t ∈ ts, t = (0, l.length, l.length) ∨ Sole l t) (fun _ _ t ht => by simp at ht; exact Or.inl ht)
    (fun {a k n ts} _ h hk hk5 hn hl _ ih t hm => by
      rcases List.mem_cons.1 hm with rfl | hm
      · exact Or.inr ⟨k, frP l a, n, rfl, hk, hk5, hn, hl, h, frP_idle l a⟩
      · exact ih t hm) ts h
theorem getD_mem {ts : List (Nat × Nat × Nat)} {i : Nat} (h : i < ts.length) : ts.getD i (0, 0, 0) ∈ ts := by
  rw [List.getD_eq_getElem?_getD, List.getElem?_eq_getElem h]; exact List.getElem_mem h

theorem nx_of {X : List UInt8} {k n : Nat} (hl : X.length ≤ 65536) (hg : gapP X = 0) (ht : tokP X = (k, n, 0)) : nxP X 0 = ((k, 0, n), 0) := by
  have hf : frP X 0 = 0 := by unfold frP; rw [List.drop_zero, hg]
  have htk : tkP X 0 = (k, n, 0) := by unfold tkP; rw [hf, List.drop_zero, ht]
  have hp : plN X 0 = 0 := by unfold plN; rw [if_neg (by omega), if_neg (by omega)]
  unfold nxP
  rw [hp, if_neg (by simp)]
  simp only [Int.toNat_zero]
  rw [htk, hf, if_neg (by simp)]
  simp
/-- a token alone; with the byte behind it -/
theorem nx_alone {l : List UInt8} {k f n : Nat} (hl : l.length ≤ 65536) (hk : k ≠ 0) (ht : tokP (l.drop f) = (k, n, 0)) (hg : gapP (l.drop f) = 0) : nxP ((l.drop f).take n) 0 = ((k, 0, n), 0) := by
  refine nx_of (by rw [List.length_take, List.length_drop]; omega) ?_ ?_
  · rw [gapP_take (by omega), hg]
  · have := tok_cut (r := []) ht hk (Or.inl rfl)
    rwa [List.append_nil] at this
theorem nx_more {l : List UInt8} {k f n : Nat} (hl : l.length ≤ 65536) (hk : k ≠ 0) (ht : tokP (l.drop f) = (k, n, 0)) (hg : gapP (l.drop f) = 0) (hn : f + n < l.length) : nxP ((l.drop f).take (n + 1)) 0 = ((k, 0, n), 0) := by
  refine nx_of (by rw [List.length_take, List.length_drop]; omega) ?_ ?_
  · rw [gapP_take (by omega), hg]
  · have hlt : n < (l.drop f).length := by rw [List.length_drop]; omega
    have e : (l.drop f).take (n + 1) = (l.drop f).take n ++ [(l.drop f)[n]] := List.take_succ_eq_append_getElem hlt
    rw [e]
    refine tok_cut ht hk (Or.inr (Or.inl ?_))
    rw [head_drop, List.getElem?_eq_getElem hlt]
    rfl

end Go.Proofs.YtgihbllkjoegcabDoor

/- The document's All. -/
namespace Go.Proofs.YtgihbllkjoegcabDoor
open Go.RowKit

/-- what the document's All answers: the tokens, why, where -/
def raP (l : List UInt8) : List (Nat × Nat × Nat) × Int × Nat := if 65536 < l.length then ([], 3, 0) else allP l 0
theorem Lt.rbad {l : List UInt8} {a k n : Nat} {e : Int} {ts : List (Nat × Nat × Nat)} (h : Lt l a ts) (hl : l.length ≤ 65536) (ht : tkP l a = (k, n, e)) (he : e ≠ 0) : raP l = (ts, e, frP l a) := by
  unfold raP
  rw [if_neg (by omega), h.2.2, all_bad ht he]
  simp
theorem Lt.rlast {l : List UInt8} {a n : Nat} {ts : List (Nat × Nat × Nat)} (h : Lt l a ts) (hl : l.length ≤ 65536) (ht : tkP l a = (0, n, 0)) : raP l = (ts ++ [(0, frP l a, frP l a)], 0, 0) := by
  unfold raP
  rw [if_neg (by omega), h.2.2, all_end ht]

set_option maxHeartbeats 4000000 in
theorem rall_ok (l : List UInt8) (hl : l.length ≤ 65536) (w : World) :
    Calls Tryd.prog 15 #[.string (mk l)] w fun e w' => ∃ v, e = .returned (.tuple #[v, .agg #[.int .i64 (raP l).2.1, .int .i64 ((raP l).2.2 : Nat)]]) ∧ OwnT w' w.heap.size v (raP l).1 ∧ Below w.heap.size w w' := by
  have H0 := hid (Lt.zero l)
  have hmk := mk_size l
  have q0 : ¬ (65536 : Int) < (l.length : Int) := by omega
  go_enter Tryd.func15, Tryd.ntmps15
  go_wp2
  go_loopw [4, 5] (fun v i wr => ∃ (a : Nat) (ts : List (Nat × Nat × Nat)), i = .int .i64 a ∧ Lt l a ts ∧ OwnT wr (w.heap.size + 1) v ts ∧ Below (w.heap.size + 1) (w.alloc (.cells #[.int .i64 0, .int .i64 0] 28)) wr) (fun _ i _ => l.length - (intOf i).toNat)
  case atStart => exact ⟨0, [], rfl, H0.out, OwnT.nil _ _, Below.refl _ _⟩
  case round =>
    obtain ⟨a, ts, rfl, HL, HO, HB⟩ := hrel
    have HL : Hid (Lt l a ts) := HL
    have HO : Hid (OwnT wr (w.heap.size + 1) _ ts) := HO
    have HB : Hid (Below (w.heap.size + 1) (w.alloc (.cells #[.int .i64 0, .int .i64 0] 28)) wr) := HB
    have hsz : w.heap.size + 1 ≤ wr.heap.size := by have := HB.out.size; rw [hp_size] at this; exact this
    have HB0 : Hid (Below w.heap.size w wr) := ((below_walk w _).trans (HB.out.mono (by omega)))
    have hblk : wr.heap[w.heap.size]? = some (.cells #[.int .i64 0, .int .i64 0] 28 (0, 0)) := by
      rw [HB.out.block _ (by omega)]; exact hp_new _ _
    have HBK := hid hblk
    have HG := hid (rgap_any l a HL.out.1 (by omega))
    have HN := hid (rtoken_any l (frP l a) (frP_le HL.out.1).2 hl)
    unfold RtPost at HN
    clear hblk
    obtain ⟨sa, sc, rfl⟩ := HO.out.shape
    have key : (∃ (e : Int) (f : Nat), frP l a = f ∧ e ≠ 0 ∧ rtP l f = ((0, f, 0), e) ∧ raP l = (ts, e, f)) ∨ (∃ f : Nat, frP l a = f ∧ rtP l f = ((0, f, f), 0) ∧ raP l = (ts ++ [(0, f, f)], 0, 0)) ∨
        (∃ k f n : Nat, frP l a = f ∧ k ≠ 0 ∧ a < f + n ∧ f + n ≤ l.length ∧ rtP l f = ((k, f, f + n), 0) ∧ Lt l (f + n) (ts ++ [(k, f, f + n)])) := by
      rcases tk_view HL.out.1 with ⟨v1, v2⟩ | ⟨v1, e, v2, v3, v4⟩ | ⟨k, n, v1, v2, v3, v4, v5⟩
      · exact Or.inr (Or.inl ⟨_, rfl, rt_ok v2, HL.out.rlast hl v2⟩)
      · exact Or.inl ⟨e, _, rfl, by omega, rt_bad v4 (by omega), HL.out.rbad hl v4 (by omega)⟩
      · exact Or.inr (Or.inr ⟨k, _, n, rfl, by omega, by have := (frP_le HL.out.1).1; omega, v5, rt_ok v1, HL.out.more v1 (by omega)⟩)
    rcases key with ⟨e, f, hff, he, v5, hfin⟩ | ⟨f, hff, v5, hfin⟩ | ⟨k, f, n, hff, hk, hkn, hkl, v5, hfin⟩
    · have FIN := hid hfin
      rw [hff] at HG HN
      rw [v5] at HN
      clear hff
      have he0 : ¬ e = 0 := he
      clear v5 he hfin
      have HN : Hid (∀ W, Calls Tryd.prog 28 #[.string (mk l), .int .i64 (f : Nat)] W fun e1 w' => e1 = .returned (.tuple #[.agg #[.int .i64 0, .int .i64 (f : Int), .int .i64 0], .int .i64 e]) ∧ Below W.heap.size W w') := HN
      go_wp2_with first
        | (go_at_call 11; refine (HG.out _).mono ?_; rintro e1 w' ⟨rfl, hw'⟩; have hw' := hw'.symm; subst hw')
        | (go_at_call 28; refine (HN.out _).mono ?_; rintro e1 w2 ⟨rfl, HB2⟩)
        | (refine st_tok (by rfl) (.tmp 6) (.tmp 18) (by rfl) (0, f, 0) (by rfl) (by rfl) _ (by rfl) ?_; intro wz hz1 hz2 hz3)
      have HBZ : Hid (wz.heap[w.heap.size]? = some (.cells #[.int .i64 0, .int .i64 0] 28 (0, 0))) := by
        show wz.heap[w.heap.size]? = _
        have e2 := HB2.size
        rw [hz3.block _ (by omega), HB2.block _ (by omega)]; exact HBK.out
      have c1 : wz.cell? ⟨w2.heap.size, 1, none⟩ = some (.int .i64 (f : Int)) := by rw [cell_of_row _ _ _ _ _ _ hz2]; rfl
      have d0 : wz.cell? ⟨w.heap.size, 0, none⟩ = some (.int .i64 0) := by rw [cell_of_row _ _ _ _ _ _ HBZ.out]; rfl
      have d1 : wz.cell? ⟨w.heap.size, 1, none⟩ = some (.int .i64 0) := by rw [cell_of_row _ _ _ _ _ _ HBZ.out]; rfl
      have f0 : wz.frozen? ⟨w.heap.size, 0, none⟩ = false := by simp [World.frozen?, HBZ.out]
      have f1 : wz.frozen? ⟨w.heap.size, 1, none⟩ = false := by simp [World.frozen?, HBZ.out]
      have HZ3 : Hid (Below w.heap.size w wz) := HB0.out.trans ((HB2.mono (by omega)).trans (hz3.mono (by have := HB2.size; omega)))
      have HZB := hid hz3
      clear hz2 hz3
      go_region
      have e3 : ((wz.setCell ⟨w.heap.size, 0, none⟩ (.int .i64 e)).setCell ⟨w.heap.size, 1, none⟩ (.int .i64 (f : Int))).drew.heap[w.heap.size]? = some (.cells [Value.int .i64 e, .int .i64 (f : Int)].toArray 28 (0, 0)) := blk_set (blk_set HBZ.out _) _
      have e4 : Below w.heap.size w ((wz.setCell ⟨w.heap.size, 0, none⟩ (.int .i64 e)).setCell ⟨w.heap.size, 1, none⟩ (.int .i64 (f : Int))).drew := ((HZ3.out.setCell (Nat.le_refl _) _).setCell (Nat.le_refl _) _).drew
      have e5 : OwnT ((wz.setCell ⟨w.heap.size, 0, none⟩ (.int .i64 e)).setCell ⟨w.heap.size, 1, none⟩ (.int .i64 (f : Int))).drew w.heap.size (.slice sa ts.length sc) ts :=
        ((((((HO.out.below HB2).below HZB.out).kept (gb_set wz ⟨w.heap.size, 0, none⟩ (.int .i64 e)) (Or.inr (fun x => absurd (HO.out.lt _ x).1 (show ¬ w.heap.size + 1 ≤ w.heap.size by omega)))).kept (gb_set _ ⟨w.heap.size, 1, none⟩ (.int .i64 (f : Int))) (Or.inr (fun x => absurd (HO.out.lt _ x).1 (show ¬ w.heap.size + 1 ≤ w.heap.size by omega)))).kept (gb_drew _ none) (by cases e : (Value.slice sa ts.length sc).ownBlock <;> simp))).le (by omega)
      generalize ((wz.setCell ⟨w.heap.size, 0, none⟩ (.int .i64 e)).setCell ⟨w.heap.size, 1, none⟩ (.int .i64 (f : Int))).drew = w3 at *
      have E3 := hid e3
      have E4 := hid e4
      have EO := hid e5
      clear e3 e4 e5 c1 d0 d1 f0 f1
      go_wp2
      refine ret_tc 2 3 28 rfl _ rfl _ rfl _ _ E3.out _ Tryd.underlying28 rfl (by kernel_rfl) rfl ⟨.slice sa ts.length sc, ?_, ?_, E4.out⟩
      · rw [FIN.out]
        rfl
      · rw [FIN.out]
        exact EO.out
    · have FIN := hid hfin
      rw [hff] at HG HN
      rw [v5] at HN
      clear hff
      clear v5 hfin
      have HN : Hid (∀ W, Calls Tryd.prog 28 #[.string (mk l), .int .i64 (f : Nat)] W fun e1 w' => e1 = .returned (.tuple #[.agg #[.int .i64 (0 : Nat), .int .i64 (f : Nat), .int .i64 (f : Nat)], .int .i64 0]) ∧ Below W.heap.size W w') := HN
      go_wp2_with first
        | (go_at_call 11; refine (HG.out _).mono ?_; rintro e1 w' ⟨rfl, hw'⟩; have hw' := hw'.symm; subst hw')
        | (go_at_call 28; refine (HN.out _).mono ?_; rintro e1 w2 ⟨rfl, HB2⟩)
        | (refine st_tok (by rfl) (.tmp 6) (.tmp 18) (by rfl) (0, f, f) (by rfl) (by rfl) _ (by rfl) ?_; intro wz hz1 hz2 hz3; have HZ2 := hid hz2; have HB2' := hid HB2; have HZ3 := hid hz3; have HZ1 := hid hz1; clear hz1 hz2 hz3 HB2)
        | (refine ld_row (by rfl) 34 (.tmp 6) (by rfl) w2.heap.size (by rfl) (tkC (0, f, f)) 34 HZ2.out _ Tryd.underlying34 rfl Tryd.infoTok ?_; unfold tkC)
        | (refine st_row (by rfl) 28 (.tmp 3) (.tmp 35) (by rfl) w.heap.size [.int .i64 0, .int .i64 0] (by rfl) (by rfl) 28 _ HBF.out (by kernel_rfl) (by rfl) (by intro v hv; simp at hv; rw [hv]; rfl) ?_; intro w5 hw5)
        | (refine app_tok (by rfl) (.tmp 27) (.tmp 29) (by rfl) (w.heap.size + 1) _ ts (by rfl) (((HO.out.below HB2'.out).below (HZ3.out.mono (Nat.le_refl _))).below (below_walk _ _)) wz.heap.size 1 [(0, f, f)] (by rfl) (src_tok wz _) (by have := HL.out.2.1; have := HL.out.1; simp; omega) (by rw [hp_size]; have := HB2'.out.size; have := HZ1.out; omega) ?_
           intro v' w4 ho hg
           have HO4 := hid ho
           have hne : ∀ q, (Value.slice sa ts.length sc).ownBlock = some q → q < wr.heap.size := fun q hq => (HO.out.lt q hq).2
           have HS2 := hid HB2'.out.size
           have hz4 : w4.heap[w2.heap.size]? = some (.cells #[.int .i64 (0 : Nat), .int .i64 (f : Nat), .int .i64 (f : Nat)] 34 (0, 0)) := by
             rw [hg.block w2.heap.size (by rw [hp_size]; have := HZ1.out; omega) (fun e => by have := hne _ e.symm; have := HS2.out; omega), hp_old _ _ _ (by have := HZ1.out; omega)]
             exact HZ2.out
           have HB4 : Hid (Below (w.heap.size + 1) (w.alloc (.cells #[.int .i64 0, .int .i64 0] 28)) w4) := by
             have b1 : Below (w.heap.size + 1) (w.alloc (.cells #[.int .i64 0, .int .i64 0] 28)) (wz.alloc (.cells #[.int .i64 (0 : Nat), .int .i64 (f : Nat), .int .i64 (f : Nat)] 34)) :=
               ((HB.out.trans (HB2'.out.mono (by omega))).trans (HZ3.out.mono (by have := HS2.out; omega))).trans ((below_walk _ _).mono (by have := HS2.out; have := HZ1.out; omega))
             exact b1.grown hg (by rw [hp_size]; have := HS2.out; have := HZ1.out; omega) (fun q hq => (HO.out.lt q hq).1)
           have HBF : Hid (w4.heap[w.heap.size]? = some (.cells #[.int .i64 0, .int .i64 0] 28 (0, 0))) := by
             show w4.heap[w.heap.size]? = _
             rw [HB4.out.block _ (by omega)]; exact hp_new _ _
           have c0 : w4.cell? ⟨w2.heap.size, 0, none⟩ = some (.int .i64 (0 : Nat)) := by rw [cell_of_row _ _ _ _ _ _ hz4]; rfl
           have c2 : w4.cell? ⟨w2.heap.size, 2, none⟩ = some (.int .i64 (f : Nat)) := by rw [cell_of_row _ _ _ _ _ _ hz4]; rfl
           obtain ⟨sa2, sc2, rfl⟩ := HO4.out.shape
           have HL4 : Hid ((ts ++ [(0, f, f)]).length = ts.length + 1) := by show _ = _; simp
           rw [HL4.out]
           rw [HL4.out] at HO4
           clear ho hg hne hz4 HN)
      refine ret_tc 2 3 28 rfl _ rfl _ rfl _ _ hw5.blk _ Tryd.underlying28 rfl (by kernel_rfl) rfl ⟨.slice sa2 (ts.length + 1) sc2, ?_, ?_, ?_⟩
      · rw [FIN.out]
        rfl
      · rw [FIN.out]
        exact (HO4.out.kept hw5.grown (Or.inr (fun e => by have := (HO4.out.lt _ e).1; omega))).le (by omega)
      · exact below_rs hw5 ((below_walk w _).trans (HB4.out.mono (by omega))) (Nat.le_refl _)
    · have FIN := hid hfin
      rw [hff] at HG HN
      rw [v5] at HN
      clear hff
      have hk0 : ¬ (k : Int) = 0 := by omega
      obtain ⟨m, HM⟩ : ∃ m, Hid (f + n = m) := ⟨_, rfl⟩
      rw [HM.out] at HN FIN hkn hkl
      clear v5 hfin hk
      have HN : Hid (∀ W, Calls Tryd.prog 28 #[.string (mk l), .int .i64 (f : Nat)] W fun e1 w' => e1 = .returned (.tuple #[.agg #[.int .i64 (k : Nat), .int .i64 (f : Nat), .int .i64 (m : Nat)], .int .i64 0]) ∧ Below W.heap.size W w') := HN
      go_wp2_with first
        | (go_at_call 11; refine (HG.out _).mono ?_; rintro e1 w' ⟨rfl, hw'⟩; have hw' := hw'.symm; subst hw')
        | (go_at_call 28; refine (HN.out _).mono ?_; rintro e1 w2 ⟨rfl, HB2⟩)
        | (refine st_tok (by rfl) (.tmp 6) (.tmp 18) (by rfl) (k, f, m) (by rfl) (by rfl) _ (by rfl) ?_; intro wz hz1 hz2 hz3; have HZ2 := hid hz2; have HB2' := hid HB2; have HZ3 := hid hz3; have HZ1 := hid hz1; clear hz1 hz2 hz3 HB2)
        | (refine ld_row (by rfl) 34 (.tmp 6) (by rfl) w2.heap.size (by rfl) (tkC (k, f, m)) 34 HZ2.out _ Tryd.underlying34 rfl Tryd.infoTok ?_; unfold tkC)
        | (refine app_tok (by rfl) (.tmp 27) (.tmp 29) (by rfl) (w.heap.size + 1) _ ts (by rfl) (((HO.out.below HB2'.out).below (HZ3.out.mono (Nat.le_refl _))).below (below_walk _ _)) wz.heap.size 1 [(k, f, m)] (by rfl) (src_tok wz _) (by have := HL.out.2.1; have := HL.out.1; simp; omega) (by rw [hp_size]; have := HB2'.out.size; have := HZ1.out; omega) ?_
           intro v' w4 ho hg
           have HO4 := hid ho
           have hne : ∀ q, (Value.slice sa ts.length sc).ownBlock = some q → q < wr.heap.size := fun q hq => (HO.out.lt q hq).2
           have HS2 := hid HB2'.out.size
           have hz4 : w4.heap[w2.heap.size]? = some (.cells #[.int .i64 (k : Nat), .int .i64 (f : Nat), .int .i64 (m : Nat)] 34 (0, 0)) := by
             rw [hg.block w2.heap.size (by rw [hp_size]; have := HZ1.out; omega) (fun e => by have := hne _ e.symm; have := HS2.out; omega), hp_old _ _ _ (by have := HZ1.out; omega)]
             exact HZ2.out
           have HB4 : Hid (Below (w.heap.size + 1) (w.alloc (.cells #[.int .i64 0, .int .i64 0] 28)) w4) := by
             have b1 : Below (w.heap.size + 1) (w.alloc (.cells #[.int .i64 0, .int .i64 0] 28)) (wz.alloc (.cells #[.int .i64 (k : Nat), .int .i64 (f : Nat), .int .i64 (m : Nat)] 34)) :=
               ((HB.out.trans (HB2'.out.mono (by omega))).trans (HZ3.out.mono (by have := HS2.out; omega))).trans ((below_walk _ _).mono (by have := HS2.out; have := HZ1.out; omega))
             exact b1.grown hg (by rw [hp_size]; have := HS2.out; have := HZ1.out; omega) (fun q hq => (HO.out.lt q hq).1)
           have HBF : Hid (w4.heap[w.heap.size]? = some (.cells #[.int .i64 0, .int .i64 0] 28 (0, 0))) := by
             show w4.heap[w.heap.size]? = _
             rw [HB4.out.block _ (by omega)]; exact hp_new _ _
           have c0 : w4.cell? ⟨w2.heap.size, 0, none⟩ = some (.int .i64 (k : Nat)) := by rw [cell_of_row _ _ _ _ _ _ hz4]; rfl
           have c2 : w4.cell? ⟨w2.heap.size, 2, none⟩ = some (.int .i64 (m : Nat)) := by rw [cell_of_row _ _ _ _ _ _ hz4]; rfl
           obtain ⟨sa2, sc2, rfl⟩ := HO4.out.shape
           have HL4 : Hid ((ts ++ [(k, f, m)]).length = ts.length + 1) := by show _ = _; simp
           rw [HL4.out]
           rw [HL4.out] at HO4
           clear ho hg hne hz4 HN)
      exact ⟨⟨m, _, by simp, by rw [← HM.out]; exact (HM.out ▸ FIN.out), HO4.out, HB4.out⟩, by simp [intOf]; omega⟩


set_option maxHeartbeats 2000000 in
theorem rall_long (l : List UInt8) (hl : 65536 < l.length) (w : World) :
    Calls Tryd.prog 15 #[.string (mk l)] w fun e w' => ∃ v, e = .returned (.tuple #[v, .agg #[.int .i64 (raP l).2.1, .int .i64 ((raP l).2.2 : Nat)]]) ∧ OwnT w' w.heap.size v (raP l).1 ∧ Below w.heap.size w w' := by
  have hmk := mk_size l
  have HR : Hid (raP l = ([], 3, 0)) := by show raP l = _; unfold raP; rw [if_pos hl]
  have q0 : (65536 : Int) < (l.length : Int) := by omega
  go_enter Tryd.func15, Tryd.ntmps15
  go_wp2_with (refine st_row (by rfl) 28 (.tmp 3) (.tmp 11) (by rfl) w.heap.size [.int .i64 3, .int .i64 0] (by rfl) (by rfl) 28 _ (hp_new _ _) (by kernel_rfl) (by rfl) (by intro v hv; simp at hv; rcases hv with rfl | rfl <;> rfl) ?_; intro w5 hw5)
  refine ret_tc 2 3 28 rfl _ rfl _ rfl _ _ hw5.blk _ Tryd.underlying28 rfl (by kernel_rfl) rfl ⟨.slice none 0 0, ?_, ?_, below_rs hw5 (below_walk w _) (Nat.le_refl _)⟩
  · rw [HR.out]
    rfl
  · rw [HR.out]
    exact OwnT.nil _ _
theorem rall_any (l : List UInt8) (w : World) :
    Calls Tryd.prog 15 #[.string (mk l)] w fun e w' => ∃ v, e = .returned (.tuple #[v, .agg #[.int .i64 (raP l).2.1, .int .i64 ((raP l).2.2 : Nat)]]) ∧ OwnT w' w.heap.size v (raP l).1 ∧ Below w.heap.size w w' := by
  by_cases hl : 65536 < l.length
  · exact rall_long l hl w
  · exact rall_ok l (by omega) w

set_option maxHeartbeats 2000000 in
theorem rsame_any (ts : List (Nat × Nat × Nat)) (b1 b2 : Nat) (v1 v2 : Value) (w : World) (h1 : OwnT w b1 v1 ts) (h2 : OwnT w b2 v2 ts) (hn : ts.length ≤ 1000000) :
    Calls Tryd.prog 16 #[v1, v2] w fun e w' => e = .returned (.bool true) ∧ ∃ n, w' = w.drewN n := by
  obtain ⟨a1, c1, rfl⟩ := h1.shape
  obtain ⟨a2, c2, rfl⟩ := h2.shape
  have HO1 := hid h1
  have HO2 := hid h2
  clear h1 h2
  go_enter Tryd.func16, Tryd.ntmps16
  go_wp2
  go_loopw [5] (fun i wr => ∃ k q : Nat, i = .int .i64 k ∧ k ≤ ts.length ∧ wr = w.drewN q) (fun i _ => ts.length - (intOf i).toNat)
  case atStart => exact ⟨0, 0, rfl, Nat.zero_le _, rfl⟩
  case round =>
    obtain ⟨i, q, rfl, hi, rfl⟩ := hrel
    by_cases hlt : i < ts.length
    · have q1 : (i : Int) < (ts.length : Int) := by omega
      obtain ⟨g1, rfl, x1⟩ := HO1.out.at i hlt
      obtain ⟨g2, rfl, x2⟩ := HO2.out.at i hlt
      obtain ⟨⟨k, f, m⟩, HK⟩ : ∃ t, Hid (ts.getD i (0, 0, 0) = t) := ⟨_, rfl⟩
      rw [HK.out] at x1 x2
      have u0 : w.cell? ⟨g1, i * 3, none⟩ = some (.int .i64 (k : Nat)) := x1 0 _ rfl
      have u1 : w.cell? ⟨g1, i * 3 + 1, none⟩ = some (.int .i64 (f : Nat)) := x1 1 _ rfl
      have u2 : w.cell? ⟨g1, i * 3 + 2, none⟩ = some (.int .i64 (m : Nat)) := x1 2 _ rfl
      have y0 : w.cell? ⟨g2, i * 3, none⟩ = some (.int .i64 (k : Nat)) := x2 0 _ rfl
      have y1 : w.cell? ⟨g2, i * 3 + 1, none⟩ = some (.int .i64 (f : Nat)) := x2 1 _ rfl
      have y2 : w.cell? ⟨g2, i * 3 + 2, none⟩ = some (.int .i64 (m : Nat)) := x2 2 _ rfl
      clear x1 x2
      go_wp2_with fail
      go_quiet (fail)
      go_wp2
      exact ⟨⟨i + 1, _, by simp, by omega, rfl⟩, by simp [intOf]; omega⟩
    · have q1 : ¬ (i : Int) < (ts.length : Int) := by omega
      go_wp2
      go_ret
      exact ⟨rfl, q, rfl⟩

end Go.Proofs.YtgihbllkjoegcabDoor

/- Filled and Spread: a source with other gaps. -/
namespace Go.Proofs.YtgihbllkjoegcabDoor
open Go.RowKit

theorem mk_addX (l m : List UInt8) : mk l ++ mk m = mk (l ++ m) := by
  unfold mk
  apply ByteArray.ext
  simp [ByteArray.data_append]
theorem str_addX (l m : List UInt8) (h : l.length + m.length ≤ 9223372036854775807) (W : World) : (Op.stringOp .add (mk l) (mk m)).run Tryd.prog W = .ok (.string (mk (l ++ m))) W := by
  have hs : ¬ ((((mk l).size + (mk m).size : Nat) : Int) > IntKind.i64.max) := by
    rw [mk_size, mk_size, show IntKind.i64.max = 9223372036854775807 from rfl]
    omega
  simp only [Op.stringOp]
  rw [if_neg hs, mk_addX]
  rfl

/-- slices of bytes that were handed in -/
def Gps (w : World) (v : Value) (gs : List (List UInt8)) : Prop :=
  (∃ ao c, v = .slice ao 0 c ∧ gs = []) ∨ ∃ g o c, v = .slice (some ⟨g, o, none⟩) gs.length c ∧ g < w.heap.size ∧ ∀ j, j < gs.length → ∃ u, w.cell? ⟨g, o + j, none⟩ = some u ∧ Src w u (gs.getD j [])
theorem Gps.below {w w' : World} {v : Value} {gs : List (List UInt8)} (h : Gps w v gs) (hb : Below w.heap.size w w') : Gps w' v gs := by
  rcases h with h | ⟨g, o, c, hv, hlt, hc⟩
  · exact Or.inl h
  · refine Or.inr ⟨g, o, c, hv, Nat.lt_of_lt_of_le hlt hb.size, fun j hj => ?_⟩
    obtain ⟨u, h1, h2⟩ := hc j hj
    exact ⟨u, by rw [hb.cell (p := ⟨g, o + j, none⟩) hlt]; exact h1, h2.below hb⟩
theorem Gps.shape {w : World} {v : Value} {gs : List (List UInt8)} (h : Gps w v gs) : ∃ ao c, v = .slice ao gs.length c := by
  rcases h with ⟨ao, c, rfl, rfl⟩ | ⟨g, o, c, rfl, _⟩
  · exact ⟨_, _, rfl⟩
  · exact ⟨_, _, rfl⟩
theorem Gps.at {w : World} {ao : Option Addr} {n c : Nat} {gs : List (List UInt8)} (h : Gps w (.slice ao n c) gs) (j : Nat) (hj : j < gs.length) :
    ∃ g o u, ao = some ⟨g, o, none⟩ ∧ w.cell? ⟨g, o + j, none⟩ = some u ∧ Src w u (gs.getD j []) := by
  rcases h with ⟨_, _, _, rfl⟩ | ⟨g, o, c, hv, _, hc⟩
  · simp at hj
  · injection hv with h1 _ _
    obtain ⟨u, h2, h3⟩ := hc j hj
    exact ⟨g, o, u, h1, h2, h3⟩

theorem u8_rem (c : UInt8) : ∃ r : Nat, r < 6 ∧ ((c.toNat : Nat) : Int).tmod 6 = (r : Int) ∧ (∀ k : UInt8, k.toNat < 6 → (c % 6 = k ↔ r = k.toNat)) := by
  refine ⟨c.toNat % 6, Nat.mod_lt _ (by omega), ?_, fun k hk => ?_⟩
  · rw [Int.tmod_eq_emod_of_nonneg (by omega)]; rfl
  · constructor
    · intro h; rw [← h, UInt8.toNat_mod]; rfl
    · intro h
      apply UInt8.toNat.inj
      rw [UInt8.toNat_mod, ← h]; rfl
theorem pcG_of (c : UInt8) : ∃ r : Nat, ((c.toNat : Nat) : Int).tmod 6 = (r : Int) ∧ ((r = 0 ∧ pcG c = [32]) ∨ (r = 1 ∧ pcG c = [9]) ∨ (r = 2 ∧ pcG c = [10]) ∨ (r = 3 ∧ pcG c = [13]) ∨ (r = 4 ∧ pcG c = [47, 47, 32, 120, 10]) ∨ (r = 5 ∧ pcG c = [47, 47, 34, 10])) := by
  obtain ⟨r, h1, h2, h3⟩ := u8_rem c
  refine ⟨r, h2, ?_⟩
  have k0 := h3 0 (by decide)
  have k1 := h3 1 (by decide)
  have k2 := h3 2 (by decide)
  have k3 := h3 3 (by decide)
  have k4 := h3 4 (by decide)
  simp only [show (0 : UInt8).toNat = 0 from rfl, show (1 : UInt8).toNat = 1 from rfl, show (2 : UInt8).toNat = 2 from rfl, show (3 : UInt8).toNat = 3 from rfl, show (4 : UInt8).toNat = 4 from rfl] at k0 k1 k2 k3 k4
  unfold pcG
  simp only [k0, k1, k2, k3, k4]
  have : r = 0 ∨ r = 1 ∨ r = 2 ∨ r = 3 ∨ r = 4 ∨ r = 5 := by omega
  rcases this with rfl | rfl | rfl | rfl | rfl | rfl <;> simp
theorem take_getD (ks : List UInt8) (k : Nat) (h : k < ks.length) : ks.take (k + 1) = ks.take k ++ [ks.getD k 0] := by
  rw [List.take_add_one, List.getElem?_eq_getElem h]; simp [List.getD_eq_getElem?_getD, h]

theorem mk_L0 : mk [32] = ⟨#[32]⟩ := rfl
theorem mk_L1 : mk [9] = ⟨#[9]⟩ := rfl
theorem mk_L2 : mk [10] = ⟨#[10]⟩ := rfl
theorem mk_L3 : mk [13] = ⟨#[13]⟩ := rfl
theorem mk_L4 : mk [47, 47, 32, 120, 10] = ⟨#[47, 47, 32, 120, 10]⟩ := rfl
theorem mk_L5 : mk [47, 47, 34, 10] = ⟨#[47, 47, 34, 10]⟩ := rfl

set_option maxRecDepth 100000 in
set_option maxHeartbeats 4000000 in
theorem filled_any (w : World) (v : Value) (ks : List UInt8) (hs : Src w v ks) (hl : ks.length ≤ 1048576) :
    Calls Tryd.prog 17 #[v] w fun e w' => e = .returned (.string (mk (filP ks))) ∧ w' = w := by
  obtain ⟨ao, cv, rfl⟩ : ∃ ao c, v = .slice ao ks.length c := by
    rcases hs.2 with ⟨rfl, rfl⟩ | ⟨ad, cap, rfl, _⟩
    · exact ⟨_, _, rfl⟩
    · exact ⟨_, _, rfl⟩
  have HS := hid hs
  clear hs
  go_enter Tryd.func17, Tryd.ntmps17
  go_wp2
  go_loopw [4, 3] (fun vi vs wr => ∃ k : Nat, k ≤ ks.length ∧ vi = .int .i64 k ∧ vs = .string (mk (filF (ks.take k))) ∧ wr = w) (fun vi _ _ => ks.length - (intOf vi).toNat)
  case atStart => exact ⟨0, by omega, rfl, rfl, rfl⟩
  case round =>
    obtain ⟨k, hk, rfl, rfl, hwr⟩ := hrel
    have hwr := hwr.symm
    subst hwr
    by_cases hlt : k < ks.length
    · rcases HS.out.2 with ⟨_, e0⟩ | ⟨ad, cap, e, hc1, hc2, hc3, hc⟩
      · rw [e0] at hlt; simp at hlt
      · injection e with e1 e2 e3
        subst e1
        have hck := hc k hlt
        have hst := congrArg filF (take_getD ks k hlt)
        rw [filF_snoc] at hst
        generalize ks.getD k 0 = c at hck hst
        have hfl := filF_len (ks.take k)
        have hfk : (ks.take k).length ≤ 1048576 := by simp; omega
        generalize filF (ks.take k) = F at hst hfl ⊢
        obtain ⟨F2, HF2⟩ : ∃ F2, Hid (filF (ks.take (k + 1)) = F2) := ⟨_, rfl⟩
        rw [HF2.out] at hst
        obtain ⟨r, hr, hcase⟩ := pcG_of c
        generalize hcn : ((c.toNat : Nat) : Int) = C at hck hr
        have hC0 : (0 : Int) ≤ C := by omega
        clear hc hc3 hcn
        rcases hcase with ⟨h0, hp⟩ | ⟨h0, hp⟩ | ⟨h0, hp⟩ | ⟨h0, hp⟩ | ⟨h0, hp⟩ | ⟨h0, hp⟩
        all_goals
          subst h0
          have hadd := str_addX F (pcG c) (by rw [hp]; simp; omega)
          rw [← hst, hp] at hadd
          simp only [mk_L0, mk_L1, mk_L2, mk_L3, mk_L4, mk_L5] at hadd
          clear hst hp hfl hfk
          go_wp2
          exact ⟨⟨k + 1, hlt, by simp, by rw [HF2.out], trivial⟩, by simp [intOf]; omega⟩
    · have e : ks.take k = ks := List.take_of_length_le (by omega)
      rw [e]
      have hfl := filF_len ks
      have hadd := str_addX (filF ks) [32] (by simp; omega)
      have hadd : ∀ W, (Op.stringOp .add (mk (filF ks)) ⟨#[32]⟩).run Tryd.prog W = .ok (.string (mk (filP ks))) W := hadd
      obtain ⟨P, HP⟩ : ∃ P, Hid (filP ks = P) := ⟨_, rfl⟩
      rw [HP.out] at hadd
      generalize filF ks = F at hadd hfl ⊢
      go_wp2
      go_ret
      exact ⟨by rw [HP.out]; rfl, rfl⟩

theorem src_new (w : World) (b : UInt8) : Src (w.alloc (.cells #[.int .u8 ((b.toNat : Nat) : Int)] 5)) (.slice (some ⟨w.heap.size, 0, none⟩) 1 1) [b] := by
  refine ⟨by simp, Or.inr ⟨⟨w.heap.size, 0, none⟩, 1, rfl, Nat.le_refl _, by unfold maxLen; omega, fun _ => by simp, fun j hj => ?_⟩⟩
  obtain rfl : j = 0 := by simpa using hj
  have h : (⟨w.heap.size, 0, none⟩ : Addr).add 0 = ⟨w.heap.size, 0, none⟩ := rfl
  rw [h, cell_of_row _ _ _ _ _ _ (hp_new _ _)]
  rfl

theorem below_drewX (w : World) : Below w.heap.size w w.drew := ⟨rfl, rfl, rfl, Nat.le_refl _, fun _ _ => rfl⟩
/-- what Spread answers -/
def SpOut (l : List UInt8) (gs : List (List UInt8)) (w : World) (e : Ending) (w' : World) : Prop :=
  Below w.heap.size w w' ∧ ((∃ s, e = .returned (.tuple #[.string s, .bool false])) ∨ ∃ ts, l.length ≤ 65536 ∧ Lx l 0 ts ∧ (sprF l gs ts 0).length ≤ 65536 ∧ e = .returned (.tuple #[.string (mk (sprF l gs ts 0)), .bool true]))
theorem ra_view (l : List UInt8) : (∃ (ts : List (Nat × Nat × Nat)) (e : Int) (p : Nat), e ≠ 0 ∧ raP l = (ts, e, p)) ∨ ∃ ts, l.length ≤ 65536 ∧ Lx l 0 ts ∧ raP l = (ts, 0, 0) := by
  unfold raP
  by_cases hl : 65536 < l.length
  · rw [if_pos hl]; exact Or.inl ⟨_, _, _, by decide, rfl⟩
  · rw [if_neg hl]
    rcases all_view (l := l) (Nat.zero_le _) with ⟨ts, h1, h2⟩ | ⟨ts, e, p, h1, h2⟩
    · exact Or.inr ⟨ts, by omega, h1, h2⟩
    · exact Or.inl ⟨ts, e, p, by have := h1.num; omega, h2⟩
theorem Lx.at {l : List UInt8} {a : Nat} {ts : List (Nat × Nat × Nat)} (h : Lx l a ts) (k : Nat) (hk : k < ts.length) : ∃ y f m, ts.getD k (0, 0, 0) = (y, f, m) ∧ f ≤ m ∧ m ≤ l.length := by
  rcases h.mem _ (getD_mem hk) with h | ⟨y, f, n, h, _, _, _, h2, _⟩
  · exact ⟨_, _, _, h, Nat.le_refl _, Nat.le_refl _⟩
  · exact ⟨_, _, _, h, by omega, h2⟩
theorem spr_take (l : List UInt8) (gs : List (List UInt8)) (ts : List (Nat × Nat × Nat)) (k : Nat) (hk : k < ts.length) :
    sprF l gs (ts.take (k + 1)) 0 = sprF l gs (ts.take k) 0 ++ (gpG gs k ++ txT l (ts.getD k (0, 0, 0))) := by
  have e : ts.take (k + 1) = ts.take k ++ [ts.getD k (0, 0, 0)] := by
    rw [List.take_add_one, List.getElem?_eq_getElem hk]; simp [List.getD_eq_getElem?_getD, hk]
  rw [e, spr_snoc, List.length_take, Nat.min_eq_left (by omega), Nat.zero_add]

set_option maxRecDepth 100000 in
set_option maxHeartbeats 8000000 in
theorem spread_any (l : List UInt8) (w : World) (vg : Value) (gs : List (List UInt8)) (hg : Gps w vg gs) (hn : gs.length ≤ 1048576) (hgl : ∀ g ∈ gs, g.length ≤ 1048576) :
    Calls Tryd.prog 8 #[.string (mk l), vg] w (SpOut l gs w) := by
  have H1 := hid (rall_any l w)
  obtain ⟨ag, cg, rfl⟩ := hg.shape
  have HG := hid hg
  have HGL := hid hgl
  clear hg hgl
  rcases ra_view l with ⟨ts, e, p, he, h1⟩ | ⟨ts, hl, hx, h1⟩
  · rw [h1] at H1
    have he0 : ¬ e = 0 := he
    clear h1 he
    go_enter Tryd.func8, Tryd.ntmps8
    go_wp2_with (go_at_call 15; refine H1.out.mono ?_; rintro e1 w2 ⟨v, rfl, ho, hb⟩
                 obtain ⟨sa, sc, rfl⟩ := ho.shape
                 have HB := hid hb
                 clear ho hb)
    go_ret2
    exact ⟨HB.out.alloc HB.out.size _, Or.inl ⟨_, rfl⟩⟩
  · rw [h1] at H1
    have HX := hid hx
    have hlen : (ts.length : Int) ≤ 65537 := by have := hx.len; omega
    have hmk := mk_size l
    clear h1 hx
    go_enter Tryd.func8, Tryd.ntmps8
    go_wp2_with (go_at_call 15; refine H1.out.mono ?_; rintro e1 w2 ⟨v, rfl, ho, hb⟩
                 obtain ⟨sa, sc, rfl⟩ := ho.shape
                 have HB := hid hb
                 have HO := hid ho
                 clear ho hb)
    go_loopw [9, 8] (fun vi vb wr => ∃ (k : Nat) (bs : List UInt8), k ≤ ts.length ∧ vi = .int .i64 k ∧ Hid (bs = sprF l gs (ts.take k) 0) ∧ bs.length ≤ 65536 ∧ Hid (OwnB wr w2.heap.size vb bs) ∧ Hid (Below w2.heap.size w2 wr)) (fun vi _ _ => ts.length - (intOf vi).toNat)
    case atStart => exact ⟨0, [], by omega, rfl, hid rfl, by simp, hid (OwnB.nil _ _), hid (below_walk _ _)⟩
    case round =>
      obtain ⟨k, bs, hk, rfl, HBS, hbs, HOB, HB2⟩ := hrel
      obtain ⟨ab, cb, rfl⟩ := HOB.out.shape
      by_cases hlt : k < ts.length
      · have q1 : (k : Int) < (ts.length : Int) := by omega
        have HST := hid (spr_take l gs ts k hlt)
        obtain ⟨y, f, m, ht, hfm, hml⟩ := HX.out.at k hlt
        rw [ht] at HST
        rw [← HBS.out] at HST
        have hs2 := sl_mid l f m hfm hml
        have htx : txT l (y, f, m) = (l.drop f).take (m - f) := rfl
        rw [htx] at HST
        have htl : ((l.drop f).take (m - f)).length ≤ 65536 := by rw [List.length_take, List.length_drop]; omega
        generalize (l.drop f).take (m - f) = T at HST hs2 htl
        have HT := hid (fun (W : World) (hW : Below w2.heap.size w2 W) => by
          have := (HO.out.below hW).at k hlt
          rw [ht] at this
          exact this : ∀ (W : World), Below w2.heap.size w2 W → ∃ g, sa = some ⟨g, 0, none⟩ ∧ ∀ j v, (tkC (y, f, m))[j]? = some v → W.cell? ⟨g, k * 3 + j, none⟩ = some v)
        clear htx ht
        -- the blank ahead
        go_upto_region 9 with (first
          | (refine app_src rfl (.tmp 24) (.tmp 25) rfl w2.heap.size (.slice ab bs.length cb) bs rfl (HOB.out.below (below_walk wr _)) _ [32] rfl (src_new wr 32) (by simp; omega) (by rw [World.size_alloc]; have := HB2.out.size; omega) ?_
             intro v3 w3 ho3 hg3
             have HO3 := hid ho3
             have HB3 : Hid (Below w2.heap.size w2 w3) := hid ((HB2.out.alloc HB2.out.size _).grown hg3 (by rw [World.size_alloc]; have := HB2.out.size; omega) (fun q hq => (HOB.out.lt q hq).1))
             clear ho3 hg3))
        try simp only [Act.put, List.setIfInBounds_toArray, List.set_cons_succ, List.set_cons_zero]
        obtain ⟨a3, c3, rfl⟩ := HO3.out.shape
        by_cases hz : gs.length = 0
        · as_aux_lemma =>
          have HFIN : Hid (sprF l gs (ts.take (k + 1)) 0 = bs ++ [32] ++ T) := hid (by rw [HST.out, show gpG gs k = [32] by simp [gpG, hz], List.append_assoc])
          obtain ⟨B3, HB3L⟩ : ∃ B3, Hid (bs ++ [32] = B3) := ⟨_, hid rfl⟩
          have h3l : B3.length ≤ 65537 := by rw [← HB3L.out]; simp; omega
          rw [HB3L.out] at HO3 HFIN ⊢
          have hz2 : ¬ (0 : Int) < (gs.length : Int) := by omega
          clear hz
          go_upto_region 11 with fail
          obtain ⟨gt, hsa, hct⟩ := HT.out w3 HB3.out
          subst hsa
          have HOX : Hid (OwnB w3.drew w2.heap.size (.slice a3 B3.length c3) B3) := hid (HO3.out.below (below_drewX w3))
          have HBX : Hid (Below w2.heap.size w2 w3.drew) := hid (HB3.out.trans ((below_drewX w3).mono HB3.out.size))
          have c1 : w3.drew.cell? ⟨gt, k * 3 + 1, none⟩ = some (.int .i64 (f : Nat)) := hct 1 _ rfl
          have c2 : w3.drew.cell? ⟨gt, k * 3 + 2, none⟩ = some (.int .i64 (m : Nat)) := hct 2 _ rfl
          have hsz6 := HBX.out.size
          clear hct HT
          go_upto_region 11 with fail
          obtain ⟨X, HX⟩ : ∃ X : World, Hid (X = w3.drew) := ⟨_, rfl⟩
          rw [← HX.out] at HOX HBX c1 c2 hsz6
          refine wp_region_still_tail 13 (by kernel_rfl) (by kernel_rfl) ?_
          simp only [List.take_succ_cons, List.take_zero, List.drop_succ_cons, List.drop_zero]
          rw [show ({ w3 with drawn := w3.drawn + 1 } : World) = X from HX.out.symm]
          repeat still_step
          refine wpStill_nil ?_
          go_wp2_with (at_builtin; refine app_str rfl _ _ rfl w2.heap.size _ B3 rfl HOX.out _ rfl ?c1 (by exact hsz6) ?_)
          case c1 => rw [mk_size]; omega
          intro v6 w6 ho6 hg6
          try simp only [Act.put, List.setIfInBounds_toArray, List.set_cons_succ, List.set_cons_zero]
          have ho6 : OwnB w6 w2.heap.size v6 (B3 ++ T) := by simpa [mk] using ho6
          have HB6 : Hid (Below w2.heap.size w2 w6) := hid (HBX.out.grown hg6 hsz6 (fun q hq => (HOX.out.lt q hq).1))
          have hfin := HFIN.out
          have hlen6 : (B3 ++ T).length = B3.length + T.length := List.length_append
          obtain ⟨a6, c6, rfl⟩ := ho6.shape
          generalize B3 ++ T = B6 at ho6 hfin hlen6 ⊢
          have HO6 := hid ho6
          have HF6 := hid hfin
          have HL6 := hid hlen6
          clear ho6 hg6 hfin hsz6 c1 c2 hlen6
          by_cases h65 : 65536 < B6.length
          · have hi65 : (65536 : Int) < (B6.length : Int) := by omega
            go_wp2
            go_ret2
            exact ⟨HB.out.trans (HB6.out.mono HB.out.size), Or.inl ⟨_, rfl⟩⟩
          · have hi65 : ¬ (65536 : Int) < (B6.length : Int) := by omega
            go_wp2
            exact ⟨⟨k + 1, B6, hlt, by simp, hid HF6.out.symm, by omega, HO6, HB6⟩, by simp [intOf]; omega⟩
        · as_aux_lemma =>
          have hgn : gs.length ≤ 1048576 := hn
          have hil : k % gs.length < gs.length := Nat.mod_lt _ (by omega)
          obtain ⟨gg, og, u, hag, hcu, hsu⟩ := (HG.out.below (HB.out.trans (HB3.out.mono HB.out.size))).at (k % gs.length) hil
          subst hag
          have hlk : (gs.getD (k % gs.length) []).length ≤ 1048576 := HGL.out _ (by rw [List.getD_eq_getElem?_getD, List.getElem?_eq_getElem hil]; exact List.getElem_mem _)
          have HFL := hid (filled_any w3 u _ hsu hlk)
          have hfl : (filP (gs.getD (k % gs.length) [])).length ≤ 5242881 := by have := filF_len (gs.getD (k % gs.length) []); unfold filP; rw [List.length_append, List.length_singleton]; omega
          have HFIN : Hid (sprF l gs (ts.take (k + 1)) 0 = bs ++ [32] ++ filP (gs.getD (k % gs.length) []) ++ T) := hid (by rw [HST.out, show gpG gs k = 32 :: filP (gs.getD (k % gs.length) []) by unfold gpG; rw [if_neg hz]]; simp [List.append_assoc])
          generalize filP (gs.getD (k % gs.length) []) = P at HFL hfl HFIN
          have hrem : (k : Int).tmod (gs.length : Int) = ((k % gs.length : Nat) : Int) := by rw [Int.tmod_eq_emod_of_nonneg (by omega)]; rfl
          have hgp : (0 : Int) < (gs.length : Int) := by omega
          have hg0 : ¬ (gs.length : Int) = 0 := by omega
          generalize k % gs.length = i at *
          obtain ⟨B3, HB3L⟩ : ∃ B3, Hid (bs ++ [32] = B3) := ⟨_, hid rfl⟩
          have h3l : B3.length ≤ 65537 := by rw [← HB3L.out]; simp; omega
          rw [HB3L.out] at HO3 HFIN ⊢
          clear hsu HGL HG HST hz
          go_upto_region 11 with (first
            | (go_at_call 17; refine HFL.out.mono ?_; rintro e w4 ⟨rfl, hw4⟩; have hw4 := hw4.symm; subst hw4)
            | (at_builtin; refine app_str rfl _ _ rfl w2.heap.size _ B3 rfl HO3.out _ rfl (by rw [mk_size]; omega) (by exact HB3.out.size) ?_
               intro v5 w5 ho5 hg5
               have ho5 : OwnB w5 w2.heap.size v5 (B3 ++ P) := by simpa [mk] using ho5
               have HB5 : Hid (Below w2.heap.size w2 w5) := hid (HB3.out.grown hg5 HB3.out.size (fun q hq => (HO3.out.lt q hq).1))
               have HO5 := hid ho5
               clear ho5 hg5))
          try simp only [Act.put, List.setIfInBounds_toArray, List.set_cons_succ, List.set_cons_zero]
          obtain ⟨a5, c5, rfl⟩ := HO5.out.shape
          have h5l : (B3 ++ P).length ≤ 5400000 := by simp; omega
          generalize B3 ++ P = B5 at HO5 HFIN h5l ⊢
          obtain ⟨gt, hsa, hct⟩ := HT.out w5 HB5.out
          subst hsa
          have HOX : Hid (OwnB w5.drew w2.heap.size (.slice a5 B5.length c5) B5) := hid (HO5.out.below (below_drewX w5))
          have HBX : Hid (Below w2.heap.size w2 w5.drew) := hid (HB5.out.trans ((below_drewX w5).mono HB5.out.size))
          have c1 : w5.drew.cell? ⟨gt, k * 3 + 1, none⟩ = some (.int .i64 (f : Nat)) := hct 1 _ rfl
          have c2 : w5.drew.cell? ⟨gt, k * 3 + 2, none⟩ = some (.int .i64 (m : Nat)) := hct 2 _ rfl
          have hsz6 := HBX.out.size
          clear hct HT
          go_upto_region 11 with fail
          obtain ⟨X, HX⟩ : ∃ X : World, Hid (X = w5.drew) := ⟨_, rfl⟩
          rw [← HX.out] at HOX HBX c1 c2 hsz6
          refine wp_region_still_tail 13 (by kernel_rfl) (by kernel_rfl) ?_
          simp only [List.take_succ_cons, List.take_zero, List.drop_succ_cons, List.drop_zero]
          rw [show ({ w5 with drawn := w5.drawn + 1 } : World) = X from HX.out.symm]
          repeat still_step
          refine wpStill_nil ?_
          go_wp2_with (at_builtin; refine app_str rfl _ _ rfl w2.heap.size _ B5 rfl HOX.out _ rfl ?c1 (by exact hsz6) ?_)
          case c1 => rw [mk_size]; omega
          intro v6 w6 ho6 hg6
          try simp only [Act.put, List.setIfInBounds_toArray, List.set_cons_succ, List.set_cons_zero]
          have ho6 : OwnB w6 w2.heap.size v6 (B5 ++ T) := by simpa [mk] using ho6
          have HB6 : Hid (Below w2.heap.size w2 w6) := hid (HBX.out.grown hg6 hsz6 (fun q hq => (HOX.out.lt q hq).1))
          have hfin := HFIN.out
          have hlen6 : (B5 ++ T).length = B5.length + T.length := List.length_append
          obtain ⟨a6, c6, rfl⟩ := ho6.shape
          generalize B5 ++ T = B6 at ho6 hfin hlen6 ⊢
          have HO6 := hid ho6
          have HF6 := hid hfin
          have HL6 := hid hlen6
          clear ho6 hg6 hfin hsz6 c1 c2 hlen6
          by_cases h65 : 65536 < B6.length
          · have hi65 : (65536 : Int) < (B6.length : Int) := by omega
            go_wp2
            go_ret2
            exact ⟨HB.out.trans (HB6.out.mono HB.out.size), Or.inl ⟨_, rfl⟩⟩
          · have hi65 : ¬ (65536 : Int) < (B6.length : Int) := by omega
            go_wp2
            exact ⟨⟨k + 1, B6, hlt, by simp, hid HF6.out.symm, by omega, HO6, HB6⟩, by simp [intOf]; omega⟩
      · have hke : k = ts.length := by omega
        have q1 : ¬ (k : Int) < (ts.length : Int) := by omega
        have e := HBS.out
        rw [hke, List.take_length] at e
        have hcv := run_str (HOB.out.src (by omega))
        have HE := hid e
        clear e
        go_wp2
        go_ret2
        refine ⟨HB.out.trans (HB2.out.mono HB.out.size), Or.inr ⟨ts, hl, HX.out, by rw [← HE.out]; exact hbs, ?_⟩⟩
        rw [← HE.out]; rfl

end Go.Proofs.YtgihbllkjoegcabDoor

/- LexSpreads: blanks and remarks do not matter. -/
namespace Go.Proofs.YtgihbllkjoegcabDoor
open Go.RowKit

theorem al_of {l : List UInt8} {ts : List (Nat × Nat × Nat)} (hl : l.length ≤ 65536) (h : Lx l 0 ts) : alP l = (ts, 0, 0) := by
  unfold alP
  rw [if_neg (by omega), h.all, if_pos rfl]

set_option maxRecDepth 100000 in
set_option maxHeartbeats 8000000 in
theorem spreads_any (w : World) (l : List UInt8) (hl : l.length ≤ 140737488355328) (vg : Value) (gs : List (List UInt8)) (hg : Gps w vg gs) (hn : gs.length ≤ 1048576) (hgl : ∀ g ∈ gs, g.length ≤ 1048576) (hT : Tabs w) :
    Calls Tryd.prog 3 #[.string (mk l), vg] w fun e w' => e = .returned (.bool true) ∧ Below w.heap.size w w' := by
  have HSP := hid (spread_any l w vg gs hg hn hgl)
  have HA := hid awake_any
  have HT := hid hT
  have hsz := mk_size l
  clear hT
  obtain ⟨ag, cg, rfl⟩ := hg.shape
  clear hg hn hgl
  go_enter Tryd.func3, Tryd.ntmps3
  go_wp2_with fail
  refine HSP.out.mono ?_
  rintro e w2 ⟨hb2, ⟨s, rfl⟩ | ⟨ts, h65, hx, hs65, rfl⟩⟩
  · have HB2 := hid hb2
    have H1 := hid (all_any l hl w2 (HT.out.below hb2))
    obtain ⟨TS, EE, PP, HAL⟩ : ∃ a b c, Hid (alP l = (a, b, c)) := ⟨_, _, _, hid rfl⟩
    rw [HAL.out] at H1
    clear hb2 HSP
    have H1 : Hid (Calls Tryd.prog 9 #[.string (mk l)] w2 fun e w' => ∃ v, e = .returned (.tuple #[v, .agg #[.int .i64 EE, .int .i64 (PP : Nat)]]) ∧ OwnT w' w2.heap.size v TS ∧ Below w2.heap.size w2 w') := H1
    go_wp2_with first
      | (go_at_call 9; refine H1.out.mono ?_; rintro e1 w3 ⟨v, rfl, ho, hb⟩
         obtain ⟨sa, sc, rfl⟩ := ho.shape
         have HB := hid hb
         clear ho hb)
      | (go_at_call 10; refine (HA.out _ (HT.out.below ((HB2.out.trans (HB.out.mono HB2.out.size)).trans ((below_walk _ _).mono (Nat.le_trans HB2.out.size HB.out.size))))).mono ?_; rintro e1 w4 ⟨rfl, hb4⟩)
    go_ret
    exact ⟨rfl, ((HB2.out.trans (HB.out.mono HB2.out.size)).trans ((below_walk _ _).mono (Nat.le_trans HB2.out.size HB.out.size))).trans (hb4.mono (by rw [hp_size]; have := HB2.out.size; have := HB.out.size; omega))⟩
  · have HB2 := hid hb2
    have HX := hid hx
    have H1 := hid (all_any l hl w2 (HT.out.below hb2))
    rw [al_of h65 hx] at H1
    obtain ⟨S, HS⟩ : ∃ S, Hid (sprF l gs ts 0 = S) := ⟨_, hid rfl⟩
    rw [HS.out] at hs65 ⊢
    obtain ⟨us, HU⟩ : ∃ us, Hid (sprT l gs ts 0 0 = us) := ⟨_, hid rfl⟩
    have hxs : Lx S 0 us := by rw [← HU.out]; exact spr_lx l gs S ts 0 hx 0 0 (Nat.zero_le _) (by rw [List.drop_zero, HS.out])
    have hul : us.length = ts.length := by rw [← HU.out]; exact sprT_len l gs ts 0 0
    have HAT : Hid (∀ j, j < ts.length → (us.getD j (0, 0, 0)).1 = (ts.getD j (0, 0, 0)).1 ∧ txT S (us.getD j (0, 0, 0)) = txT l (ts.getD j (0, 0, 0))) := hid (by rw [← HU.out]; exact spr_at l gs S ts 0 hx 0 0 (by rw [List.drop_zero, HS.out]))
    have H2 := hid (fun W hW => all_any S (by omega) W hW)
    rw [al_of hs65 hxs] at H2
    have HXS := hid hxs
    have HUL := hid hul
    have hmk2 := mk_size S
    have hlen : (ts.length : Int) ≤ 65537 := by have := hx.len; omega
    clear hb2 hx hxs HSP hul
    have H1 : Hid (Calls Tryd.prog 9 #[.string (mk l)] w2 fun e w' => ∃ v, e = .returned (.tuple #[v, .agg #[.int .i64 0, .int .i64 ((0 : Nat) : Int)]]) ∧ OwnT w' w2.heap.size v ts ∧ Below w2.heap.size w2 w') := H1
    have H2 : Hid (∀ W, Tabs W → Calls Tryd.prog 9 #[.string (mk S)] W fun e w' => ∃ v, e = .returned (.tuple #[v, .agg #[.int .i64 0, .int .i64 ((0 : Nat) : Int)]]) ∧ OwnT w' W.heap.size v us ∧ Below W.heap.size W w') := H2
    go_wp2_with fail
    refine H1.out.mono ?_
    rintro e1 w3 ⟨v, rfl, ho, hb⟩
    obtain ⟨sa, sc, rfl⟩ := ho.shape
    have HB3 := hid (HB2.out.trans (hb.mono HB2.out.size))
    have HO := hid ho
    clear ho hb H1
    go_wp2_with fail
    refine (H2.out _ (HT.out.below (HB3.out.trans ((below_walk w3 _).mono HB3.out.size)))).mono ?_
    rintro e1 w4 ⟨v, rfl, ho, hb⟩
    obtain ⟨sb, sd, rfl⟩ := ho.shape
    have HB4 := hid ((HB3.out.trans ((below_walk w3 _).mono HB3.out.size)).trans (hb.mono (by rw [hp_size]; have := HB3.out.size; omega)))
    have HO4 := hid ((HO.out.below (below_walk w3 _)).below hb)
    have HM4 := hid ho
    have HBL := hid hb
    rw [HUL.out] at HM4 ⊢
    clear ho hb HO HB3 H2
    have hz3 : w3.heap.size < (w3.alloc (.cells #[.int .i64 0, .int .i64 ((0 : Nat) : Int)] 28)).heap.size := by rw [hp_size]; omega
    have k0 := (HBL.out.block w3.heap.size hz3).trans (hp_new w3 _)
    have HZ4 : Hid (w3.heap.size < w4.heap.size) := hid (hp_lt k0)
    go_upto_region 6 with fail
    have hb5 := below_walk w4 (.cells #[.int .i64 0, .int .i64 ((0 : Nat) : Int)] 28)
    have k1 := hp_new w4 (.cells #[.int .i64 0, .int .i64 ((0 : Nat) : Int)] 28)
    have k2 := (hb5.block w3.heap.size HZ4.out).trans k0
    have f0 := (cell_of_row _ _ 0 _ _ _ k1).trans rfl
    have f1 := (cell_of_row _ _ 1 _ _ _ k1).trans rfl
    have f2 := (cell_of_row _ _ 0 _ _ _ k2).trans rfl
    have f3 := (cell_of_row _ _ 1 _ _ _ k2).trans rfl
    have HB5 := hid (HB4.out.trans (hb5.mono HB4.out.size))
    have HO5 := hid (HO4.out.below hb5)
    have HM5 := hid (HM4.out.below hb5)
    generalize w4.alloc (.cells #[.int .i64 0, .int .i64 ((0 : Nat) : Int)] 28) = w5 at f0 f1 f2 f3 HB5 HO5 HM5 ⊢
    clear HO4 HM4 HB4 hb5 k0 k1 k2 hz3 HBL
    go_wp2_with fail
    go_loopw [11] (fun vi wr => ∃ k : Nat, k ≤ ts.length ∧ vi = .int .i64 k ∧ Hid (Below w5.heap.size w5 wr)) (fun vi _ => ts.length - (intOf vi).toNat)
    case atStart => exact ⟨0, by omega, rfl, hid (Below.refl _ _)⟩
    case round =>
      obtain ⟨k, hk, rfl, HW⟩ := hrel
      by_cases hlt : k < ts.length
      · as_aux_lemma =>
        have q1 : (k : Int) < (ts.length : Int) := by omega
        obtain ⟨y, f, m, ht, hfm, hml⟩ := HX.out.at k hlt
        obtain ⟨y2, f2, m2, hu, hfm2, hml2⟩ := HXS.out.at k (by rw [HUL.out]; exact hlt)
        obtain ⟨e1, e2⟩ := HAT.out k hlt
        obtain ⟨g, hsa, hc⟩ := (HO5.out.below HW.out).at k hlt
        obtain ⟨g2, hsb, hd⟩ := (HM5.out.below HW.out).at k (by rw [HUL.out]; exact hlt)
        rw [ht] at e1 e2 hc
        rw [hu] at e1 e2 hd
        have e1 : y2 = y := e1
        subst e1
        subst hsa
        subst hsb
        have s1 := sl_mid l f m hfm hml
        have s2 := sl_mid S f2 m2 hfm2 hml2
        have e2 : (S.drop f2).take (m2 - f2) = (l.drop f).take (m - f) := e2
        rw [e2] at s2
        generalize (l.drop f).take (m - f) = T at s1 s2
        have c0 : wr.cell? ⟨g, k * 3, none⟩ = some (.int .i64 (y2 : Nat)) := hc 0 _ rfl
        have c1 : wr.cell? ⟨g, k * 3 + 1, none⟩ = some (.int .i64 (f : Nat)) := hc 1 _ rfl
        have c2 : wr.cell? ⟨g, k * 3 + 2, none⟩ = some (.int .i64 (m : Nat)) := hc 2 _ rfl
        have d0 : wr.cell? ⟨g2, k * 3, none⟩ = some (.int .i64 (y2 : Nat)) := hd 0 _ rfl
        have d1 : wr.cell? ⟨g2, k * 3 + 1, none⟩ = some (.int .i64 (f2 : Nat)) := hd 1 _ rfl
        have d2 : wr.cell? ⟨g2, k * 3 + 2, none⟩ = some (.int .i64 (m2 : Nat)) := hd 2 _ rfl
        clear hc hd ht hu e2 hfm hml hfm2 hml2 HAT
        go_upto_region 11 with fail
        go_quiet (fail)
        go_wp2
        exact ⟨⟨k + 1, hlt, by simp, hid (HW.out.trans ⟨rfl, rfl, rfl, Nat.le_refl _, fun _ _ => rfl⟩)⟩, by simp [intOf]; omega⟩
      · have q1 : ¬ (k : Int) < (ts.length : Int) := by omega
        have HB7 := hid (HB5.out.trans (HW.out.mono HB5.out.size))
        go_wp2_with fail
        refine (HA.out _ (HT.out.below HB7.out)).mono ?_
        rintro e1 w6 ⟨rfl, hb6⟩
        have HB6 := hid (HB7.out.trans (hb6.mono HB7.out.size))
        clear hb6
        go_wp2
        go_ret
        exact ⟨rfl, HB6.out⟩

end Go.Proofs.YtgihbllkjoegcabDoor

/- Bytes out of their reading, however many a slice may have. -/
namespace Go.Proofs.YtgihbllkjoegcabDoor
open Go.ChangeShapes Go.WideShapes Go.ChangeAt Go.RowKit

theorem cellsU8 : Tryd.prog.cellsOf 5 = 1 := by kernel_rfl
section
variable {H : Type} {enc : TypeId × Value → H} {W : World} {spare : Nat → Bool} {held : Bool}
theorem bytes_full {ao : Option Addr} {n c : Nat} {d : DataW H} {pl : List MemPlace} (h : DataW.Trod enc Tryd.prog W 0 spare held 44 (.slice ao n c) d pl) (hk : ∀ elems more, d = .slice elems more → elems.length ≤ 140737488355327) :
    ∃ bs : List UInt8, Src W (.slice ao n c) bs ∧ bs.length = n := by
  obtain ⟨fuel, hf⟩ := h
  rcases open_ints Tryd.underlying44 Tryd.underlying5 cellsU8 hf with ⟨hcs, _⟩ | ⟨a, len, cap, zs, hcs, _, hl, hm, hz, hx, hcell, hwz⟩
  · simp [Value.cells] at hcs
    obtain ⟨rfl, rfl, rfl⟩ := hcs
    exact ⟨[], ⟨by simp, Or.inl ⟨rfl, rfl⟩⟩, rfl⟩
  · simp [Value.cells] at hcs
    obtain ⟨rfl, rfl, rfl⟩ := hcs
    have hlz : n ≤ zs.length := by rw [hz]; split <;> omega
    simp only [Prod.mk.injEq] at hx
    have hn : n ≤ 140737488355327 := by
      have h1 := hk _ _ hx.1
      have h2 : (lits (H := H) .u8 (zs.take n)).length = n := by simp [lits]; omega
      omega
    have hu : ∀ i, i < n → (((zs.getD i 0).toNat.toUInt8).toNat : Int) = zs.getD i 0 := by
      intro i hi
      have hm' : zs.getD i 0 ∈ zs := by
        rw [List.getD_eq_getElem?_getD, List.getElem?_eq_getElem (by omega)]
        exact List.getElem_mem _
      have hw := hwz _ hm'
      have hb : 0 ≤ zs.getD i 0 ∧ zs.getD i 0 ≤ 255 := by simpa [Lit.wf, IntKind.min, IntKind.max, IntKind.signed, IntKind.bits] using hw
      simp only [Nat.toUInt8_eq, UInt8.toNat_ofNat']
      omega
    · refine ⟨(zs.take n).map (fun z => z.toNat.toUInt8), ⟨by simp; omega, Or.inr ⟨a, c, by simp; omega, by simp; omega, hm, fun h => World.block_lt_of_cell? W a (u := .int .u8 (zs.getD 0 0)) (by simp at h; simpa [Addr.add] using hcell 0 (by omega)), fun j hj => ?_⟩⟩, by simp; omega⟩
      have hj' : j < n ∧ j < zs.length := by simp at hj; omega
      have hju := hu j hj'.1
      rw [hcell j hj'.2, ← hju]
      simp [List.getD_eq_getElem?_getD, hj'.1, List.getElem?_eq_getElem hj'.2]
end

end Go.Proofs.YtgihbllkjoegcabDoor

/- Rows of the second form whose tables are laid; slices of bytes out of their reading, by their bulk. -/
namespace Go.Proofs.YtgihbllkjoegcabDoor
open Go.ChangeShapes Go.WideShapes Go.ChangeAt Go.RowKit

section
variable {H : Type} {enc : TypeId × Value → H}
theorem returns_cond_and {a : Assume} {C : Checked} {os : Os} {f : FuncId} {fn : Func} {s : OpenSpec} {k : (H : Type) → List (DataW H) → Bool} (hk : s.cond = some k) {F : Stop.Interp} {conds : List PathCond} {apart fresh handsOn again : Bool} {X : World → Array Value → Prop}
    (hX : ∀ (w w' : World) (args : Array Value), w.heap = w'.heap → X w args → X w' args)
    (own : ownKnob C.prog.godebug = none) (started : os.Started) (noInit : C.prog.inits.idxOf? f = none) (hfn : C.prog.funcs[f]? = some fn)
    (witness : ∃ (w : World) (tape : Tape) (i : Input), w.os = os ∧ (w.forCall tape i).Shaped C.prog ∧ i.vars = [] ∧ Input.okWide C.prog (w.forCall tape i) .any w.heap.size f i ∧
      ((s.pre enc C.prog fn conds apart (w.forCall tape i).memory i.args ∧ X (w.forCall tape i).memory i.args) ∧ sizedMet enc C.prog fn s apart (w.forCall tape i).memory i.args) ∧ a.holds C.prog (lone (Frame.enter C.prog f i.args .normal) [] (w.forCall tape i)))
    (contract : ∀ (W : World) (base : Nat) (args : Array Value) (ds gs : List (DataW H)) (before : List MemPlace),
      (∀ (j : Nat) t v, fn.params[j]? = some t → args[j]? = some v → Value.okWide C.prog W .any base t v) →
      DataW.Whole enc C.prog fn.params.toList s.vars apart W args.toList ds gs before →
      k H (ds ++ gs) = true → X W args →
      Calls C.prog f args W fun e W' => ∃ v, e = .returned v ∧ (s.at F).post enc C.prog fn apart fresh handsOn again W args v W') :
    ReturnsInHanded a C os f .any (fun w args => (s.pre enc C.prog fn conds apart w args ∧ X w args) ∧ sizedMet enc C.prog fn s apart w args) ((s.at F).post enc C.prog fn apart fresh handsOn again) := by
  refine returnsInHanded_of_calls own started noInit witness ?_
  intro w tape i _ _ _ hok hpre _
  obtain ⟨_, _, _, fn', hfn', _, _, _, _, hval⟩ := hok
  have e : fn' = fn := Option.some.inj (hfn'.symm.trans hfn)
  subst e
  obtain ⟨⟨hp, hx⟩, _⟩ := hpre
  obtain ⟨ds, gs, before, hw, _, hkk⟩ := (OpenSpec.pre_some hk conds apart _ _).1 hp
  have hw' := DataW.Whole.of_heap (w' := w.forCall tape i) (by rfl) hw
  refine (contract (w.forCall tape i) w.heap.size i.args ds gs before hval hw' hkk (hX _ _ _ (by rfl) hx)).mono fun e W' ⟨v, he, hp⟩ => ?_
  subst he
  exact ChangeSpec.post_blind hp

theorem witness_cond {C : Checked} {os : Os} {f : FuncId} {fn : Func} {s : OpenSpec} {k : (H : Type) → List (DataW H) → Bool} (hk : s.cond = some k) {conds : List PathCond} {apart : Bool} {X : World → Array Value → Prop} (modest : Bool) (w0 : World) (args : Array Value) (fuel : Nat) (hos : w0.os = os)
    (hsh : (w0.forCall (fun _ _ => 0) ⟨#[], args, []⟩).Shaped C.prog)
    (hok : Input.okWideB C.prog (w0.forCall (fun _ _ => 0) ⟨#[], args, []⟩) f ⟨#[], args, []⟩ = true)
    {x : List (DataW H) × List (DataW H) × List MemPlace} (hx : DataW.whole enc C.prog (w0.forCall (fun _ _ => 0) ⟨#[], args, []⟩).memory fn.params.toList s.vars apart args.toList fuel = some x)
    (hconds : conds.all (PathCond.test C.prog ⟨fn.params.toList, x.1, s.bare.plain.varTypes C.prog, x.2.1⟩) = true) (hkk : k H (x.1 ++ x.2.1) = true)
    (hsz : s.bare.sizedB enc C.prog fn apart (w0.forCall (fun _ _ => 0) ⟨#[], args, []⟩).memory args fuel = true)
    (hX : X (w0.forCall (fun _ _ => 0) ⟨#[], args, []⟩).memory args) :
    ∃ (w : World) (tape : Tape) (i : Input), w.os = os ∧ (w.forCall tape i).Shaped C.prog ∧ i.vars = [] ∧ Input.okWide C.prog (w.forCall tape i) .any w.heap.size f i ∧
      ((s.pre enc C.prog fn conds apart (w.forCall tape i).memory i.args ∧ X (w.forCall tape i).memory i.args) ∧ sizedMet enc C.prog fn s apart (w.forCall tape i).memory i.args) ∧ ({ modest := modest } : Assume).holds C.prog (lone (Frame.enter C.prog f i.args .normal) [] (w.forCall tape i)) :=
  ⟨w0, fun _ _ => 0, ⟨#[], args, []⟩, hos, hsh, (Input.okWide_of_okWideB (base := 0) hok).1, (Input.okWide_of_okWideB hok).2,
    ⟨⟨(OpenSpec.pre_some hk conds apart _ _).2 ⟨x.1, x.2.1, x.2.2, DataW.Whole_of_whole hx, hconds, hkk⟩, hX⟩, sizedMet_of_sizedB hsz⟩, by
    simp only [Assume.holds]
    exact ⟨by simp, by simp, fun _ => Modest.zero, by simp, by simp⟩⟩
end

theorem cellsBytes : Tryd.prog.cellsOf 44 = 1 := by kernel_rfl
theorem addr_plain {w : World} {a : Addr} {v : Value} (h : w.cell? a = some v) : a = ⟨a.block, a.off, none⟩ := by
  obtain ⟨b, o, sp⟩ := a
  cases sp with
  | none => rfl
  | some s =>
    unfold World.cell? at h
    split at h <;> simp at h
theorem add_plain (b o j : Nat) : (⟨b, o, none⟩ : Addr).add j = ⟨b, o + j, none⟩ := by
  by_cases h : j = 0
  · subst h; simp [Addr.add]
  · simp [Addr.add, h]
theorem list_of {α : Type} {P : Nat → α → Prop} : ∀ {n : Nat}, (∀ i, i < n → ∃ x, P i x) → ∃ l : List α, l.length = n ∧ ∀ j x, l[j]? = some x → P j x
  | 0, _ => ⟨[], rfl, by intro j x h; simp at h⟩
  | n + 1, h => by
    obtain ⟨l, hl, hp⟩ := list_of (n := n) (fun i hi => h i (by omega))
    obtain ⟨x, hx⟩ := h n (by omega)
    refine ⟨l ++ [x], by simp [hl], fun j y hj => ?_⟩
    rcases Nat.lt_or_ge j n with hjn | hjn
    · rw [List.getElem?_append_left (by omega)] at hj
      exact hp j y hj
    · rw [List.getElem?_append_right (by omega)] at hj
      have : j - l.length = 0 := by
        rcases Nat.eq_zero_or_pos (j - l.length) with h0 | h0
        · exact h0
        · rw [List.getElem?_eq_none (by simp; omega)] at hj; cases hj
      rw [this] at hj
      simp at hj
      subst hj
      obtain rfl : j = n := by omega
      exact hx
section
variable {H : Type}
theorem bulk_pos (d : DataW H) : 1 ≤ Rows.uptoBulk d := by
  cases d with
  | lit l => cases l <;> simp [Rows.uptoBulk]
  | _ => simp [Rows.uptoBulk]
theorem bulk_mem {d : DataW H} : ∀ {l : List (DataW H)}, d ∈ l → Rows.uptoBulk d ≤ Rows.uptoBulkAll l
  | [], h => by cases h
  | x :: r, h => by
    simp only [Rows.uptoBulkAll]
    rcases List.mem_cons.1 h with rfl | h
    · omega
    · have := bulk_mem h; omega
theorem bulk_count : ∀ (l : List (DataW H)), l.length ≤ Rows.uptoBulkAll l
  | [] => by simp
  | x :: r => by
    have h1 := bulk_pos x
    have h2 := bulk_count r
    simp only [Rows.uptoBulkAll, List.length_cons]
    omega
theorem small {l : List (DataW H)} (hk : Rows.uptoSmall H l = true) : Rows.uptoBulkAll l ≤ 1048576 := of_decide_eq_true hk
theorem bulk_range (D : Nat → DataW H) (n : Nat) : Rows.uptoBulkAll ((List.range (n + 1)).map D) = Rows.uptoBulkAll ((List.range n).map D) + Rows.uptoBulk (D n) := by
  rw [List.range_succ, List.map_append]
  generalize (List.range n).map D = L
  induction L with
  | nil => simp [Rows.uptoBulkAll]
  | cons a r ih2 => simp only [List.cons_append, List.map_cons, List.map_nil, Rows.uptoBulkAll] at ih2 ⊢; omega
end

section
variable {H : Type} {enc : TypeId × Value → H} {W : World} {spare : Nat → Bool} {held : Bool}
/-- bytes out of their reading -/
theorem bytes_b {ao : Option Addr} {n c : Nat} {d : DataW H} {pl : List MemPlace} (h : DataW.Trod enc Tryd.prog W 0 spare held 44 (.slice ao n c) d pl) (hk : Rows.uptoBulk d ≤ 1048576) :
    ∃ bs : List UInt8, Src W (.slice ao n c) bs ∧ bs.length = n ∧ bs.length ≤ Rows.uptoBulk d := by
  have hb : ∀ elems more, d = .slice elems more → elems.length ≤ Rows.uptoBulk d := fun elems more e => by
    subst e
    have := bulk_count elems
    simp only [Rows.uptoBulk]
    omega
  obtain ⟨bs, h1, h2⟩ := bytes_full h (fun el mo e => by have := hb el mo e; omega)
  refine ⟨bs, h1, h2, ?_⟩
  obtain ⟨fuel, hf⟩ := h
  rcases Go.Deep.open_slice1 Tryd.underlying44 cellsU8 hf with ⟨hcs, _⟩ | ⟨a, len, cap, m, n', V, D, Pl, hcs, _, _, _, _, hx, _⟩
  · simp [Value.cells] at hcs
    rw [h2, hcs.2.1]
    exact Nat.zero_le _
  · simp [Value.cells] at hcs
    simp only [Prod.mk.injEq] at hx
    have := hb _ _ hx.1
    simp at this
    omega
/-- slices of bytes out of their reading -/
theorem gps_b {ao : Option Addr} {n c : Nat} {d : DataW H} {pl : List MemPlace} (h : DataW.Trod enc Tryd.prog W 0 spare held 22 (.slice ao n c) d pl) (hk : Rows.uptoBulk d ≤ 1048576) :
    ∃ gs : List (List UInt8), Gps W (.slice ao n c) gs ∧ gs.length ≤ 1048576 ∧ ∀ g ∈ gs, g.length ≤ 1048576 := by
  obtain ⟨fuel, hf⟩ := h
  rcases Go.Deep.open_slice1 Tryd.underlying22 cellsBytes hf with ⟨hcs, _⟩ | ⟨a, len, cap, m, n', V, D, Pl, hcs, _, hl, _, hmm, hx, hel⟩
  · simp [Value.cells] at hcs
    obtain ⟨rfl, rfl, rfl⟩ := hcs
    exact ⟨[], Or.inl ⟨none, 0, rfl, rfl⟩, by simp, by simp⟩
  · simp [Value.cells] at hcs
    obtain ⟨rfl, rfl, rfl⟩ := hcs
    simp only [Prod.mk.injEq] at hx
    obtain ⟨rfl, _⟩ := hx
    have hlm : n ≤ m := by rw [hmm]; split <;> omega
    have hbd : Rows.uptoBulkAll ((List.range n).map D) ≤ 1048576 := by simp only [Rows.uptoBulk] at hk; omega
    have hn : n ≤ 1048576 := by
      have := bulk_count ((List.range n).map D)
      simp at this
      omega
    have hin : ∀ i, i < n → ∃ bs : List UInt8, Src W (V i) bs ∧ bs.length ≤ 1048576 := by
      intro i hi
      obtain ⟨h1, h2⟩ := hel i (by omega)
      have hDi : Rows.uptoBulk (D i) ≤ 1048576 := Nat.le_trans (bulk_mem (List.mem_map.2 ⟨i, List.mem_range.2 hi, rfl⟩)) hbd
      obtain ⟨ai, ni, ci, hV⟩ : ∃ ai ni ci, V i = .slice ai ni ci := by
        rcases DataW.trod_slice Tryd.underlying44 h2 with ⟨hc, _⟩ | ⟨a', len', cap', _, _, _, _, hc, _⟩
        · simp at hc; exact ⟨_, _, _, hc⟩
        · simp at hc; exact ⟨_, _, _, hc⟩
      rw [hV] at h2 ⊢
      obtain ⟨bs, hb, _, hbl⟩ := bytes_b (pl := Pl i) (d := D i) ⟨n', by simpa [Value.cells] using h2⟩ hDi
      exact ⟨bs, hb, by omega⟩
    obtain ⟨pss, hpl, hps⟩ := list_of hin
    have hmem : ∀ g ∈ pss, g.length ≤ 1048576 := by
      intro g hg
      obtain ⟨j, hj, rfl⟩ := List.mem_iff_getElem.1 hg
      exact (hps j _ (List.getElem?_eq_getElem hj)).2
    rcases Nat.eq_zero_or_pos n with rfl | hpos
    · exact ⟨[], Or.inl ⟨_, _, rfl, rfl⟩, by simp, by simp⟩
    · have h0 := (hel 0 (by omega)).1
      have ha : a = ⟨a.block, a.off, none⟩ := addr_plain (v := V 0) (by simpa [Addr.add] using h0)
      have hlt : a.block < W.heap.size := World.block_lt_of_cell? W a (u := V 0) (by simpa [Addr.add] using h0)
      generalize a.block = g at ha hlt
      generalize a.off = o at ha
      subst ha
      refine ⟨pss, Or.inr ⟨g, o, c, by rw [hpl], hlt, fun j hj => ?_⟩, by omega, hmem⟩
      have h1 := (hel j (by omega)).1
      rw [add_plain] at h1
      exact ⟨V j, h1, (hps j _ (by simp [List.getD_eq_getElem?_getD, List.getElem?_eq_getElem hj])).1⟩
end

end Go.Proofs.YtgihbllkjoegcabDoor

/- From what the rows list of the program's tables of texts to what the walks ask of the world. -/
namespace Go.Proofs.YtgihbllkjoegcabDoor
open Go.RowKit

def strD {H : Type} (ts : List (List UInt8)) : DataW H := .agg (ts.map fun t => .lit (.string t))
theorem cells_of_strs {H : Type} {enc : TypeId × Value → H} {P : Program} {w : World} {base : Nat} {sp : Nat → Bool} {held : Bool} {fuel : Nat} {t e : TypeId} {n : Nat} {cs : List Value} {ts : List (List UInt8)} {p : List MemPlace}
    (ht : P.underlying t = some (.array n e)) (he : P.underlying e = some .string) (hce : P.cellsOf e = 1) (hct : P.cellsOf t = n)
    (h : DataW.trod enc P w base sp held fuel t cs = some (strD ts, p)) : cs = strV ts := by
  cases fuel with
  | zero => simp [DataW.trod] at h
  | succ fuel =>
    simp only [DataW.trod, ht, hce, hct, Nat.mul_one] at h
    split at h
    · rename_i hl
      obtain ⟨xs, hm, hx⟩ := Option.map_eq_some_iff.1 h
      have hxs : xs.map (·.1) = ts.map fun z => (DataW.lit (.string z) : DataW H) := by
        have := congrArg Prod.fst hx
        simpa [strD] using this
      have hxl : xs.length = n := by simpa using Lib.mapM_length hm
      have hzl : ts.length = n := by
        have := congrArg List.length hxs
        simp at this
        omega
      apply List.ext_getElem?
      intro i
      by_cases hi : i < n
      · obtain ⟨b, hb, hf⟩ := Lib.mapM_at hm i i (by simp [hi])
        obtain ⟨s, hc, rfl, _⟩ := DataW.trod_string he hf
        have h1 : cs[i]? = some (.string s) := by
          have := congrArg (·[0]?) hc
          simpa [List.getElem?_take, List.getElem?_drop] using this
        have h2 : (xs.map (·.1))[i]? = some (DataW.lit (.string s.data.toList) : DataW H) := by simp [hb]
        rw [hxs] at h2
        simp only [List.getElem?_map, Option.map_eq_some_iff, DataW.lit.injEq, Lit.string.injEq] at h2
        obtain ⟨z', hz', he'⟩ := h2
        rw [h1]
        simp only [strV, List.getElem?_map, hz', Option.map_some, Option.some.injEq, Value.string.injEq]
        rw [he', ← bl_eq, mk_bl]
      · rw [List.getElem?_eq_none (by omega), List.getElem?_eq_none (by rw [strV_length]; omega)]
    · cases h
theorem strs_of_reads {P : Program} {w : World} {name : String} {d : DataW Unit} (hr : Lib.VarReads P w name d) (ts : List (List UInt8)) (g0 : Nat) (t e : TypeId) (n : Nat) (hg : P.globalNamed name = some g0) (hty : (P.globals[g0]?).map (·.type) = some t)
    (ht : P.underlying t = some (.array n e)) (he : P.underlying e = some .string) (hce : P.cellsOf e = 1) (hct : P.cellsOf t = n) (hd : d = strD ts) : w.rangeAt g0 0 (strV ts) ∧ g0 < w.heap.size := by
  obtain ⟨g, t', cs, fuel, p, h1, h2, h3, h4⟩ := hr
  obtain rfl : g0 = g := by rw [hg] at h1; exact Option.some.inj h1
  obtain rfl : t = t' := by rw [hty] at h2; exact Option.some.inj h2
  subst hd
  have hcs := cells_of_strs ht he hce hct h4
  unfold World.var? at h3
  rw [hg] at h3
  simp only [Option.bind_some] at h3
  cases hb : w.heap[g0]? with
  | none => rw [hb] at h3; cases h3
  | some o =>
    rw [hb] at h3
    refine ⟨?_, hp_lt hb⟩
    intro j v hv
    rw [Nat.zero_add]
    cases o with
    | cells C ty fr =>
      simp only [Option.some.injEq] at h3
      subst h3
      rw [cell_of_row w g0 j _ _ _ hb]
      have : C.toList[j]? = some v := by rw [hcs]; exact hv
      simpa using this
    | _ => cases h3

end Go.Proofs.YtgihbllkjoegcabDoor
