/- truth, text and raw over a reader that NewReader gave. -/
import Derived.Test.YtggmgbdofjhkdaaRdF
namespace Go.Proofs.Ytggmgbdofjhkdaa
open Go.RowKit

theorem ret_se {x y : ByteArray} {e f : Int} (h : x = y) (h2 : e = f) : Ending.returned (.tuple #[.string x, .int .i64 e]) = .returned (.tuple #[.string y, .int .i64 f]) := by rw [h, h2]

/-- a part of bytes of the call's own -/
theorem OwnB.part {w : World} {base : Nat} {v : Value} {bs : List UInt8} (h : OwnB w base v bs) (g cap lo n : Nat) (hv : v = .slice (some ⟨g, 0, none⟩) bs.length cap) (hn : lo + n ≤ bs.length) (hl : bs.length ≤ 140737488355327) :
    Src w (.slice (some ⟨g, lo, none⟩) n (cap - lo)) ((bs.drop lo).take n) := by
  rcases h.forms with ⟨h1, _⟩ | ⟨g', cap', hv', _, hlt, h1, h2, _, hc⟩
  · rw [hv] at h1; simp at h1
  · rw [hv] at hv'
    simp only [Value.slice.injEq, Option.some.injEq, Addr.mk.injEq, and_true, true_and] at hv'
    obtain ⟨rfl, rfl⟩ := hv'
    have hlen : ((bs.drop lo).take n).length = n := by simp; omega
    refine ⟨by rw [hlen]; omega, Or.inr ⟨⟨g, lo, none⟩, cap - lo, by rw [hlen], by rw [hlen]; omega, by omega, fun _ => hlt, fun j hj => ?_⟩⟩
    rw [hlen] at hj
    have e : (⟨g, lo, none⟩ : Addr).add j = ⟨g, lo + j, none⟩ := by
      by_cases h : j = 0
      · subst h; simp [Addr.add]
      · simp [Addr.add, h]
    rw [e, hc _ (by omega)]
    simp [List.getD_eq_getElem?_getD, hj]

theorem upTo_pos {l : List UInt8} {most t n k : Nat} (ht : t ≠ 0) (h : upTo l most t = (0, n, k)) : 0 < k := by
  unfold upTo at h
  split at h
  · rename_i h1
    rw [h] at h1
    exact absurd rfl h1
  · split at h
    · simp at h; exact absurd h.1 ht
    · exact (dec_ok h).1

theorem src_empty {w : World} (g : Nat) (hg : g < w.heap.size) : Src w (.slice (some ⟨g, 0, none⟩) 0 0) [] :=
  ⟨by simp, Or.inr ⟨⟨g, 0, none⟩, 0, rfl, by simp, by simp, fun _ => hg, fun j hj => by simp at hj⟩⟩

section
variable (base b : Nat) (v : Value) (bs : List UInt8) (a : Nat) (why wat : Int) (w : World)

set_option maxRecDepth 100000 in
set_option maxHeartbeats 1000000 in
theorem text_any (most : Nat) (h : Rd w base b v bs a why wat) (hbl : bs.length ≤ 140737488355327) (hm : most ≤ 9223372036854775807) (er k : Nat) (s : List UInt8) (ht : txt (bs.drop a) most = (er, s, k)) :
    Calls Try.prog 64 #[.pointer (some ⟨b, 0, none⟩), .int .i64 most] w fun e w' => e = .returned (.tuple #[.string ⟨s.toArray⟩, .int .i64 er]) ∧ Rd w' base b v bs (a + k) why wat ∧ w.grownBy w' (some b) := by
  obtain ⟨er0, n0, k0, hd⟩ : ∃ er0 n0 k0, upTo (bs.drop a) most 3 = (er0, n0, k0) := ⟨_, _, _, rfl⟩
  have HC := hid (numberUpTo_any base b v bs a why wat w most 3 h hm (by omega) er0 n0 k0 hd)
  have h1 := h.c1
  have HR := hid h
  have hle := h.le
  obtain ⟨d1, d2, d4⟩ := upTo_le hd
  have hdl : (bs.drop a).length = bs.length - a := by simp
  unfold txt at ht
  rw [hd] at ht
  simp only at ht
  rw [hdl] at ht d1
  have HT := hid ht
  have HDL := hid d4
  have HK := hid (fun e => upTo_pos (by omega : (3 : Nat) ≠ 0) (e ▸ hd) : er0 = 0 → 0 < k0)
  clear ht d4 hd h hdl
  by_cases he : er0 = 0
  · subst he
    have hsimp := HT.out
    rw [if_neg (by simp)] at hsimp
    by_cases hgt : bs.length - a < k0 + n0
    · rw [if_pos hgt] at hsimp
      simp only [Prod.mk.injEq] at hsimp
      have HE := hid hsimp
      clear hsimp
      have hgti : (bs.length : Int) - ((a + k0 : Nat) : Int) < (n0 : Int) := by omega
      go_enter Try.func64, Try.ntmps64
      go_wp2_with fail
      refine Calls.mono HC.out ?_
      rintro e w1 ⟨rfl, hR1, hg1⟩
      have HR1 := hid hR1
      have HG1 := hid hg1
      have g0 := hR1.c0
      have g1 := hR1.c1
      have f1 := hR1.fz 1
      have hl := hR1.own.len
      obtain ⟨ad, cap, rfl⟩ := hR1.own.shape
      clear hR1 hg1 HC
      go_wp2_with fail
      refine (pleft_any _ _ _ ((a + k0 : Nat) : Int) _ _ hl (by omega) (by omega) g0 g1).mono ?_
      rintro e w2 ⟨rfl, q, rfl⟩
      go_wp2
      go_ret2
      obtain ⟨rfl, rfl, rfl⟩ := HE.out
      exact ⟨ret_se rfl rfl, (HR1.out.drewN q).setAt a HR.out.le, gb_trans (gb_trans HG1.out (gb_drewN _ _ _)) (gb_set _ _ _)⟩
    · rw [if_neg hgt] at hsimp
      simp only [Prod.mk.injEq] at hsimp
      have HE := hid hsimp
      have HX := hid (by have := HK.out rfl; omega : 0 < bs.length)
      clear hsimp
      have hgti : ¬ ((bs.length : Int) - ((a + k0 : Nat) : Int) < (n0 : Int)) := by omega
      go_enter Try.func64, Try.ntmps64
      go_wp2_with fail
      refine Calls.mono HC.out ?_
      rintro e w1 ⟨rfl, hR1, hg1⟩
      have HR1 := hid hR1
      have HG1 := hid hg1
      have g0 := hR1.c0
      have g1 := hR1.c1
      have f1 := hR1.fz 1
      have hl := hR1.own.len
      obtain ⟨ad, cap, rfl⟩ := hR1.own.shape
      clear hR1 hg1 HC
      go_wp2_with fail
      refine (pleft_any _ _ _ ((a + k0 : Nat) : Int) _ _ hl (by omega) (by omega) g0 g1).mono ?_
      rintro e w2 ⟨rfl, q, rfl⟩
      go_wp2_with fail
      have hA : ((a : Int) + (k0 : Int) + (n0 : Int)) = ((a + (k0 + n0) : Nat) : Int) := by omega
      rw [hA]
      have R3 := (HR1.out.drewN q).setAt (a + (k0 + n0)) (by omega)
      have HR3 := hid R3
      have HG3 := hid (gb_trans (gb_trans HG1.out (gb_drewN _ q _)) (gb_set _ ⟨b, 1, none⟩ (.int .i64 ((a + (k0 + n0) : Nat) : Int))))
      clear R3 g0 g1 f1 HR1 HG1 hA h1
      generalize ((w1.drewN q).setCell ⟨b, 1, none⟩ (.int .i64 ((a + (k0 + n0) : Nat) : Int))) = W3 at *
      obtain ⟨g, hg, hcap⟩ : ∃ g, ad = some ⟨g, 0, none⟩ ∧ bs.length ≤ cap := by
        rcases HR3.out.own.forms with ⟨_, h2⟩ | ⟨g, cp, hv, _, _, h3, _⟩
        · have := HX.out; rw [h2] at this; simp at this
        · simp only [Value.slice.injEq] at hv
          exact ⟨g, hv.1, hv.2.2 ▸ h3⟩
      subst hg
      have HG := hid ((HR3.out.own.lt g rfl).2)
      have HP := hid (fun q => run_str ((HR3.out.drewN q).own.part g cap (a + k0) n0 rfl (by omega) hbl) : ∀ q, (convert 23 9 (.slice (some ⟨g, a + k0, none⟩) n0 (cap - (a + k0)))).run Try.prog (W3.drewN q) = .ok (.string ⟨((bs.drop (a + k0)).take n0).toArray⟩) (W3.drewN q))
      have HZ := hid (fun q => run_str (src_empty (w := W3.drewN q) g HG.out) : ∀ q, (convert 23 9 (.slice (some ⟨g, 0, none⟩) 0 0)).run Try.prog (W3.drewN q) = .ok (.string ⟨([] : List UInt8).toArray⟩) (W3.drewN q))
      have HST := hid (by simp : (List.drop k0 (bs.drop a)).take n0 = (bs.drop (a + k0)).take n0)
      have c0 := HR3.out.c0
      have HC1 := hid HR3.out.c1
      generalize hAe : a + (k0 + n0) = A at *
      generalize hLe : a + k0 = lo at *
      have hA1 : lo + n0 = A := by omega
      have hA2 : lo ≤ A := by omega
      have hA3 : A ≤ cap := by omega
      have hA4 : A ≤ bs.length := by omega
      have hA6 : n0 = A - lo := by omega
      have HN := hid hA6
      have HP2 := hid (by rw [← HN.out]; exact HP.out : ∀ q, (convert 23 9 (.slice (some ⟨g, lo, none⟩) (A - lo) (cap - lo))).run Try.prog (W3.drewN q) = .ok (.string ⟨((bs.drop lo).take n0).toArray⟩) (W3.drewN q))
      have HAE := hid hAe
      have HLE := hid hLe
      have c1 := HC1.out
      have hw : IntKind.i64.wrap ((A : Int) - (n0 : Int)) = (lo : Int) := by rw [IntKind.wrap_i64]; omega
      clear hA1 hAe hLe hA6
      by_cases hcl : cap = lo
      · have hAl : A = lo := by omega
        have HN0 := hid (by have := HN.out; omega : n0 = 0)
        subst hcl
        subst hAl
        have hcv := HZ.out
        go_quiet (fail)
        clear hcv hw
        go_wp2
        go_ret2
        obtain ⟨rfl, rfl, rfl⟩ := HE.out
        exact ⟨ret_se (by rw [HN0.out]; simp) rfl, by rw [HAE.out]; exact HR3.out.drewN _, gb_trans HG3.out (gb_drewN _ _ _)⟩
      · have hcv := HP2.out
        generalize hS : ((bs.drop lo).take n0).toArray = S at *
        have HS := hid hS
        clear hS
        go_quiet (fail)
        clear hcv hw
        go_wp2
        go_ret2
        obtain ⟨rfl, rfl, rfl⟩ := HE.out
        exact ⟨ret_se (by rw [HST.out, ← HS.out]) rfl, by rw [HAE.out]; exact HR3.out.drewN _, gb_trans HG3.out (gb_drewN _ _ _)⟩
  · have hsimp := HT.out
    rw [if_pos (by simpa using he)] at hsimp
    simp only [Prod.mk.injEq] at hsimp
    have HE := hid hsimp
    have hz := HDL.out he
    have HZ := hid hz
    clear hsimp hz
    have heb2 : ((er0 : Int) != 0) = true := by simp; omega
    go_enter Try.func64, Try.ntmps64
    go_wp2_with fail
    refine Calls.mono HC.out ?_
    rintro e w1 ⟨rfl, hR1, hg1⟩
    have HR1 := hid hR1
    have HG1 := hid hg1
    clear hR1 hg1 HC
    go_wp2
    go_ret2
    have e1 := HE.out
    have e2 := HZ.out
    obtain ⟨rfl, rfl, rfl⟩ := e1
    obtain ⟨rfl, rfl⟩ := e2
    exact ⟨ret_se rfl rfl, HR1.out, HG1.out⟩

set_option maxRecDepth 100000 in
set_option maxHeartbeats 1000000 in
theorem truth_none (h : Rd w base b v bs bs.length why wat) :
    Calls Try.prog 63 #[.pointer (some ⟨b, 0, none⟩)] w fun e w' => e = .returned (.tuple #[.bool false, .int .i64 4]) ∧ Rd w' base b v bs bs.length why wat ∧ w.grownBy w' (some b) := by
  have HR := hid h
  have h0 := h.c0
  have h1 := h.c1
  have hl := h.own.len
  obtain ⟨ad, cap, rfl⟩ := h.own.shape
  clear h
  have hd : ((bs.length : Int) - (bs.length : Int) == 0) = true := by simp
  go_enter Try.func63, Try.ntmps63
  go_wp2_with fail
  refine (pleft_any _ _ _ (bs.length : Int) _ _ hl (by omega) (by omega) h0 h1).mono ?_
  rintro e w2 ⟨rfl, q, rfl⟩
  go_wp2
  go_ret2
  exact ⟨rfl, HR.out.drewN q, gb_drewN _ _ _⟩

set_option maxRecDepth 100000 in
set_option maxHeartbeats 1000000 in
theorem truth_bad (h : Rd w base b v bs a why wat) (hlt : a < bs.length) (hc : 1 < (bs.getD a 0).toNat) :
    Calls Try.prog 63 #[.pointer (some ⟨b, 0, none⟩)] w fun e w' => e = .returned (.tuple #[.bool false, .int .i64 5]) ∧ Rd w' base b v bs a why wat ∧ w.grownBy w' (some b) := by
  have HR := hid h
  have h0 := h.c0
  have h1 := h.c1
  have hl := h.own.len
  rcases h.own.forms with ⟨_, rfl⟩ | ⟨g, cap, rfl, _, _, _, _, _, hcs⟩
  · simp at hlt
  have hx := hcs a hlt
  generalize (bs.getD a 0).toNat = c at *
  clear h hcs
  have hl' := hl
  unfold maxLen at hl'
  have hd : ((bs.length : Int) - (a : Int) == 0) = false := by simp; omega
  have hlt' : (a : Int) < (bs.length : Int) := by omega
  have hc' : (1 : Int) < (c : Int) := by omega
  go_enter Try.func63, Try.ntmps63
  go_wp2_with fail
  refine (pleft_any _ _ _ (a : Int) _ _ hl (by omega) (by omega) h0 h1).mono ?_
  rintro e w2 ⟨rfl, q, rfl⟩
  go_wp2_with fail
  go_quiet (fail)
  go_wp2
  go_ret2
  exact ⟨rfl, (HR.out.drewN _).drewN _, gb_trans (gb_drewN _ _ _) (gb_drewN _ _ _)⟩

set_option maxRecDepth 100000 in
set_option maxHeartbeats 1000000 in
theorem truth_ok (h : Rd w base b v bs a why wat) (hlt : a < bs.length) (hc : (bs.getD a 0).toNat ≤ 1) :
    Calls Try.prog 63 #[.pointer (some ⟨b, 0, none⟩)] w fun e w' => e = .returned (.tuple #[.bool (((bs.getD a 0).toNat : Int) == 1), .int .i64 0]) ∧ Rd w' base b v bs (a + 1) why wat ∧ w.grownBy w' (some b) := by
  have HR := hid h
  have h0 := h.c0
  have h1 := h.c1
  have f1 := h.fz 1
  have hl := h.own.len
  have hlt0 := h.lt
  have HO := hid h.own
  rcases h.own.forms with ⟨_, rfl⟩ | ⟨g, cap, rfl, _, _, _, _, _, hcs⟩
  · simp at hlt
  have hx := hcs a hlt
  have hgb : g ≠ b := fun e => h.ne (by rw [e]; rfl)
  generalize hcc : (bs.getD a 0).toNat = c at *
  have HCC := hid hcc
  clear hcc
  clear h hcs
  have hl' := hl
  unfold maxLen at hl'
  have hd : ((bs.length : Int) - (a : Int) == 0) = false := by simp; omega
  have hlt' : (a : Int) < (bs.length : Int) := by omega
  have hc' : ¬ ((1 : Int) < (c : Int)) := by omega
  go_enter Try.func63, Try.ntmps63
  go_wp2_with fail
  refine (pleft_any _ _ _ (a : Int) _ _ hl (by omega) (by omega) h0 h1).mono ?_
  rintro e w2 ⟨rfl, q, rfl⟩
  go_wp2_with fail
  go_quiet (fail)
  go_wp2_with fail
  have hA : ((a : Int) + 1) = ((a + 1 : Nat) : Int) := by omega
  rw [hA]
  have R3 := (HR.out.drewN (q + nq)).setAt (a + 1) (by omega)
  have HR3 := hid R3
  have HG3 := hid (gb_trans (gb_drewN w (q + nq) (some b)) (gb_set _ ⟨b, 1, none⟩ (.int .i64 ((a + 1 : Nat) : Int))))
  have hx3 : ((w.drewN (q + nq)).setCell ⟨b, 1, none⟩ (.int .i64 ((a + 1 : Nat) : Int))).cell? ⟨g, a, none⟩ = some (.int .u8 c) := (World.cell?_of_block (Below.heap_setCell _ _ _ _ hgb)).trans hx
  clear R3 hA h0 h1 f1 hx
  generalize ((w.drewN (q + nq)).setCell ⟨b, 1, none⟩ (.int .i64 ((a + 1 : Nat) : Int))) = W3 at *
  have c0 := HR3.out.c0
  have c1 := HR3.out.c1
  have hw : IntKind.i64.wrap ((a : Int) + 1 - 1) = (a : Int) := by rw [IntKind.wrap_i64]; omega
  go_quiet (fail)
  go_wp2
  go_ret2
  exact ⟨rfl, HR3.out.drewN _, gb_trans HG3.out (gb_drewN _ _ _)⟩
end

end Go.Proofs.Ytggmgbdofjhkdaa
