/- numberUpTo, truth, text and raw over a reader that NewReader gave. -/
import Derived.Test.YtggmgbdofjhkdaaRdE
namespace Go.Proofs.Ytggmgbdofjhkdaa
open Go.RowKit

/-- a number of at most so much: the error, it, how many bytes it has -/
def upTo (l : List UInt8) (most t : Nat) : Nat × Nat × Nat :=
  if (dec l 0 0).1 ≠ 0 then dec l 0 0 else if most < (dec l 0 0).2.1 then (t, 0, 0) else dec l 0 0
/-- a text of at most so many bytes: the error, its bytes, how many bytes it takes -/
def txt (l : List UInt8) (most : Nat) : Nat × List UInt8 × Nat :=
  if (upTo l most 3).1 ≠ 0 then ((upTo l most 3).1, [], 0) else if l.length < (upTo l most 3).2.2 + (upTo l most 3).2.1 then (4, [], 0) else (0, (l.drop (upTo l most 3).2.2).take (upTo l most 3).2.1, (upTo l most 3).2.2 + (upTo l most 3).2.1)

theorem upTo_le {l : List UInt8} {most t er n k : Nat} (h : upTo l most t = (er, n, k)) : k ≤ l.length ∧ n ≤ most ∧ (er ≠ 0 → n = 0 ∧ k = 0) := by
  unfold upTo at h
  split at h
  · rename_i h1
    have h2 := dec_err l 0 0 h1
    rw [h] at h2
    simp at h2
    exact ⟨by omega, by omega, fun _ => h2⟩
  · rename_i h1
    split at h
    · simp at h
      obtain ⟨rfl, rfl, rfl⟩ := h
      exact ⟨by omega, by omega, fun _ => ⟨rfl, rfl⟩⟩
    · rename_i h2
      obtain ⟨a1, a2, a3, a4⟩ := dec_le l h
      rw [h] at h2
      simp at h2
      exact ⟨a1, h2, a4⟩
theorem txt_le {l : List UInt8} {most er k : Nat} {s : List UInt8} (h : txt l most = (er, s, k)) : k ≤ l.length ∧ s.length ≤ most ∧ (er ≠ 0 → s = [] ∧ k = 0) := by
  unfold txt at h
  split at h
  · simp at h
    obtain ⟨_, rfl, rfl⟩ := h
    exact ⟨by omega, by simp, fun _ => ⟨rfl, rfl⟩⟩
  · split at h
    · simp at h
      obtain ⟨_, rfl, rfl⟩ := h
      exact ⟨by omega, by simp, fun _ => ⟨rfl, rfl⟩⟩
    · rename_i h1 h2
      simp only [Prod.mk.injEq] at h
      obtain ⟨rfl, rfl, rfl⟩ := h
      obtain ⟨a1, a2, _⟩ := upTo_le (l := l) (most := most) (t := 3) (er := (upTo l most 3).1) (n := (upTo l most 3).2.1) (k := (upTo l most 3).2.2) rfl
      exact ⟨by omega, by simp; omega, fun h' => absurd rfl h'⟩

theorem ret_ie {x y : Int} {e f : Int} (h : x = y) (h2 : e = f) : Ending.returned (.tuple #[.int .i64 x, .int .i64 e]) = .returned (.tuple #[.int .i64 y, .int .i64 f]) := by rw [h, h2]

section
variable (base b : Nat) (v : Value) (bs : List UInt8) (a : Nat) (why wat : Int) (w : World)

set_option maxRecDepth 100000 in
set_option maxHeartbeats 1000000 in
theorem numberUpTo_any (most t : Nat) (h : Rd w base b v bs a why wat) (hm : most ≤ 9223372036854775807) (ht : t ≠ 0) (er n k : Nat) (hup : upTo (bs.drop a) most t = (er, n, k)) :
    Calls Try.prog 77 #[.pointer (some ⟨b, 0, none⟩), .int .i64 most, .int .i64 t] w fun e w' => e = .returned (.tuple #[.int .i64 n, .int .i64 er]) ∧ Rd w' base b v bs (a + k) why wat ∧ w.grownBy w' (some b) := by
  obtain ⟨er0, n0, k0, hd⟩ : ∃ er0 n0 k0, dec (bs.drop a) 0 0 = (er0, n0, k0) := ⟨_, _, _, rfl⟩
  have HC := hid (number_any base b v bs a why wat w h er0 n0 k0 hd)
  have h1 := h.c1
  have hlt := h.lt
  have HR := hid h
  obtain ⟨d1, d2, d3, d4⟩ := dec_le _ hd
  have HU := hid hup
  unfold upTo at hup
  rw [hd] at hup
  simp only at hup
  have HUP := hid hup
  clear hup h
  have HDL := hid d4
  clear d4
  by_cases he : er0 = 0
  · subst he
    have hsimp := HUP.out
    rw [if_neg (by simp)] at hsimp
    by_cases hgt : most < n0
    · rw [if_pos hgt] at hsimp
      simp only [Prod.mk.injEq] at hsimp
      have HE := hid hsimp
      clear hsimp
      have htb : (((t : Int)) != 0) = true := by simp; omega
      have hgti : (most : Int) < (n0 : Int) := by omega
      go_enter Try.func77, Try.ntmps77
      go_wp2_with fail
      refine Calls.mono HC.out ?_
      rintro e w1 ⟨rfl, hR1, hg1⟩
      have HR1 := hid hR1
      have HG1 := hid hg1
      have g1 := hR1.c1
      have f1 := hR1.fz 1
      clear hR1 hg1 HC
      go_wp2
      go_ret2
      obtain ⟨rfl, rfl, rfl⟩ := HE.out
      exact ⟨ret_ie rfl rfl, HR1.out.setAt a HR.out.le, gb_trans HG1.out (gb_set _ _ _)⟩
    · rw [if_neg hgt] at hsimp
      simp only [Prod.mk.injEq] at hsimp
      have HE := hid hsimp
      clear hsimp
      have hgti : ¬ ((most : Int) < (n0 : Int)) := by omega
      go_enter Try.func77, Try.ntmps77
      go_wp2_with fail
      refine Calls.mono HC.out ?_
      rintro e w1 ⟨rfl, hR1, hg1⟩
      have HR1 := hid hR1
      have HG1 := hid hg1
      clear hR1 hg1 HC
      go_wp2
      go_ret2
      obtain ⟨rfl, rfl, rfl⟩ := HE.out
      exact ⟨ret_ie rfl rfl, HR1.out, HG1.out⟩
  · have hsimp := HUP.out
    rw [if_pos (by simpa using he)] at hsimp
    simp only [Prod.mk.injEq] at hsimp
    have HE := hid hsimp
    have hz := HDL.out he
    have HZ := hid hz
    clear hsimp hz
    have heb : ((er0 : Int) == 0) = false := by simp; omega
    have heb2 : ((er0 : Int) != 0) = true := by simp; omega
    go_enter Try.func77, Try.ntmps77
    go_wp2_with fail
    refine Calls.mono HC.out ?_
    rintro e w1 ⟨rfl, hR1, hg1⟩
    have HR1 := hid hR1
    have HG1 := hid hg1
    clear hR1 hg1 HC
    go_wp2
    go_ret2
    have e1 := HE.out
    have e2 := HZ.out
    obtain ⟨rfl, rfl, rfl⟩ := e1
    obtain ⟨rfl, rfl⟩ := e2
    exact ⟨ret_ie rfl rfl, HR1.out, HG1.out⟩
end

end Go.Proofs.Ytggmgbdofjhkdaa
