/- What is read without an error has no other form: the plain mathematics. -/
import Derived.Test.YtggmgbdofjhkdaaRdJ
namespace Go.Proofs.Ytggmgbdofjhkdaa

def mk (t : List UInt8) : ByteArray := ⟨t.toArray⟩
theorem mk_size (t : List UInt8) : (mk t).size = t.length := by simp [mk, ByteArray.size]
theorem tx_mk (t : List UInt8) : tx (mk t) = sn t.length ++ t := by unfold tx; rw [mk_size]; simp [mk]

theorem uz_bounds (n : Nat) (hn : n < 18446744073709551616) : -9223372036854775808 ≤ uz n ∧ uz n ≤ 9223372036854775807 := by
  unfold uz; split <;> omega
theorem zz_uz (n : Nat) : zz (uz n) = n := by
  unfold uz
  split
  · rename_i h
    unfold zz
    rw [if_pos (by omega)]
    omega
  · unfold zz
    rw [if_neg (by omega)]
    omega
theorem uz_zz (n : Int) (h0 : -9223372036854775808 ≤ n) (h1 : n ≤ 9223372036854775807) : uz (zz n) = n := by
  unfold zz
  split
  · unfold uz
    rw [if_pos (by omega)]
    omega
  · unfold uz
    rw [if_neg (by omega)]
    omega

theorem upTo_ok {l : List UInt8} {most t n k : Nat} (ht : t ≠ 0) (h : upTo l most t = (0, n, k)) : dec l 0 0 = (0, n, k) ∧ n ≤ most := by
  unfold upTo at h
  split at h
  · rename_i h1
    rw [h] at h1
    exact absurd rfl h1
  · split at h
    · simp at h; exact absurd h.1 ht
    · rename_i h1 h2
      rw [h] at h2
      exact ⟨h, by simpa using h2⟩
theorem upTo_of {l : List UInt8} {most t n k : Nat} (h : dec l 0 0 = (0, n, k)) (hn : n ≤ most) : upTo l most t = (0, n, k) := by
  unfold upTo
  rw [h, if_neg (by simp), if_neg (by show ¬ most < n; omega)]

theorem txt_ok {l : List UInt8} {most k : Nat} {s : List UInt8} (h : txt l most = (0, s, k)) : l.take k = sn s.length ++ s ∧ k = (sn s.length).length + s.length ∧ s.length ≤ most ∧ k ≤ l.length := by
  obtain ⟨er0, n0, k0, hd⟩ : ∃ er0 n0 k0, upTo l most 3 = (er0, n0, k0) := ⟨_, _, _, rfl⟩
  unfold txt at h
  rw [hd] at h
  simp only at h
  by_cases he : er0 = 0
  · subst he
    rw [if_neg (by simp)] at h
    by_cases hgt : l.length < k0 + n0
    · rw [if_pos hgt] at h; simp at h
    · rw [if_neg hgt] at h
      simp only [Prod.mk.injEq, true_and] at h
      obtain ⟨rfl, rfl⟩ := h
      obtain ⟨hdec, hm⟩ := upTo_ok (by omega) hd
      obtain ⟨h1, h2, h3, h4⟩ := dec_ok hdec
      have hk := dec_ok_len hdec
      have hlen : ((l.drop k0).take n0).length = n0 := by simp; omega
      refine ⟨?_, by rw [hlen, ← hk], by rw [hlen]; exact hm, by omega⟩
      rw [hlen, ← h4, ← List.take_add]
  · rw [if_pos he] at h
    simp only [Prod.mk.injEq] at h
    exact absurd h.1 he

theorem lstR_ok : ∀ (n : Nat) (l : List UInt8) (each k : Nat) (ts : List (List UInt8)), lstR n l each = (0, ts, k) → ts.length = n ∧ k ≤ l.length ∧ l.take k = txs (ts.map mk)
  | 0, l, each, k, ts, h => by
    simp only [lstR, Prod.mk.injEq, true_and] at h
    obtain ⟨rfl, rfl⟩ := h
    exact ⟨rfl, by omega, by simp [txs]⟩
  | n + 1, l, each, k, ts, h => by
    obtain ⟨er0, s0, k0, hd⟩ : ∃ er0 s0 k0, txt l each = (er0, s0, k0) := ⟨_, _, _, rfl⟩
    rw [lstR_succ, hd] at h
    simp only at h
    by_cases he : er0 = 0
    · subst he
      rw [if_neg (by simp)] at h
      obtain ⟨er1, ts1, k1, hr⟩ : ∃ er1 ts1 k1, lstR n (l.drop k0) each = (er1, ts1, k1) := ⟨_, _, _, rfl⟩
      rw [hr] at h
      simp only at h
      by_cases he1 : er1 = 0
      · subst he1
        rw [if_neg (by simp)] at h
        simp only [Prod.mk.injEq, true_and] at h
        obtain ⟨rfl, rfl⟩ := h
        obtain ⟨a1, a2, a3⟩ := lstR_ok n _ _ _ _ hr
        obtain ⟨b1, b2, b3, b4⟩ := txt_ok hd
        simp at a2
        refine ⟨by simp [a1], by omega, ?_⟩
        rw [List.take_add, b1, a3, ← tx_mk]
        simp [txs]
      · rw [if_pos he1] at h
        simp only [Prod.mk.injEq] at h
        exact absurd h.1 he1
    · rw [if_pos he] at h
      simp only [Prod.mk.injEq] at h
      exact absurd h.1 he

theorem lst_ok {l : List UInt8} {most each k : Nat} {ts : List (List UInt8)} (h : lst l most each = (0, ts, k)) : l.take k = ls (ts.map mk) ∧ k ≤ l.length := by
  obtain ⟨er0, n0, k0, hd⟩ : ∃ er0 n0 k0, upTo l most 11 = (er0, n0, k0) := ⟨_, _, _, rfl⟩
  unfold lst at h
  rw [hd] at h
  simp only at h
  by_cases he : er0 = 0
  · subst he
    rw [if_neg (by simp)] at h
    obtain ⟨er1, ts1, k1, hr⟩ : ∃ er1 ts1 k1, lstR n0 (l.drop k0) each = (er1, ts1, k1) := ⟨_, _, _, rfl⟩
    rw [hr] at h
    simp only [Prod.mk.injEq] at h
    obtain ⟨rfl, rfl, rfl⟩ := h
    obtain ⟨a1, a2, a3⟩ := lstR_ok _ _ _ _ _ hr
    obtain ⟨hdec, hm⟩ := upTo_ok (by omega) hd
    obtain ⟨h1, h2, h3, h4⟩ := dec_ok hdec
    simp at a2
    refine ⟨?_, by omega⟩
    rw [List.take_add, h4, a3]
    unfold ls
    simp [a1]
  · rw [if_pos he] at h
    simp only [Prod.mk.injEq] at h
    exact absurd h.1 he

end Go.Proofs.Ytggmgbdofjhkdaa
