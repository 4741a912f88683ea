/- What was laid down is read back: the plain mathematics; and what longest and Same answer. -/
import Derived.Test.YtggmgbdofjhkdaaForm
namespace Go.Proofs.Ytggmgbdofjhkdaa
open Go.RowKit

theorem txt_back (s r : List UInt8) (most : Nat) (hs : s.length < 18446744073709551616) (hm : s.length ≤ most) : txt (sn s.length ++ (s ++ r)) most = (0, s, (sn s.length).length + s.length) := by
  have hu := upTo_of (t := 3) (dec_sn s.length (s ++ r) hs) hm
  unfold txt
  rw [hu]
  simp only
  rw [if_neg (by simp), if_neg (by simp)]
  simp

theorem lstR_back : ∀ (ts : List (List UInt8)) (r : List UInt8) (each : Nat), (∀ t ∈ ts, t.length ≤ each) → each < 18446744073709551616 → lstR ts.length (txs (ts.map mk) ++ r) each = (0, ts, (txs (ts.map mk)).length)
  | [], r, each, _, _ => by simp [lstR, txs]
  | t :: ts, r, each, h, he => by
    have ht := h t (by simp)
    have e1 : txs ((t :: ts).map mk) ++ r = sn t.length ++ (t ++ (txs (ts.map mk) ++ r)) := by
      have : txs ((t :: ts).map mk) = tx (mk t) ++ txs (ts.map mk) := by simp [txs]
      rw [this, tx_mk]; simp
    have hb := txt_back t (txs (ts.map mk) ++ r) each (by omega) ht
    have hr := lstR_back ts r each (fun x hx => h x (by simp [hx])) he
    have hdr : (sn t.length ++ (t ++ (txs (ts.map mk) ++ r))).drop ((sn t.length).length + t.length) = txs (ts.map mk) ++ r := by
      rw [← List.append_assoc, List.drop_append_of_le_length (by simp)]
      simp
    rw [e1]
    show lstR (ts.length + 1) _ each = _
    rw [lstR_succ, hb]
    simp only
    rw [hdr, hr]
    simp only
    rw [if_neg (by simp), if_neg (by simp)]
    have : txs ((t :: ts).map mk) = tx (mk t) ++ txs (ts.map mk) := by simp [txs]
    rw [this, tx_mk]
    simp
    omega

theorem lst_back (ts : List (List UInt8)) (r : List UInt8) (each : Nat) (h : ∀ t ∈ ts, t.length ≤ each) (he : each < 18446744073709551616) (hn : ts.length < 18446744073709551616) :
    lst (ls (ts.map mk) ++ r) ts.length each = (0, ts, (ls (ts.map mk)).length) := by
  have e1 : ls (ts.map mk) ++ r = sn ts.length ++ (txs (ts.map mk) ++ r) := by unfold ls; simp
  have hu := upTo_of (most := ts.length) (t := 11) (dec_sn ts.length (txs (ts.map mk) ++ r) hn) (Nat.le_refl _)
  have hdr : (sn ts.length ++ (txs (ts.map mk) ++ r)).drop (sn ts.length).length = txs (ts.map mk) ++ r := by simp
  unfold lst
  rw [e1, hu]
  simp only
  rw [if_neg (by simp), hdr, lstR_back ts r each h he]
  unfold ls
  simp

theorem unmk (ss : List ByteArray) : (ss.map (fun s => s.data.toList)).map mk = ss := by
  rw [List.map_map]
  have : (mk ∘ fun s : ByteArray => s.data.toList) = id := by funext s; simp [mk]
  rw [this]; simp

theorem getD_mem {ss : List ByteArray} {k : Nat} (h : k < ss.length) : ss.getD k ByteArray.empty ∈ ss := by
  rw [List.getD_eq_getElem?_getD, List.getElem?_eq_getElem h]
  exact List.getElem_mem _

set_option maxHeartbeats 400000 in
/-- longest: no text is longer -/
theorem longest_any (v : Value) (ss : List ByteArray) (w : World) (hs : Strs w v ss) (hB : (txs ss).length ≤ 1099511627776) :
    Calls Try.prog 26 #[v] w fun e w' => ∃ L : Nat, e = .returned (.int .i64 L) ∧ L ≤ 1099511627776 ∧ (∀ s ∈ ss, s.size ≤ L) ∧ w' = w := by
  have hcnt := txs_count ss
  rcases hs with ⟨ao, c, rfl, rfl⟩ | ⟨g, o, c, rfl, hlt, hc⟩
  · go_enter Try.func26, Try.ntmps26
    go_wp2
    go_loop [3, 8] (fun s i => s = .int .i64 0 ∧ i = .int .i64 0) (fun _ _ => 0)
    case atStart => exact ⟨rfl, rfl⟩
    case round =>
      obtain ⟨rfl, rfl⟩ := hrel
      go_wp2
      go_ret
      exact ⟨0, rfl, by omega, rfl⟩
  · have HC := hid hc
    clear hc
    go_enter Try.func26, Try.ntmps26
    go_wp2
    go_loop [3, 8] (fun s i => ∃ k L : Nat, k ≤ ss.length ∧ s = .int .i64 L ∧ i = .int .i64 k ∧ L ≤ 1099511627776 ∧ ∀ j, j < k → (ss.getD j ByteArray.empty).size ≤ L) (fun _ i => ss.length - (intOf i).toNat)
    case atStart => exact ⟨0, 0, Nat.zero_le _, rfl, rfl, by omega, fun j hj => absurd hj (Nat.not_lt_zero _)⟩
    case round =>
      obtain ⟨k, L, hk, rfl, rfl, hL, hall⟩ := hrel
      have HA := hid hall
      clear hall
      by_cases hkn : k < ss.length
      · have hcell := HC.out k hkn
        have h4 := txs_take_le ss (k + 1)
        rw [txs_step ss k hkn] at h4
        have HS := hid (rfl : (ss.getD k ByteArray.empty) = (ss.getD k ByteArray.empty))
        obtain ⟨s, hse⟩ : ∃ s, s = ss.getD k ByteArray.empty := ⟨_, rfl⟩
        have HSE := hid hse
        rw [← hse] at hcell h4
        have hs1 : s.size ≤ 1099511627776 := by omega
        clear h4 hse HS
        go_wp2_with fail
        refine ⟨⟨k + 1, max L s.size, by omega, by go_num, by go_num, by omega, fun j hj => ?_⟩, by simp [intOf]; omega⟩
        rcases Nat.lt_or_ge j k with h | h
        · have := HA.out j h; omega
        · obtain rfl : j = k := by omega
          rw [← HSE.out]; omega
      · go_wp2
        go_ret
        refine ⟨L, rfl, hL, fun s hs => ?_, rfl⟩
        obtain ⟨j, hj, rfl⟩ := List.getElem_of_mem hs
        have := HA.out j (by omega)
        simpa [List.getD_eq_getElem?_getD, List.getElem?_eq_getElem hj] using this

set_option maxRecDepth 100000 in
set_option maxHeartbeats 400000 in
theorem same_true (va vb : Value) (ss : List ByteArray) (w : World) (ha : Strs w va ss) (hb : Strs w vb ss) (hn : ss.length ≤ 1099511627776) :
    Calls Try.prog 24 #[va, vb] w fun e w' => e = .returned (.bool true) ∧ ∃ k, w' = w.drewN k := by
  rcases Nat.eq_zero_or_pos ss.length with hz | hpos
  · have : ss = [] := List.length_eq_zero_iff.1 hz
    subst this
    obtain ⟨a1, c1, rfl⟩ := ha.shape
    obtain ⟨a2, c2, rfl⟩ := hb.shape
    clear ha hb
    go_enter Try.func24, Try.ntmps24
    go_wp2
    go_loop [5] (fun i => i = .int .i64 0) (fun _ => 0)
    case atStart => rfl
    case round =>
      subst hrel
      go_wp2
      go_ret
      exact ⟨rfl, 0, rfl⟩
  · rcases ha with ⟨_, _, _, rfl⟩ | ⟨g1, o1, c1, rfl, _, hc1⟩
    · simp at hpos
    rcases hb with ⟨_, _, _, rfl⟩ | ⟨g2, o2, c2, rfl, _, hc2⟩
    · simp at hpos
    have H1 := hid hc1
    have H2 := hid hc2
    clear hc1 hc2
    go_enter Try.func24, Try.ntmps24
    go_wp2
    go_loopw [5] (fun i wr => ∃ k q : Nat, k ≤ ss.length ∧ i = .int .i64 k ∧ wr = w.drewN q) (fun i _ => ss.length - (intOf i).toNat)
    case atStart => exact ⟨0, 0, by omega, rfl, rfl⟩
    case round =>
      obtain ⟨k, q, hk, rfl, rfl⟩ := hrel
      by_cases hkn : k < ss.length
      · have e1 := H1.out k hkn
        have e2 := H2.out k hkn
        generalize ss.getD k ByteArray.empty = s at *
        have hki : (k : Int) < (ss.length : Int) := by omega
        have hd : decide ((k : Int) < (ss.length : Int)) = true := by simpa using hki
        go_wp2_with fail
        go_quiet (fail)
        go_wp2_with fail
        go_roundw
        case rel => exact ⟨k + 1, q + nq, by omega, by go_num, rfl⟩
        case measure => simp [intOf]; omega
      · go_wp2
        go_ret
        exact ⟨rfl, _, rfl⟩

end Go.Proofs.Ytggmgbdofjhkdaa
