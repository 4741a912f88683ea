/- over, More, Sum; the document's More and Sum; check. -/
import Derived.Test.YtljppkpieoejlabCTab
namespace Go.Proofs.Ytljppkpieoejlab
open Go.RowKit

/-- block b holds the table -/
def TabAt (w : World) (b : Nat) : Prop := ∃ T, TabN T ∧ w.heap[b]? = some (.cells (u32N T).toArray 40 (0, 0))
theorem TabAt.below {w w' : World} {b : Nat} (h : TabAt w b) (hb : Below w.heap.size w w') : TabAt w' b := by
  obtain ⟨T, h1, h2⟩ := h
  exact ⟨T, h1, (hb.block b (hp_lt h2)).trans h2⟩
theorem word_ok (c : Nat) (b : UInt8) (hc : c < 4294967296) : ∃ q : Nat, q < 256 ∧ bits .xor .u8 ((c : Int) % 256) ((b.toNat : Nat) : Int) = (q : Int) ∧ bits .xor .u32 ((shN 8 q : Nat) : Int) ((c : Int) / 256) = ((shN 8 (c ^^^ b.toNat) : Nat) : Int) := by
  have hb := b.toNat_lt
  have hq : c % 256 ^^^ b.toNat < 256 := Nat.xor_lt_two_pow (n := 8) (by omega) (by omega)
  refine ⟨c % 256 ^^^ b.toNat, hq, ?_, ?_⟩
  · have := u8_xor_nat (c % 256) b.toNat (by omega) (by omega)
    rw [← this]
    rfl
  · have := u32_xor_nat (shN 8 (c % 256 ^^^ b.toNat)) (c / 256) (shN_lt (by omega) 8) (by omega)
    rw [table_word c b.toNat, ← this]
    rfl

set_option maxRecDepth 100000 in
set_option maxHeartbeats 1000000 in
theorem over_any (w : World) (b c : Nat) (v : Value) (bs : List UInt8) (hT : TabAt w b) (hc : c < 4294967296) (hv : Src w v bs) :
    Calls Try.prog 17 #[.pointer (some ⟨b, 0, none⟩), .int .u32 (c : Int), v] w fun e w' => e = .returned (.int .u32 (raw c bs : Nat)) ∧ w' = w := by
  obtain ⟨ao, cv, rfl⟩ := src_shape hv
  have hl := hv.1
  obtain ⟨T, hTN, hTB⟩ := hT
  have HV := hid hv
  have HTN := hid hTN
  have HTB := hid hTB
  clear hv hTN hTB
  go_enter Try.func17, Try.ntmps17
  go_wp2
  go_loop [1, 11] (fun vc vi => ∃ k : Nat, k ≤ bs.length ∧ vc = .int .u32 (raw c (bs.take k) : Nat) ∧ vi = .int .i64 k) (fun _ vi => bs.length - (intOf vi).toNat)
  case atStart => exact ⟨0, by omega, rfl, rfl⟩
  case round =>
    obtain ⟨k, hk, rfl, rfl⟩ := hrel
    by_cases hlt : k < bs.length
    · obtain ⟨ad, rfl, c1⟩ := src_at HV.out k hlt
      have HR := hid (raw_take c bs k hlt)
      obtain ⟨x, HXX⟩ : ∃ x : UInt8, Hid (x = bs.getD k 0) := ⟨_, rfl⟩
      rw [← HXX.out] at c1 HR
      obtain ⟨q, hq, hx1, hx2⟩ := word_ok (raw c (bs.take k)) x (raw_lt hc _)
      rw [← HR.out] at hx2
      have HX2 := hid hx2
      have c2 := u32N_cell HTB.out q (by rw [HTN.out.len]; exact hq)
      rw [HTN.out.at_ q hq] at c2
      clear hx2
      go_wp2
      refine ⟨⟨k + 1, hlt, ?_, by simp⟩, by simp [intOf]; omega⟩
      rw [← HX2.out]
    · obtain rfl : k = bs.length := by omega
      rw [List.take_length]
      go_wp2
      go_ret
      exact ⟨rfl, rfl⟩

theorem not32 (c : Nat) (hc : c < 4294967296) : bits .xor .u32 IntKind.u32.max (c : Int) = ((4294967295 ^^^ c : Nat) : Int) := u32_xor_nat 4294967295 c (by omega) hc

set_option maxRecDepth 100000 in
set_option maxHeartbeats 1000000 in
theorem rmore_any (w : World) (c : Nat) (v : Value) (bs : List UInt8) (hc : c < 4294967296) (hv : Src w v bs) :
    Calls Try.prog 9 #[.int .u32 (c : Int), v] w fun e w' => e = .returned (.int .u32 (moreP c bs : Nat)) ∧ w' = w := by
  obtain ⟨ao, cv, rfl⟩ := src_shape hv
  have hl := hv.1
  have HV := hid hv
  clear hv
  have hn1 := not32 c hc
  have HL := hid (xlt (show 4294967295 < 4294967296 by omega) hc)
  have hsg : IntKind.u32.signed = false := rfl
  go_enter Try.func9, Try.ntmps9
  go_wp2
  go_loop [0, 5] (fun vc vi => ∃ k : Nat, k ≤ bs.length ∧ vc = .int .u32 (raw (4294967295 ^^^ c) (bs.take k) : Nat) ∧ vi = .int .i64 k) (fun _ vi => bs.length - (intOf vi).toNat)
  case atStart => exact ⟨0, by omega, rfl, rfl⟩
  case round =>
    obtain ⟨k, hk, rfl, rfl⟩ := hrel
    clear hn1
    by_cases hlt : k < bs.length
    · obtain ⟨ad, rfl, c1⟩ := src_at HV.out k hlt
      have HR := hid (raw_take (4294967295 ^^^ c) bs k hlt)
      obtain ⟨x, HXX⟩ : ∃ x : UInt8, Hid (x = bs.getD k 0) := ⟨_, rfl⟩
      rw [← HXX.out] at c1 HR
      have HQ := hid (raw_lt HL.out (bs.take k))
      go_wp2_with (go_at_call 18; refine (byteOn_any _ _ HQ.out x.toNat_lt _).mono ?_; rintro e w' ⟨rfl, rfl⟩)
      refine ⟨⟨k + 1, hlt, ?_, by simp⟩, by simp [intOf]; omega⟩
      rw [HR.out]
    · obtain rfl : k = bs.length := by omega
      rw [List.take_length]
      have hn2 := not32 (raw (4294967295 ^^^ c) bs) (raw_lt HL.out bs)
      go_wp2
      go_ret
      exact ⟨rfl, rfl⟩

theorem moreP_take (c : Nat) (pss : List (List UInt8)) (k : Nat) (hk : k < pss.length) : moreP c (fl (pss.take (k + 1))) = moreP (moreP c (fl (pss.take k))) (pss.getD k []) := by
  rw [fl_snoc pss k hk, moreP_append]
theorem rawP_take (c : Nat) (pss : List (List UInt8)) (k : Nat) (hk : k < pss.length) : raw c (fl (pss.take (k + 1))) = raw (raw c (fl (pss.take k))) (pss.getD k []) := by
  rw [fl_snoc pss k hk, raw_append]

set_option maxRecDepth 100000 in
set_option maxHeartbeats 1000000 in
theorem sum_any (w : World) (v : Value) (pss : List (List UInt8)) (hv : Lists w v pss) (hn : pss.length ≤ 140737488355327) :
    Calls Try.prog 7 #[v] w fun e w' => e = .returned (.int .u32 (sumP (fl pss) : Nat)) ∧ Below w.heap.size w w' := by
  obtain ⟨z, s⟩ := zero_of_info (P := Try.prog) (t := 40) (v := .agg (u32N (zerosN 256)).toArray) (n := 256) (by kernel_rfl)
  have HZ := hid s
  have HZ2 := hid z
  clear s z
  obtain ⟨ao, cv, rfl⟩ := hv.shape
  have HV := hid hv
  clear hv
  have hsg : IntKind.u32.signed = false := rfl
  go_enter Try.func7, Try.ntmps7
  go_wp2_with fail
  refine (makeTable_any w).mono ?_
  rintro e w1 ⟨T, hT, rfl, hb⟩
  have HB := hid hb
  have HT := hid hT
  clear hT hb
  rename_i Kx hKx
  refine hKx _ _ ?_
  clear hKx
  refine al_row (by rfl) 40 (by rfl) _ HZ2.out ?_
  refine st_new (by rfl) 40 (.tmp 3) (.tmp 7) (by rfl) (u32N T) (by rfl) (by rfl) _ _ (by rw [u32N_length, HT.out.len]; exact HZ.out) (by rw [List.size_toArray, u32N_length, u32N_length, zerosN_length, HT.out.len]) (u32N_one _) ?_
  have HTA := hid (show TabAt (w1.alloc (.cells (u32N T).toArray 40)) w1.heap.size from ⟨T, HT.out, hp_new _ _⟩)
  have HBel := hid (HB.out.alloc HB.out.size (.cells (u32N T).toArray 40))
  generalize w1.alloc (.cells (u32N T).toArray 40) = w2 at HTA HBel ⊢
  have HV2 := hid (HV.out.below HBel.out)
  clear HV HB HT
  go_wp2
  go_loop [4, 10] (fun vc vi => ∃ k : Nat, k ≤ pss.length ∧ vc = .int .u32 (raw 4294967295 (fl (pss.take k)) : Nat) ∧ vi = .int .i64 k) (fun _ vi => pss.length - (intOf vi).toNat)
  case atStart => exact ⟨0, by omega, by rw [List.take_zero, fl_nil, raw_nil]; rfl, rfl⟩
  case round =>
    obtain ⟨k, hk, rfl, rfl⟩ := hrel
    by_cases hlt : k < pss.length
    · obtain ⟨g, o, rfl, u, c1, hsrc⟩ := HV2.out.at k hlt
      obtain ⟨p, HP⟩ : ∃ p, Hid (p = pss.getD k []) := ⟨_, rfl⟩
      rw [← HP.out] at hsrc
      have HS := hid hsrc
      have HR := hid (rawP_take 4294967295 pss k hlt)
      rw [← HP.out] at HR
      have HQ := hid (raw_lt (show 4294967295 < 4294967296 by omega) (fl (pss.take k)))
      clear hsrc
      go_wp2_with (go_at_call 17; refine (over_any _ _ _ _ _ HTA.out HQ.out HS.out).mono ?_; rintro e w' ⟨rfl, rfl⟩)
      refine ⟨⟨k + 1, hlt, ?_, by simp⟩, by simp [intOf]; omega⟩
      rw [HR.out]
    · obtain rfl : k = pss.length := by omega
      rw [fl_all]
      have hn2 := not32 (raw 4294967295 (fl pss)) (raw_lt (by omega) _)
      go_wp2
      go_ret
      exact ⟨by unfold sumP moreP; rfl, HBel.out⟩

theorem check_sum : sumP [49, 50, 51, 52, 53, 54, 55, 56, 57] = 3808858755 := by decide +kernel
theorem parts9 (w : World) (f1 : Nat × Nat) :
    Lists ((w.alloc (.cells #[.int .u8 49, .int .u8 50, .int .u8 51, .int .u8 52, .int .u8 53, .int .u8 54, .int .u8 55, .int .u8 56, .int .u8 57] 5 f1)).alloc (.cells #[.slice (some ⟨w.heap.size, 0, none⟩) 9 9] 22))
      (.slice (some ⟨w.heap.size + 1, 0, none⟩) 1 1) [[49, 50, 51, 52, 53, 54, 55, 56, 57]] := by
  have h1 := hp_two w (.cells #[.int .u8 49, .int .u8 50, .int .u8 51, .int .u8 52, .int .u8 53, .int .u8 54, .int .u8 55, .int .u8 56, .int .u8 57] 5 f1) (.cells #[.slice (some ⟨w.heap.size, 0, none⟩) 9 9] 22)
  refine Or.inr ⟨w.heap.size + 1, 0, 1, rfl, hp_lt h1.2, fun j hj => ?_⟩
  match j, hj with
  | 0, _ => exact ⟨_, by rw [cell_of_row _ _ _ _ _ _ h1.2]; rfl, src_lit h1.1 rfl (by decide) _ rfl⟩

set_option maxRecDepth 100000 in
set_option maxHeartbeats 1000000 in
theorem check_any (w : World) : Calls Try.prog 15 #[] w fun e w' => e = .returned (.bool true) ∧ Below w.heap.size w w' := by
  have kc := fun (w : World) (C : Array Value) (n c : Nat) => Lib.run_convert_bytes_const (P := Try.prog) w 22 5 C n c Try.underlying22 Try.underlying5
  have HC := hid (sum_any ((w.alloc (.cells #[.int .u8 49, .int .u8 50, .int .u8 51, .int .u8 52, .int .u8 53, .int .u8 54, .int .u8 55, .int .u8 56, .int .u8 57] 5 (9, 10))).alloc (.cells #[.slice (some ⟨w.heap.size, 0, none⟩) 9 9] 22)) (.slice (some ⟨w.heap.size + 1, 0, none⟩) 1 1) _ (parts9 w (9, 10)) (by simp))
  go_enter Try.func15, Try.ntmps15
  go_wp2_with fail
  refine HC.out.mono ?_
  rintro e w3 ⟨rfl, hb⟩
  have HB := hid ((below_walk2 w _ _).trans (hb.mono (by rw [hp_size, hp_size]; omega)))
  clear hb
  rw [show fl [[49, 50, 51, 52, 53, 54, 55, 56, 57]] = [49, 50, 51, 52, 53, 54, 55, 56, 57] from rfl, check_sum]
  go_wp2
  go_ret
  exact ⟨rfl, HB.out⟩

end Go.Proofs.Ytljppkpieoejlab
