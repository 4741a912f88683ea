/- The document's Unhex. -/
import Derived.Test.YticmdmnjajjpbaaDoorSRefT
namespace Go.Proofs.YticmdmnjajjpbaaDoor
open Go.RowKit

set_option maxRecDepth 100000 in
set_option maxHeartbeats 1000000 in
theorem runhex_any (w : World) (s : ByteArray) (l : List UInt8) (hs : s.data.toList = l) :
    Calls Tryd.prog 25 #[.string s] w fun e w' => e = .returned (.tuple #[.agg (bytesV (uhB l)).toArray, .int .i64 (uhE l)]) ∧ Below w.heap.size w w' := by
  obtain ⟨z, sz⟩ := zero_of_info (P := Tryd.prog) (t := 41) (v := .agg (bytesV (z32)).toArray) (n := 32) (by kernel_rfl)
  have HZ := hid sz
  have HBU := hid (show Tryd.prog.built 41 [] = some (bytesV (z32)).toArray by kernel_rfl)
  clear sz
  have hsz : s.size = l.length := by rw [← hs]; simp
  have hzl : (s.size : Int) = (l.length : Int) := by omega
  have HL32 := hid (show (Tryd.prog.info? 41).map (·.size) = some (bytesV (z32)).length by rw [bytesV_length]; exact HZ.out)
  have HS := hid hs
  have HSZ := hid hsz
  clear hs hsz
  by_cases h64 : l.length = 64
  · have hne : (((s.size : Nat) : Int) != 64) = false := by simp; omega
    have H64 := hid h64
    clear h64 hzl
    have HU := hid (⟨(hp_two' w _ _).1, (hp_two' w _ _).2, below_walk2 w _ _⟩ : Uh w z32 ((w.alloc (.cells (bytesV (z32)).toArray 41)).alloc (.cells (bytesV (z32)).toArray 41)))
    go_enter Tryd.func25, Tryd.ntmps25
    go_upto_region 2 with fail
    generalize (w.alloc (.cells (bytesV (z32)).toArray 41)).alloc (.cells (bytesV (z32)).toArray 41) = w2 at HU ⊢
    go_wp2
    go_loopw [5] (fun vi wr => ∃ k : Nat, k ≤ 32 ∧ vi = .int .i64 k ∧ Uh w (unh (l.take (2 * k)) ++ List.replicate (32 - k) 0) wr ∧ Hid (okT (l.take (2 * k)) = true)) (fun vi _ => 32 - (intOf vi).toNat)
    case atStart => exact ⟨0, by omega, rfl, show Uh w (unh (l.take 0) ++ List.replicate 32 0) w2 from HU.out, rfl⟩
    case round =>
      obtain ⟨k, hk, rfl, hu, HOK⟩ := hrel
      clear HU
      have HU := hid hu
      clear hu
      by_cases hlt : k < 32
      · have i1 := str_at s l HS.out (2 * k) (by rw [H64.out]; omega)
        have i2 := str_at s l HS.out (2 * k + 1) (by rw [H64.out]; omega)
        have HTT := hid (take_two l k (by rw [H64.out]; omega))
        have HOT := hid (okT_take l k (by rw [H64.out]; omega) HOK.out)
        obtain ⟨a, HA⟩ : ∃ a : UInt8, Hid (a = l.getD (2 * k) 0) := ⟨_, rfl⟩
        obtain ⟨b, HB⟩ : ∃ b : UInt8, Hid (b = l.getD (2 * k + 1) 0) := ⟨_, rfl⟩
        rw [← HA.out] at i1 HTT HOT
        rw [← HB.out] at i2 HTT HOT
        rw [show ((2 * k : Nat) : Int) = 2 * (k : Int) by omega] at i1
        rw [show ((2 * k + 1 : Nat) : Int) = 2 * (k : Int) + 1 by omega] at i2
        have HH1 := hid (fun W => rhalf_any a W)
        have HH2 := hid (fun W => rhalf_any b W)
        obtain ⟨ra, HRA⟩ : ∃ r, Hid (r = rvD a) := ⟨_, rfl⟩
        obtain ⟨rb, HRB⟩ : ∃ r, Hid (r = rvD b) := ⟨_, rfl⟩
        rw [← HRA.out] at HH1
        rw [← HRB.out] at HH2
        go_upto_region 7 with fail
        go_quiet (first
          | (go_at_call 52; with_reducible exact Calls.quiet_of_same (HH1.out _))
          | (go_at_call 52; with_reducible exact Calls.quiet_of_same (HH2.out _)))
        obtain ⟨wq, HWQ⟩ : ∃ wq, Hid (wq = wr.drewN nq) := ⟨_, rfl⟩
        rw [← HWQ.out]
        replace HU : Hid (Uh w (unh (l.take (2 * k)) ++ List.replicate (32 - k) 0) wq) := by rw [HWQ.out]; exact hid ⟨HU.out.b0, HU.out.b1, ⟨HU.out.bel.os, HU.out.bel.tape, HU.out.bel.output, HU.out.bel.size, HU.out.bel.block⟩⟩
        clear HWQ
        cases hoa : okD a with
        | false =>
          have h16 : ra = 16 := by rw [HRA.out]; unfold rvD; rw [hoa]; rfl
          subst h16
          have HBAD := hid (show okT l = false by
            refine okT_bad l (2 * (k + 1)) ?_
            rw [HOT.out, hoa]
            rfl)
          clear hoa
          go_upto_region 9 with fail
          refine wp_region_list ?_
          show wpList _ _ _ (_ :: _) _ _
          refine bd_row (by rfl) 41 _ (by rfl) [] (by simp) _ HBU.out ?_
          refine st_row (by rfl) 41 (.tmp 2) (.tmp 33) (by rfl) w.heap.size _ (by rfl) (by rfl) 41 _ HU.out.b0 HL32.out (by rw [List.size_toArray]) (bytesV_one _) ?_
          intro w4 hw4
          have HWW := hid hw4
          clear hw4
          go_wp2
          refine ret_row2 2 3 41 rfl w.heap.size rfl _ 41 HWW.out.blk _ Tryd.underlying41 rfl HL32.out _ rfl rfl ⟨?_, ?_⟩
          · rw [uh_bad (by simp [HBAD.out])]
            rfl
          · exact HU.out.bel.grown HWW.out.grown HU.out.bel.size (by intro k hk; cases hk; exact Nat.le_refl _)
        | true =>
          cases hob : okD b with
          | false =>
            have h16 : rb = 16 := by rw [HRB.out]; unfold rvD; rw [hob]; rfl
            have h15 : ra ≤ 15 := by rw [HRA.out]; unfold rvD; rw [hoa]; have := valD_lt a; simp; omega
            have h15' : ¬ (15 : Int) < (ra : Int) := by omega
            subst h16
            have HBAD := hid (show okT l = false by
              refine okT_bad l (2 * (k + 1)) ?_
              rw [HOT.out, hob, Bool.and_false])
            clear hoa hob
            go_upto_region 9 with fail
            refine wp_region_list ?_
            show wpList _ _ _ (_ :: _) _ _
            refine bd_row (by rfl) 41 _ (by rfl) [] (by simp) _ HBU.out ?_
            refine st_row (by rfl) 41 (.tmp 2) (.tmp 33) (by rfl) w.heap.size _ (by rfl) (by rfl) 41 _ HU.out.b0 HL32.out (by rw [List.size_toArray]) (bytesV_one _) ?_
            intro w4 hw4
            have HWW := hid hw4
            clear hw4
            go_wp2
            refine ret_row2 2 3 41 rfl w.heap.size rfl _ 41 HWW.out.blk _ Tryd.underlying41 rfl HL32.out _ rfl rfl ⟨?_, ?_⟩
            · rw [uh_bad (by simp [HBAD.out])]
              rfl
            · exact HU.out.bel.grown HWW.out.grown HU.out.bel.size (by intro k hk; cases hk; exact Nat.le_refl _)
          | true =>
            have hra : ra = valD a := by rw [HRA.out]; unfold rvD; rw [hoa]; rfl
            have hrb : rb = valD b := by rw [HRB.out]; unfold rvD; rw [hob]; rfl
            subst hra hrb
            have hg1 : ¬ (15 : Int) < ((valD a : Nat) : Int) := by have := valD_lt a; omega
            have hg2 : ¬ (15 : Int) < ((valD b : Nat) : Int) := by have := valD_lt b; omega
            have HOK2 := hid (show okT (l.take (2 * (k + 1))) = true by rw [HOT.out, hoa, hob]; rfl)
            have HUL := hid (show (unh (l.take (2 * k))).length = k from unh_length _ k (by rw [List.length_take, H64.out]; omega))
            have HDL := hid (show (unh (l.take (2 * k)) ++ List.replicate (32 - k) 0).length = 32 by rw [List.length_append, HUL.out, List.length_replicate]; omega)
            have c1 := bytes_row_cell HU.out.b1 k (by rw [HDL.out]; exact hlt)
            have f1 := row_fz HU.out.b1 k
            have hva := valD_lt a
            have hvb := valD_lt b
            have hor : bits .or .u8 (((valD a : Nat) : Int) * 16) ((valD b : Nat) : Int) = ((((16 * valD a + valD b).toUInt8).toNat : Nat) : Int) := or_digits _ _ hva hvb
            have hm : ((valD a : Nat) : Int) * 16 % 256 = ((valD a : Nat) : Int) * 16 := by omega
            have HST := hid (HU.out.step k (16 * valD a + valD b).toUInt8)
            rw [set_next _ k 32 HUL.out hlt, ← unh_append _ k (by rw [List.length_take, H64.out]; omega) a b, ← HTT.out] at HST
            clear hoa hob
            go_wp2
            refine ⟨⟨k + 1, by omega, by simp, ?_, HOK2⟩, by simp [intOf]; omega⟩
            first | exact HST.out | (rw [hor]; exact HST.out)
      · have hge : ¬ (k : Int) < 32 := by omega
        obtain rfl : k = 32 := by omega
        have HD : Hid (Uh w (uhB l) wr ∧ uhE l = 0) := by
          have hu := HU.out
          have hk := HOK.out
          rw [List.take_of_length_le (by rw [H64.out]; omega)] at hu hk
          unfold uhB uhE
          rw [if_pos ⟨H64.out, hk⟩, if_pos ⟨H64.out, hk⟩]
          rw [show List.replicate (32 - 32) (0 : UInt8) = [] from rfl, List.append_nil] at hu
          exact hid ⟨hu, rfl⟩
        have HLB : Hid ((Tryd.prog.info? 41).map (·.size) = some (bytesV (uhB l)).length) := by rw [bytesV_length, uhB_length]; exact HZ.out
        clear hlt HU HOK
        go_upto_region 11 with fail
        refine wp_region_list ?_
        show wpList _ _ _ (_ :: _) _ _
        refine ld_row (by rfl) 41 (.tmp 4) (by rfl) (w.heap.size + 1) (by rfl) _ 41 HD.out.1.b1 _ Tryd.underlying41 rfl HLB.out ?_
        refine st_row (by rfl) 41 (.tmp 2) (.tmp 40) (by rfl) w.heap.size _ (by rfl) (by rfl) 41 _ HD.out.1.b0 HLB.out (by rw [List.size_toArray, bytesV_length, bytesV_length, uhB_length]; rfl) (bytesV_one _) ?_
        intro w4 hw4
        have HWW := hid hw4
        clear hw4
        go_wp2
        refine ret_row2 2 3 41 rfl w.heap.size rfl _ 41 HWW.out.blk _ Tryd.underlying41 rfl HLB.out _ rfl rfl ⟨?_, ?_⟩
        · rw [HD.out.2]
          rfl
        · exact HD.out.1.bel.grown HWW.out.grown HD.out.1.bel.size (by intro k hk; cases hk; exact Nat.le_refl _)
  · have hne : (((s.size : Nat) : Int) != 64) = true := by simp only [bne_iff_ne, ne_eq]; omega
    have HNE := hid h64
    clear h64 hzl
    have HU := hid (⟨(hp_two' w _ _).1, (hp_two' w _ _).2, below_walk2 w _ _⟩ : Uh w z32 ((w.alloc (.cells (bytesV z32).toArray 41)).alloc (.cells (bytesV z32).toArray 41)))
    go_enter Tryd.func25, Tryd.ntmps25
    go_upto_region 2 with fail
    generalize (w.alloc (.cells (bytesV z32).toArray 41)).alloc (.cells (bytesV z32).toArray 41) = w2 at HU ⊢
    go_upto_region 3 with fail
    refine wp_region_list ?_
    show wpList _ _ _ (_ :: _) _ _
    refine ld_row (by rfl) 41 (.tmp 4) (by rfl) (w.heap.size + 1) (by rfl) _ 41 HU.out.b1 _ Tryd.underlying41 rfl HL32.out ?_
    refine st_row (by rfl) 41 (.tmp 2) (.tmp 11) (by rfl) w.heap.size _ (by rfl) (by rfl) 41 _ HU.out.b0 HL32.out (by rw [List.size_toArray]) (bytesV_one _) ?_
    intro w4 hw4
    have HWW := hid hw4
    clear hw4
    go_wp2
    refine ret_row2 2 3 41 rfl w.heap.size rfl _ 41 HWW.out.blk _ Tryd.underlying41 rfl HL32.out _ rfl rfl ⟨?_, ?_⟩
    · rw [uh_bad (by simp [HNE.out])]
      rfl
    · exact HU.out.bel.grown HWW.out.grown HU.out.bel.size (by intro k hk; cases hk; exact Nat.le_refl _)

end Go.Proofs.YticmdmnjajjpbaaDoor
