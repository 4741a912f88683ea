/- Write. -/
import Derived.Test.YticmdmnjajjpbabDoorSFit
namespace Go.Proofs.YticmdmnjajjpbabDoor
open Go.RowKit

/-- block b is a Hash, a plain one or not, that stands so -/
structure Hg (w : World) (b : Nat) (H : List Int) (buf : List UInt8) (N : Nat) : Prop where
  ex : ∃ H0 R0 m, Hb w b H0 R0 N m ∧ begunH H0 m = H ∧ begunR R0 m = pad64 buf ∧ begunN N m = N
  len : buf.length = N % 64
  nk : 1 ≠ b
  nh : 0 ≠ b
theorem Hst.hg {w : World} {b : Nat} {H : List Int} {buf : List UInt8} {N : Nat} (h : Hst w b H buf N) : Hg w b H buf N := ⟨⟨H, pad64 buf, true, h.hb, rfl, rfl, rfl⟩, h.len, h.nk, h.nh⟩
section
variable {w w' : World} {b : Nat} {H : List Int} {buf : List UInt8} {N : Nat}
theorem Hg.lt (h : Hg w b H buf N) : b < w.heap.size := by obtain ⟨_, _, _, h1, _⟩ := h.ex; exact h1.lt
theorem Hg.below (h : Hg w b H buf N) (hb : Below w.heap.size w w') : Hg w' b H buf N := by
  obtain ⟨H0, R0, m, h1, h2⟩ := h.ex
  exact ⟨⟨H0, R0, m, h1.below hb, h2⟩, h.len, h.nk, h.nh⟩
theorem Hg.grown {row : Option Nat} (h : Hg w b H buf N) (hg : w.grownBy w' row) (hne : row ≠ some b) : Hg w' b H buf N := by
  obtain ⟨H0, R0, m, h1, h2⟩ := h.ex
  exact ⟨⟨H0, R0, m, h1.grown hg hne, h2⟩, h.len, h.nk, h.nh⟩
theorem Hg.drewN (h : Hg w b H buf N) (k : Nat) : Hg (w.drewN k) b H buf N := by
  obtain ⟨H0, R0, m, h1, h2⟩ := h.ex
  exact ⟨⟨H0, R0, m, h1.drewN k, h2⟩, h.len, h.nk, h.nh⟩
theorem tabs_grown (hT : Tabs w) (hg : w.grownBy w' (some b)) (nk : 1 ≠ b) (nh : 0 ≠ b) : Tabs w' :=
  ⟨fun j v hv => by
    have := hT.k j v hv
    rw [World.cell?_of_block (hg.block 1 (World.block_lt_of_cell? w _ this) (by simpa using nk))]
    exact this,
   fun j v hv => by
    have := hT.h j v hv
    rw [World.cell?_of_block (hg.block 0 (World.block_lt_of_cell? w _ this) (by simpa using nh))]
    exact this⟩
end

/-- while Write goes on -/
structure Wr (w : World) (b : Nat) (H : List Int) (buf : List UInt8) (N : Nat) (pss : List (List UInt8)) (v : Value) (k : Nat) (wr : World) : Prop where
  hst : Hst wr b (absorb (H, buf) (fl (pss.take k))).1 (absorb (H, buf) (fl (pss.take k))).2 (N + (fl (pss.take k)).length)
  lst : Lists (· ≠ b) wr v pss
  tab : Tabs wr
  grown : w.grownBy wr (some b)

set_option maxRecDepth 100000 in
set_option maxHeartbeats 1000000 in
theorem write_ok (w : World) (b : Nat) (H : List Int) (buf : List UInt8) (N : Nat) (v : Value) (pss : List (List UInt8)) (hT : Tabs w) (hs : Hg w b H buf N) (hv : Lists (· ≠ b) w v pss) (hn : pss.length ≤ 140737488355327) (hN : N + (fl pss).length ≤ 2305843009213693951) :
    Calls Tryd.prog 19 #[.pointer (some ⟨b, 0, none⟩), v] w fun e w' => e = .returned (.int .i64 0) ∧ Hst w' b (absorb (H, buf) (fl pss)).1 (absorb (H, buf) (fl pss)).2 (N + (fl pss).length) ∧ Tabs w' ∧ w.grownBy w' (some b) := by
  obtain ⟨ao, cv, rfl⟩ : ∃ ao cv, v = .slice ao pss.length cv := by
    rcases hv with ⟨ao, c, rfl, rfl⟩ | ⟨g, o, c, rfl, _⟩
    · exact ⟨ao, c, rfl⟩
    · exact ⟨_, c, rfl⟩
  obtain ⟨H0, R0, m, hb, e1, e2, e3⟩ := hs.ex
  have HB := hid hb
  have HE1 := hid e1
  have HE2 := hid e2
  have HE3 := hid e3
  have HS := hid hs
  have HT := hid hT
  have HV := hid hv
  have cn := hb.cn
  have hsub : (N : Int) ≤ 2305843009213693951 := by omega
  clear hb e1 e2 e3 hs hT hv
  go_enter Tryd.func19, Tryd.ntmps19
  go_wp2_with fail
  rw [show (2305843009213693951 - (N : Int)) = ((2305843009213693951 - N : Nat) : Int) by omega]
  refine (fit_any (· ≠ b) w (2305843009213693951 - N) _ pss HV.out (by omega) hn).mono ?_
  rintro e w1 ⟨rfl, rfl⟩
  rw [show decide ((fl pss).length ≤ 2305843009213693951 - N) = true from decide_eq_true (by omega)]
  go_upto_region 5 with fail
  refine wp_region_list ?_
  show wpList _ _ _ (_ :: _) _ _
  refine mv_row (by rfl) (.tmp 0) (by rfl) (.pointer (some ⟨b, 0, none⟩)) (by rfl) ?_
  refine mv_row (by rfl) (.tmp 0) (by rfl) (.pointer (some ⟨b, 0, none⟩)) (by rfl) ?_
  refine nc_row (by rfl) (.tmp 18) (by rfl) ⟨b, 0, none⟩ (by rfl) ?_
  refine ld_row (by rfl) 74 (.tmp 19) (by rfl) b (by rfl) _ 74 HB.out.blk _ Tryd.underlying74 rfl (by rw [hcells_length _ _ _ _ HB.out.hl HB.out.rl]; exact Tryd.sizeHash) ?_
  clear cn
  go_wp2_with fail
  refine (begun_any _ H0 R0 N m HB.out.hl HB.out.rl HT.out).mono ?_
  rintro e w2 ⟨rfl, hb2⟩
  rw [HE1.out, HE2.out, HE3.out]
  have HBe := hid hb2
  have HB2 := hid (HB.out.below hb2)
  clear hb2
  rename_i Kx hKx
  refine hKx _ _ ?_
  clear hKx
  refine nc_row (by rfl) (.tmp 17) (by rfl) ⟨b, 0, none⟩ (by rfl) ?_
  have HHL := hid (show H.length = 8 by rw [← HE1.out]; unfold begunH; split; exact HB.out.hl; exact Hs_length)
  have HPL := hid (show (pad64 buf).length = 64 from pad64_length _ (by have := HS.out.len; omega))
  refine st_row (by rfl) 74 (.tmp 22) (.tmp 21) (by rfl) b _ (by rfl) (by rfl) 74 _ HB2.out.blk (by rw [hcells_length _ _ _ _ HHL.out HPL.out]; exact Tryd.sizeHash) (by rw [List.size_toArray, hcells_length _ _ _ _ HB.out.hl HB.out.rl, hcells_length _ _ _ _ HHL.out HPL.out]) (hcells_one _ _ _ _) ?_
  intro w3 hw3
  have HG3 := hid (gb_trans (below_gb HBe.out _) hw3.grown)
  have HW := hid (Wr.mk (show Hst w3 b (absorb (H, buf) (fl (pss.take 0))).1 (absorb (H, buf) (fl (pss.take 0))).2 (N + (fl (pss.take 0)).length) from ⟨⟨hw3.blk, HHL.out, HPL.out⟩, HS.out.len, HS.out.nk, HS.out.nh⟩) (HV.out.grown HG3.out) (tabs_grown HT.out HG3.out HS.out.nk HS.out.nh) HG3.out : Wr w1 b H buf N pss (.slice ao pss.length cv) 0 w3)
  clear hw3 HB HE1 HE2 HE3 HT HV HB2 HBe HG3
  go_wp2
  go_loopw [25] (fun i wr => ∃ k : Nat, k ≤ pss.length ∧ i = .int .i64 k ∧ Wr w1 b H buf N pss (.slice ao pss.length cv) k wr) (fun i _ => pss.length - (intOf i).toNat)
  case atStart => exact ⟨0, by omega, rfl, HW.out⟩
  case round =>
    obtain ⟨k, hk, rfl, hW⟩ := hrel
    clear HW
    have HW := hid hW
    clear hW
    by_cases hkl : k < pss.length
    · obtain ⟨g, o, rfl, u, hcell, hsrc, hne⟩ : ∃ g o, ao = some ⟨g, o, none⟩ ∧ ∃ u, wr.cell? ⟨g, o + k, none⟩ = some u ∧ Src wr u (pss.getD k []) ∧ (0 < (pss.getD k []).length → u.ownBlock ≠ some b) := by
        rcases HW.out.lst with ⟨_, _, hv, h0⟩ | ⟨g, o, c, hv, _, _, hc⟩
        · rw [h0] at hkl; simp at hkl
        · injection hv with h1 _ _
          obtain ⟨u, h2, h3, h4⟩ := hc k hkl
          exact ⟨g, o, h1, u, h2, h3, fun hp e => h4 b hp e rfl⟩
      have HSR := hid hsrc
      have HNE := hid hne
      clear hsrc hne
      have hl1 := fl_length pss k hkl
      have hl2 := fl_le pss (k + 1)
      go_wp2_with fail
      refine (take_any _ b _ _ _ _ _ HW.out.tab HW.out.hst HSR.out HNE.out (by omega)).mono ?_
      rintro e w5 ⟨rfl, hst, htab, hgr⟩
      rw [← absorb_append, ← fl_snoc pss k hkl, Nat.add_assoc, ← hl1] at hst
      have HN := hid (Wr.mk hst (HW.out.lst.grown hgr) htab (gb_trans HW.out.grown hgr) : Wr w1 b H buf N pss (.slice (some ⟨g, o, none⟩) pss.length cv) (k + 1) w5)
      clear hst htab hgr HW HSR HNE
      go_wp2
      exact ⟨⟨k + 1, by omega, by simp, HN.out⟩, by simp [intOf]; omega⟩
    · obtain rfl : k = pss.length := by omega
      go_wp2
      go_ret
      have := HW.out.hst
      rw [fl_all] at this
      exact ⟨rfl, this, HW.out.tab, HW.out.grown⟩

end Go.Proofs.YticmdmnjajjpbabDoor
