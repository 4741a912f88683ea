/- take: bytes into a Hash. -/
import Derived.Test.YticmdmnjajjpbabDoorSAny
import Derived.Deep.RegionHeldLaw
import Derived.StillTailTactics
namespace Go.Proofs.YticmdmnjajjpbabDoor
open Go.RowKit

theorem slice_rest (b r : Nat) (h : r < 64) : ∀ W, (Instr.sliceAt 72 (.pointer (some ⟨b, 8, none⟩)) (some (.int .u64 (r : Int))) none none).run Tryd.prog W = .ok (.slice (some ⟨b, 8 + r, none⟩) (64 - r) (64 - r)) W := by
  intro W
  have h1 : (r : Int) ≤ 64 := by omega
  have h2 : ¬ 64 = r := by omega
  have h3 : (⟨b, 8, none⟩ : Addr).add r = ⟨b, 8 + r, none⟩ := Addr.add_mid b 8 r
  go_simp

/-- a row among the operations that only read -/
theorem still_ld {P : Program} {ops : Array Oper} {w : World} {Q : Act → Prop} {a : Act} {o : Oper} {rest : List Oper} (hgd : o.guard = none) (ty : TypeId) (x : Operand) (ho : o.op = .load ty x)
    (b off : Nat) (hx : a.eval x = .pointer (some ⟨b, off, none⟩)) (cs : List Value) (d : TypeDesc) (hc : w.rangeAt b off cs)
    (hu : P.underlying ty = some d) (hd : d.isRow = true) (hi : (P.info? ty).map (·.size) = some cs.length)
    (h : wpStill P ops w Q rest (a.put o.dst (.agg cs.toArray))) : wpStill P ops w Q (o :: rest) a := by
  refine wpStill_step fun K hK => ?_
  rw [if_pos (by simp [Region.wanted, hgd])]
  unfold Oper.still execOp
  simp only [ho, hx, Instr.loadAt, Instr.sureAddr, Sem.run_bind, Sem.run_pure, Result.andThen_ok, run_loadVar_mid w b off ty cs d hc hu hd hi]
  rw [Oper.stillUpon_value]
  exact hK _ h

def lenV : Value → Nat
  | .slice _ n _ => n
  | _ => 0

theorem Src.grown2 {w w' : World} {v : Value} {bs : List UInt8} {b : Nat} (h : Src w v bs) (hg : w.grownBy w' (some b)) (hne : 0 < bs.length → v.ownBlock ≠ some b) : Src w' v bs := by
  rcases Nat.eq_zero_or_pos bs.length with h0 | h0
  · obtain ⟨hl, h | ⟨ad, cap, rfl, h1, h2, _, _⟩⟩ := h
    · exact ⟨hl, Or.inl h⟩
    · exact ⟨hl, Or.inr ⟨ad, cap, rfl, h1, h2, fun h => by omega, fun j hj => by omega⟩⟩
  · exact h.grown hg (Or.inr (hne h0))

/-- a round's part of the bytes -/
structure Part (w : World) (b : Nat) (H : List Int) (buf : List UInt8) (N : Nat) (bs : List UInt8) (v : Value) (wr : World) (rest : List UInt8) (H1 : List Int) (buf1 : List UInt8) (N1 : Nat) : Prop where
  src : Src wr v rest
  ne : 0 < rest.length → v.ownBlock ≠ some b
  hst : Hst wr b H1 buf1 N1
  abs : absorb (H1, buf1) rest = absorb (H, buf) bs
  num : N1 + rest.length = N + bs.length
  tab : Tabs wr
  grown : w.grownBy wr (some b)

section
variable {w : World} {b : Nat} {H : List Int} {buf : List UInt8} {N : Nat} {bs : List UInt8} {v : Value} {wr : World} {rest : List UInt8} {H1 : List Int} {buf1 : List UInt8} {N1 : Nat}
theorem Part.next (h : Part w b H buf N bs v wr rest H1 buf1 N1) {w5 : World} {vx : Value} (k : Nat) (hk : k ≤ rest.length) (hr : buf1.length + k < 64)
    (hb : Hb w5 b H1 (pad64 (buf1 ++ rest.take k)) ((N1 : Int) + (k : Int)) true) (hg : wr.grownBy w5 (some b)) (hs : Src wr vx (rest.drop k)) (ho : ∀ j, vx.ownBlock = some j → v.ownBlock = some j) :
    Part w b H buf N bs vx w5 (rest.drop k) H1 (buf1 ++ rest.take k) (N1 + k) := by
  have hne : 0 < (rest.drop k).length → vx.ownBlock ≠ some b := fun hp e => h.ne (by rw [List.length_drop] at hp; omega) (ho b e)
  have hl := h.hst.len
  refine ⟨hs.grown2 hg hne, hne, ⟨by rw [Int.natCast_add]; exact hb, ?_, h.hst.nk, h.hst.nh⟩, ?_, ?_, h.hst.tabs h.tab hg, gb_trans h.grown hg⟩
  · rw [List.length_append, List.length_take]
    omega
  · rw [← h.abs, ← absorb_short H1 (rest.take k) buf1 (by rw [List.length_take]; omega), ← absorb_append, List.take_append_drop]
  · rw [List.length_drop, ← h.num]
    omega
theorem Part.full (h : Part w b H buf N bs v wr rest H1 buf1 N1) {w5 : World} {vx : Value} (k : Nat) (hk : k ≤ rest.length) (hk0 : 0 < k) (hr : buf1.length + k = 64)
    (hb : Hb w5 b (comp H1 (ints (buf1 ++ rest.take k))) (zeros 64) ((N1 : Int) + (k : Int)) true) (hg : wr.grownBy w5 (some b)) (hs : Src wr vx (rest.drop k)) (ho : ∀ j, vx.ownBlock = some j → v.ownBlock = some j) :
    Part w b H buf N bs vx w5 (rest.drop k) (comp H1 (ints (buf1 ++ rest.take k))) [] (N1 + k) := by
  have hne : 0 < (rest.drop k).length → vx.ownBlock ≠ some b := fun hp e => h.ne (by rw [List.length_drop] at hp; omega) (ho b e)
  have hl := h.hst.len
  refine ⟨hs.grown2 hg hne, hne, ⟨by rw [Int.natCast_add]; exact hb, ?_, h.hst.nk, h.hst.nh⟩, ?_, ?_, h.hst.tabs h.tab hg, gb_trans h.grown hg⟩
  · show 0 = (N1 + k) % 64
    omega
  · rw [← h.abs, ← absorb_full H1 (rest.take k) buf1 (by rw [List.length_take]; omega) (by rw [List.length_take]; omega), ← absorb_append, List.take_append_drop]
  · rw [List.length_drop, ← h.num]
    omega
theorem Part.lenV (h : Part w b H buf N bs v wr rest H1 buf1 N1) : lenV v = rest.length := by
  rcases h.src.2 with ⟨rfl, rfl⟩ | ⟨ad, cap, rfl, _⟩
  · rfl
  · rfl
theorem Part.done (h : Part w b H buf N bs v wr [] H1 buf1 N1) : Hst wr b (absorb (H, buf) bs).1 (absorb (H, buf) bs).2 (N + bs.length) := by
  have e := h.abs
  have n := h.num
  rw [absorb_nil] at e
  rw [← e, ← n]
  exact h.hst
end

set_option maxRecDepth 100000 in
set_option maxHeartbeats 1000000 in
theorem take_any (w : World) (b : Nat) (H : List Int) (buf : List UInt8) (N : Nat) (v : Value) (bs : List UInt8) (hT : Tabs w) (hs : Hst w b H buf N) (hv : Src w v bs) (hne : 0 < bs.length → v.ownBlock ≠ some b) (hN : N + bs.length < 18446744073709551616) :
    Calls Tryd.prog 41 #[.pointer (some ⟨b, 0, none⟩), v] w fun e w' => e = .returned (.tuple #[]) ∧ Hst w' b (absorb (H, buf) bs).1 (absorb (H, buf) bs).2 (N + bs.length) ∧ Tabs w' ∧ w.grownBy w' (some b) := by
  have HP := hid (Part.mk hv hne hs rfl rfl hT (gb_refl w _) : Part w b H buf N bs v w bs H buf N)
  clear hT hs hv hne
  go_enter Tryd.func41, Tryd.ntmps41
  go_wp2
  go_loopw [1] (fun v wr => ∃ (rest : List UInt8) (H1 : List Int) (buf1 : List UInt8) (N1 : Nat), Part w b H buf N bs v wr rest H1 buf1 N1) (fun v _ => lenV v)
  case atStart => exact ⟨bs, H, buf, N, HP.out⟩
  case round =>
    obtain ⟨rest, H1, buf1, N1, hP⟩ := hrel
    clear HP
    have HP := hid hP
    obtain ⟨hlen, hsh⟩ := hP.src
    have hnum := hP.num
    clear hP
    rcases hsh with ⟨rfl, rfl⟩ | ⟨ad, cap, rfl, hcap, hmax, hlt, hcell⟩
    · go_wp2
      refine bodyPost_end (results_none rfl _ _ _) rfl ⟨rfl, HP.out.done, HP.out.tab, HP.out.grown⟩
    · rcases Nat.eq_zero_or_pos rest.length with h0 | hpos
      · obtain rfl : rest = [] := List.eq_nil_of_length_eq_zero h0
        clear hcell hlt hcap h0
        go_wp2
        refine bodyPost_end (results_none rfl _ _ _) rfl ⟨rfl, HP.out.done, HP.out.tab, HP.out.grown⟩
      · have HC := hid hcell
        have HL := hid hlt
        clear hcell hlt
        have hN1 : N1 < 18446744073709551616 := by omega
        have cn := HP.out.hst.hb.cn
        obtain ⟨r, HR⟩ : ∃ r, Hid (r = N1 % 64) := ⟨_, rfl⟩
        have hr64 : r < 64 := by rw [HR.out]; omega
        have hrem : ((N1 : Nat) : Int).tmod 64 = (r : Int) := by rw [HR.out]; rfl
        have hsl := slice_rest b r hr64
        go_wp2
        have hbl := HP.out.hst.len
        obtain ⟨k, HK⟩ : ∃ k, Hid (k = min rest.length (64 - r)) := ⟨_, rfl⟩
        have hk1 : k ≤ rest.length := by rw [HK.out]; omega
        have hk2 : r + k ≤ 64 := by rw [HK.out]; omega
        have hk3 : 0 < k := by rw [HK.out]; omega
        have hbr : buf1.length = r := by rw [HR.out]; exact hbl
        obtain ⟨cs, HCS⟩ : ∃ cs, Hid (cs = bytesV (rest.take k)) := ⟨_, rfl⟩
        have hcl : cs.length = k := by rw [HCS.out, bytesV_length, List.length_take]; omega
        have HN := hid (show cs.length = Nat.min rest.length (64 - r) from by rw [hcl, HK.out])
        have HSR := hid (fun (j : Nat) (u : Value) (hj : cs[j]? = some u) => (by
          rw [HCS.out] at hj
          have hj2 := (List.getElem?_eq_some_iff.1 hj).1
          rw [bytesV_length, List.length_take] at hj2
          refine src_cells (w := wr) HC.out j u ?_
          rw [← hj, bytesV_get, bytesV_get, List.getElem?_take_of_lt (by omega)] : wr.cell? (ad.add j) = some u))
        have HF := hid (show 8 + r + cs.length ≤ (hcells H1 (pad64 buf1) N1 true).length by rw [hcells_length _ _ _ _ HP.out.hst.hb.hl HP.out.hst.hb.rl]; omega)
        have H1C := hid (show ∀ u ∈ cs, u.oneCell' = true by rw [HCS.out]; exact bytesV_one _)
        have HSP := hid (show splice (hcells H1 (pad64 buf1) N1 true) (8 + r) cs = hcells H1 (pad64 (buf1 ++ rest.take k)) N1 true by
          rw [← hbr, HCS.out]
          exact splice_rest H1 buf1 (rest.take k) N1 true HP.out.hst.hb.hl (by rw [List.length_take]; omega))
        have HU1 := hid (show (Tryd.prog.info? 5).map (·.size) = some 1 by kernel_rfl)
        clear hbl
        go_region_held_law (fun w' => w'.cell? ⟨b, 72, none⟩ = some (.int .u64 N1)) (first | go_keep | exact n4) ((refine step_copy_row (by rfl) (.tmp 16) (.tmp 17) 24 24 (by rfl) 5 Tryd.underlying24 HU1.out b (8 + r) (64 - r) (64 - r) ad rest.length cap (by rfl) (by rfl) (hcells H1 (pad64 buf1) N1 true) 74 (by exact HP.out.hst.hb.blk) cs HN.out (by exact HSR.out) HF.out H1C.out ?_; intro w4 hw4; have HB4 := hid (Hb.mk (by rw [← HSP.out]; exact hw4.blk) HP.out.hst.hb.hl (pad64_length _ (by rw [List.length_append, List.length_take]; omega)) : Hb w4 b H1 (pad64 (buf1 ++ rest.take k)) N1 true); have HG4 := hid hw4.grown; have n4 := HB4.out.cn; clear hw4))
        obtain ⟨vx, hsx, hox, hslx⟩ := cut_end HP.out.src k hk1
        have HSX := hid hsx
        have HOX := hid hox
        clear hsx hox
        have hb2 : (N1 : Int) + (k : Int) < 18446744073709551616 := by omega
        have f4 := HB4.out.fz 72
        by_cases hfull : r + k = 64
        · have hrem2 : ((N1 : Int) + (k : Int)).tmod 64 = 0 := by
            rw [HR.out] at hfull
            rw [show (N1 : Int) + (k : Int) = ((N1 + k : Nat) : Int) by omega]
            show (((N1 + k) % 64 : Nat) : Int) = 0
            omega
          go_upto_region 5 with fail
          have HB5 := hid (HB4.out.setN ((N1 : Int) + (k : Int)))
          have HG5 := hid (gb_trans (gb_trans (gb_drew wr _) HG4.out) (gb_set w4 ⟨b, 72, none⟩ (.int .u64 ((N1 : Int) + (k : Int)))))
          have HE := hid (show pad64 (buf1 ++ rest.take k) = ints (buf1 ++ rest.take k) by
            unfold pad64
            rw [show 64 - (buf1 ++ rest.take k).length = 0 by rw [List.length_append, List.length_take]; omega]
            simp [zeros])
          generalize w4.setCell ⟨b, 72, none⟩ (.int .u64 ((N1 : Int) + (k : Int))) = w5 at HB5 HG5 ⊢
          clear n4 f4 HB4 HG4 cn hslx hsl
          obtain ⟨R2, HR2⟩ : ∃ R2, Hid (R2 = pad64 (buf1 ++ rest.take k)) := ⟨_, rfl⟩
          rw [← HR2.out] at HB5
          have HT5 := hid (HP.out.hst.tabs HP.out.tab HG5.out)
          have r1 := HB5.out.words
          have r2 := HB5.out.rest
          have r3 := HB5.out.there 0 8 (by omega)
          have hu23 := Tryd.underlying23
          have hu24 := Tryd.underlying72
          have l1 : (u32V H1).length = 8 := by rw [u32V_length, HB5.out.hl]
          have l2 : (u8V R2).length = 64 := by rw [u8V_length, HB5.out.rl]
          have hi23 : (Tryd.prog.info? 23).map (·.size) = some (u32V H1).length := by rw [l1]; kernel_rfl
          have hi24 : (Tryd.prog.info? 72).map (·.size) = some (u8V R2).length := by rw [l2]; kernel_rfl
          obtain ⟨H2, HH2⟩ : ∃ H2, Hid (H2 = comp H1 R2) := ⟨_, rfl⟩
          have l3 : (u32V H2).length = 8 := by rw [u32V_length, HH2.out, comp_length _ _ HB5.out.hl]
          have hi23' : (Tryd.prog.info? 23).map (·.size) = some (u32V H2).length := by rw [l3]; kernel_rfl
          have o1 := u32V_one H2
          have HCC := hid (fun W (hW : Tabs W) => by have := compress_any H1 R2 HB5.out.hl HB5.out.rl W hW; rw [← HH2.out] at this; exact this)
          obtain ⟨X, HX⟩ : ∃ X : World, Hid (X = { w5 with drawn := w5.drawn + 1 }) := ⟨_, rfl⟩
          have HBX := hid (show Hb X b H1 R2 ((N1 : Int) + (k : Int)) true by rw [HX.out]; exact ⟨HB5.out.blk, HB5.out.hl, HB5.out.rl⟩)
          have HTX := hid (show Tabs X by rw [HX.out]; exact ⟨HT5.out.k, HT5.out.h⟩)
          have HGX := hid (show wr.grownBy X (some b) by rw [HX.out]; exact gb_trans HG5.out (gb_drew w5 _))
          clear r1 r2 r3
          refine wp_noPanic (wp_region_any (by kernel_rfl) ?_)
          rw [show ({ w5 with drawn := w5.drawn + 1 } : World) = X from HX.out.symm]
          clear HB5 HT5 HG5
          refine any_yield 0 _ (.pointer (some ⟨b, 0, none⟩)) (by rfl) (by rfl) (by kernel_rfl) (by kernel_rfl) (by kernel_rfl) (fun _ => by rfl) ?_
          refine any_yield 1 _ (.pointer (some ⟨b, 0, none⟩)) (by rfl) (by rfl) (by kernel_rfl) (by kernel_rfl) (by kernel_rfl) (fun _ => by rfl) ?_
          refine any_yield 2 _ (.pointer (some ⟨b, 0, none⟩)) (by rfl) (by rfl) (by kernel_rfl) (by kernel_rfl) (by kernel_rfl) (fun _ => by rfl) ?_
          refine any_yield 3 _ (.pointer (some ⟨b, 0, none⟩)) (by rfl) (by rfl) (by kernel_rfl) (by kernel_rfl) (by kernel_rfl) (fun _ => by go_simp) ?_
          refine any_yield 5 _ (.pointer (some ⟨b, 0, none⟩)) (by rfl) (by rfl) (by kernel_rfl) (by kernel_rfl) (by kernel_rfl) (fun _ => by rfl) ?_
          refine any_yield 6 _ (.pointer (some ⟨b, 0, none⟩)) (by rfl) (by rfl) (by kernel_rfl) (by kernel_rfl) (by kernel_rfl) (fun _ => by rfl) ?_
          refine any_yield 7 _ (.pointer (some ⟨b, 8, none⟩)) (by rfl) (by rfl) (by kernel_rfl) (by kernel_rfl) (by kernel_rfl) (fun _ => by go_simp) ?_
          refine any_two_loads 4 8 _ _ (by rfl) (by rfl) (by rfl) (by rfl) (by kernel_rfl) (by kernel_rfl) (by kernel_rfl) (by decide) 23 (.tmp 40) (by rfl) b 0 (u32V H1) _ HBX.out.words hu23 rfl hi23 72 (.tmp 44) (by rfl) b 8 (u8V R2) _ HBX.out.rest hu24 rfl hi24 (by kernel_rfl) (by kernel_rfl) (by kernel_rfl) (by kernel_rfl) (by kernel_rfl) ?_
          refine any_tail 9 (by rfl) (by kernel_rfl) ?_
          simp only [List.drop_succ_cons, List.drop_zero]
          clear hu23 hu24 hi23 hi24 l1 l2 hi23'
          go_wp2_with fail
          refine (HCC.out _ HTX.out).mono ?_
          rintro e w6 ⟨rfl, hb6⟩
          have HB6 := hid (HBX.out.below hb6)
          have HG6 := hid (gb_trans HGX.out (below_gb hb6 _))
          clear hb6
          have hst6 : Sem.run Tryd.prog (storeCells ⟨b, 0, none⟩ (u32V H2)) w6 = .ok () (w6.setCells b 0 (u32V H2)) := by
            have := run_storeCells_cells (P := Tryd.prog) b 0 (u32V H2) 0 w6 (fun j hj => (HB6.out.there 0 8 (by omega) j (by rw [l3] at hj; exact hj)).1) (fun j hj => (HB6.out.there 0 8 (by omega) j (by rw [l3] at hj; exact hj)).2) o1
            exact this
          go_wp2_with fail
          obtain ⟨HB7, HG7⟩ := HB6.out.newWords H2 (by rw [← u32V_length, l3])
          have HB7 := hid HB7
          have HG7 := hid (gb_trans HG6.out HG7)
          simp only [noPanic]
          generalize w6.setCells b 0 (u32V H2) = w7 at HB7 HG7 ⊢
          clear hst6 l3 o1
          obtain ⟨z24, s24⟩ := zero_of_info (P := Tryd.prog) (t := 72) (v := .agg (u8V (zeros 64)).toArray) (n := 64) (by kernel_rfl)
          have l64 : (u8V (zeros 64)).length = 64 := by rw [u8V_length, zeros_length]
          have hst7 : Sem.run Tryd.prog (storeCells ⟨b, 8, none⟩ (u8V (zeros 64))) w7 = .ok () (w7.setCells b 8 (u8V (zeros 64))) := by
            have := run_storeCells_cells (P := Tryd.prog) b 8 (u8V (zeros 64)) 0 w7 (fun j hj => (HB7.out.there 8 64 (by omega) j (by rw [l64] at hj; exact hj)).1) (fun j hj => (HB7.out.there 8 64 (by omega) j (by rw [l64] at hj; exact hj)).2) (u8V_one _)
            exact this
          clear s24
          go_wp2_with fail
          obtain ⟨hB8, hG8⟩ := HB7.out.newRest (zeros 64) (zeros_length _)
          rw [HH2.out, HR2.out, HE.out] at hB8
          have hfin := HP.out.full k hk1 hk3 (by rw [hbr]; exact hfull) hB8 (gb_trans HG7.out hG8) HSX.out HOX.out
          refine ⟨⟨_, _, _, _, hfin⟩, ?_⟩
          rw [hfin.lenV, List.length_drop]
          show rest.length - k < rest.length
          omega
        · obtain ⟨q, HQ⟩ : ∃ q, Hid (q = r + k) := ⟨_, rfl⟩
          have hrem2 : ((N1 : Int) + (k : Int)).tmod 64 = (q : Int) := by
            rw [HQ.out, HR.out]
            rw [HR.out] at hfull hk2
            rw [show (N1 : Int) + (k : Int) = ((N1 + k : Nat) : Int) by omega]
            show (((N1 + k) % 64 : Nat) : Int) = _
            omega
          have hq0 : ((q : Int) == 0) = false := by rw [HQ.out]; simp; omega
          go_upto_region 4 with fail
          have HB5 := hid (HB4.out.setN ((N1 : Int) + (k : Int)))
          have HG5 := hid (gb_trans (gb_trans (gb_drew wr _) HG4.out) (gb_set w4 ⟨b, 72, none⟩ (.int .u64 ((N1 : Int) + (k : Int)))))
          generalize w4.setCell ⟨b, 72, none⟩ (.int .u64 ((N1 : Int) + (k : Int))) = w5 at HB5 HG5 ⊢
          clear n4 f4 HB4 HG4 cn hslx hsl
          have cn5 := HB5.out.cn
          have HFU := hid hfull
          have HBR := hid hbr
          have HK2 := hid hk2
          clear hfull hbr hk2
          go_wp2
          have hfin := HP.out.next k hk1 (by have := HFU.out; have := HBR.out; have := HK2.out; omega) HB5.out HG5.out HSX.out HOX.out
          refine ⟨⟨_, _, _, _, hfin⟩, ?_⟩
          rw [hfin.lenV, List.length_drop]
          show rest.length - k < rest.length
          omega

end Go.Proofs.YticmdmnjajjpbabDoor
