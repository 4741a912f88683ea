/- ShaCuts answers true. -/
import Derived.Test.YticmdmnjajjpbabDoorSLawExt
import Derived.Deep.RegionHeld3
namespace Go.Proofs.YticmdmnjajjpbabDoor
open Go.RowKit

/-- how a slice is cut on both sides -/
theorem cut_range {w : World} {v : Value} {bs : List UInt8} (h : Src w v bs) (i j : Nat) (hij : i ≤ j) (hj : j ≤ bs.length) :
    ∃ vx, Src w vx ((bs.drop i).take (j - i)) ∧ (∀ k, vx.ownBlock = some k → v.ownBlock = some k) ∧ (∀ W, (Instr.sliceAt 24 v (some (.int .i64 (i : Int))) (some (.int .i64 (j : Int))) none).run Tryd.prog W = .ok vx W) := by
  obtain ⟨hl, ⟨rfl, rfl⟩ | ⟨ad, cap, rfl, h1, h2, hlt, hc⟩⟩ := h
  · simp at hj
    subst hj
    obtain rfl : i = 0 := by omega
    exact ⟨.slice none 0 0, ⟨by simp, Or.inl ⟨rfl, rfl⟩⟩, fun k e => e, fun W => by go_simp⟩
  · have hlen : ((bs.drop i).take (j - i)).length = j - i := by simp; omega
    have hi2 : (i : Int) ≤ (j : Int) := by omega
    have hj2 : (j : Int) ≤ (cap : Int) := by omega
    refine ⟨.slice (if cap = i then some ad else some (ad.add i)) (j - i) (cap - i), ⟨by omega, Or.inr ?_⟩, fun k e => ?_, fun W => ?_⟩
    · by_cases hck : cap = i
      · rw [if_pos hck]
        refine ⟨ad, cap - i, by rw [hlen], by omega, by unfold maxLen at *; omega, fun h => by rw [hlen] at h; omega, fun q hq => by rw [hlen] at hq; omega⟩
      · rw [if_neg hck]
        refine ⟨ad.add i, cap - i, by rw [hlen], by omega, by unfold maxLen at *; omega, fun h => ?_, fun q hq => ?_⟩
        · rw [addr_block]
          exact hlt (by rw [hlen] at h; omega)
        · rw [hlen] at hq
          have e : (ad.add i).add q = ad.add (i + q) := by simp [Addr.add]; split <;> split <;> simp_all <;> omega
          rw [e, hc (i + q) (by omega)]
          simp [List.getD_eq_getElem?_getD, hq]
    · by_cases hck : cap = i
      · rw [if_pos hck] at e; exact e
      · rw [if_neg hck] at e
        simpa [Value.ownBlock, addr_block] using e
    · go_simp

/-- how a slice is cut at its beginning -/
theorem cut_begin {w : World} {v : Value} {bs : List UInt8} (h : Src w v bs) (k : Nat) (hk : k ≤ bs.length) :
    ∃ vx, Src w vx (bs.take k) ∧ (∀ W, (Instr.sliceAt 24 v none (some (.int .i64 (k : Int))) none).run Tryd.prog W = .ok vx W) := by
  obtain ⟨hl, ⟨rfl, rfl⟩ | ⟨ad, cap, rfl, h1, h2, hlt, hc⟩⟩ := h
  · simp at hk
    subst hk
    exact ⟨.slice none 0 0, ⟨by simp, Or.inl ⟨rfl, rfl⟩⟩, fun W => by go_simp⟩
  · have hlen : (bs.take k).length = k := by simp; omega
    refine ⟨.slice (some ad) k cap, ⟨by omega, Or.inr ⟨ad, cap, by rw [hlen], by omega, h2, fun h => hlt (by omega), fun j hj => ?_⟩⟩, fun W => ?_⟩
    · rw [hlen] at hj
      rw [hc j (by omega)]
      simp [List.getD_eq_getElem?_getD, hj]
    · have hk2 : (k : Int) ≤ (cap : Int) := by omega
      go_simp

theorem at_src {w : World} {ao : Option Addr} {n c : Nat} {bs : List UInt8} (h : Src w (.slice ao n c) bs) (k : Nat) (hk : k < bs.length) :
    ∃ ad, ao = some ad ∧ w.cell? (ad.add k) = some (.int .u8 (bs.getD k 0).toNat) := by
  rcases h.2 with ⟨_, h0⟩ | ⟨ad, cap, hv, _, _, _, hc⟩
  · rw [h0] at hk; simp at hk
  · injection hv with h1
    exact ⟨ad, h1, hc k hk⟩
theorem nil_src (w : World) : Src w (.slice none 0 0) [] := ⟨by simp, Or.inl ⟨rfl, rfl⟩⟩
theorem cut_join (bs : List UInt8) (a k n : Nat) (hk : k ≤ n) : (bs.drop a).take (a + k - a) ++ [] ++ (bs.drop (a + k)).take (a + n - (a + k)) = (bs.drop a).take n := by
  rw [List.append_nil, show a + k - a = k by omega, show a + n - (a + k) = n - k by omega]
  have e : bs.drop (a + k) = (bs.drop a).drop k := by rw [List.drop_drop]
  rw [e, ← List.take_add, show k + (n - k) = n by omega]
theorem take_more (bs : List UInt8) (a n : Nat) : bs.take a ++ (bs.drop a).take n = bs.take (a + n) := (List.take_add).symm

/-- Sum of what stands so -/
theorem sum_at (w : World) (b : Nat) (m : List UInt8) (D : List Value) (hD : D = u8V (ofP m)) (hT : Tabs w) (hs : Hst w b (absorb (Hs, []) m).1 (absorb (Hs, []) m).2 m.length) (h : m.length ≤ 2305843009213693951) :
    Calls Tryd.prog 20 #[.pointer (some ⟨b, 0, none⟩)] w fun e w' => e = .returned (.agg D.toArray) ∧ Below w.heap.size w w' := by
  have := sum_any w b _ _ _ hT hs.hg h
  rw [show sumP (absorb (Hs, []) m).1 (absorb (Hs, []) m).2 m.length = ofP m from rfl, ← hD] at this
  exact this
/-- how it stands behind so many bytes of all -/
structure Cu (w : World) (all : List UInt8) (a : Nat) (wr : World) : Prop where
  st : Hst wr w.heap.size (absorb (Hs, []) (all.take a)).1 (absorb (Hs, []) (all.take a)).2 a
  tab : Tabs wr
  bel : Below w.heap.size w wr

set_option maxRecDepth 100000 in
set_option maxHeartbeats 2000000 in
theorem cuts_any (w : World) (va vc : Value) (all cuts : List UInt8) (hT : Tabs w) (ha : Src w va all) (hc : Src w vc cuts) :
    Calls Tryd.prog 4 #[va, vc] w fun e w' => e = .returned (.bool true) ∧ Below w.heap.size w w' := by
  obtain ⟨aa, ca, rfl⟩ := src_shape ha
  obtain ⟨ac, cc, rfl⟩ := src_shape hc
  have HA := hid ha
  have HC := hid hc
  have LA := hid (src_low ha)
  have la := ha.1
  have lc := hc.1
  have HT := hid hT
  clear ha hc hT
  go_enter Tryd.func4, Tryd.ntmps4
  go_wp2_with fail
  refine (new_any w HT.out).mono ?_
  rintro e w1 ⟨rfl, hw1⟩
  have HCU : Hid (Cu w all 0 w1) := by
    have h1 := new_hst HT.out
    have h2 := below_walk w (.cells (hcells Hs (zeros 64) 0 true).toArray 74)
    rw [← hw1] at h1 h2
    exact hid ⟨h1, HT.out.below h2, h2⟩
  clear hw1
  go_wp2
  go_loopw [6, 7] (fun vat vi wr => ∃ a k : Nat, a ≤ all.length ∧ k ≤ cuts.length ∧ vat = .int .i64 a ∧ vi = .int .i64 k ∧ Cu w all a wr) (fun _ vi _ => cuts.length - (intOf vi).toNat)
  case atStart => exact ⟨0, 0, by omega, by omega, rfl, rfl, HCU.out⟩
  case round =>
    obtain ⟨a, k, hal, hk, rfl, rfl, hcu⟩ := hrel
    clear HCU
    have HCU := hid hcu
    clear hcu
    have HAW := hid (HA.out.below HCU.out.bel)
    have HCW := hid (HC.out.below HCU.out.bel)
    by_cases hlt : k < cuts.length
    · obtain ⟨ad, rfl, c1⟩ := at_src HCW.out k hlt
      obtain ⟨x, HX⟩ : ∃ x : UInt8, Hid (x = cuts.getD k 0) := ⟨_, rfl⟩
      rw [← HX.out] at c1
      have hx := x.toNat_lt
      obtain ⟨n, hmin, hn⟩ : ∃ n : Nat, (if (all.length : Int) - (a : Int) < ((x.toNat : Nat) : Int) then (all.length : Int) - (a : Int) else ((x.toNat : Nat) : Int)) = (n : Int) ∧ a + n ≤ all.length := by
        refine ⟨(if (all.length : Int) - (a : Int) < ((x.toNat : Nat) : Int) then (all.length : Int) - (a : Int) else ((x.toNat : Nat) : Int)).toNat, ?_, ?_⟩ <;> split <;> omega
      obtain ⟨h, HH⟩ : ∃ h, Hid (h = n / 2) := ⟨_, rfl⟩
      have hh : h ≤ n := by rw [HH.out]; omega
      have hq1 : (n : Int).tdiv 2 = (h : Int) := by rw [HH.out]; rfl
      have hq2 : (n : Int) / 2 = (h : Int) := by rw [HH.out]; rfl
      obtain ⟨p, HP⟩ : ∃ p, Hid (p = a + h) := ⟨_, rfl⟩
      obtain ⟨q, HQ⟩ : ∃ q, Hid (q = a + n) := ⟨_, rfl⟩
      have hp1 : IntKind.i64.wrap ((a : Int) + (h : Int)) = (p : Int) := by rw [IntKind.wrap_i64, HP.out]; omega
      have hp2 : IntKind.i64.wrap ((a : Int) + (n : Int)) = (q : Int) := by rw [IntKind.wrap_i64, HQ.out]; omega
      obtain ⟨vx, hvx, hox, hcx⟩ := cut_range HAW.out a p (by rw [HP.out]; omega) (by rw [HP.out]; omega)
      obtain ⟨vy, hvy, hoy, hcy⟩ := cut_range HAW.out p q (by rw [HP.out, HQ.out]; omega) (by rw [HQ.out]; omega)
      obtain ⟨X, HXX⟩ : ∃ X, Hid (X = (all.drop a).take (p - a)) := ⟨_, rfl⟩
      obtain ⟨Y, HYY⟩ : ∃ Y, Hid (Y = (all.drop p).take (q - p)) := ⟨_, rfl⟩
      rw [← HXX.out] at hvx
      rw [← HYY.out] at hvy
      obtain ⟨ax, cx, rfl⟩ := src_shape hvx
      obtain ⟨ay, cy, rfl⟩ := src_shape hvy
      have HJ := hid (show fl [X, [], Y] = (all.drop a).take n by rw [fl_three, HXX.out, HYY.out, HP.out, HQ.out]; exact cut_join all a h n hh)
      have HJL := hid (show (fl [X, [], Y]).length = n by rw [HJ.out, List.length_take, List.length_drop]; omega)
      have HLS := hid (lists_three (X := (· ≠ w.heap.size)) (show Src wr.drew _ X from hvx) (nil_src wr.drew) (show Src wr.drew _ Y from hvy)
        (fun j hp hj => by have := LA.out j (by have := hvx.1; have h1 := HXX.out; rw [h1, List.length_take, List.length_drop] at hp; omega) (hox j hj); omega)
        (fun j hp hj => by simp at hp)
        (fun j hp hj => by have := LA.out j (by have h1 := HYY.out; rw [h1, List.length_take, List.length_drop] at hp; omega) (hoy j hj); omega)
        (by have := HCU.out.st.lt; show wr.heap.size ≠ w.heap.size; omega))
      have HTW := hid (show Tabs (wr.drew.alloc (.cells #[.slice ax X.length cx, .slice none 0 0, .slice ay Y.length cy] 24)) from (show Tabs wr.drew from ⟨HCU.out.tab.k, HCU.out.tab.h⟩).below (below_walk _ _))
      have HSW := hid (show Hst (wr.drew.alloc (.cells #[.slice ax X.length cx, .slice none 0 0, .slice ay Y.length cy] 24)) w.heap.size _ _ a from (HCU.out.st.drewN 1).below (below_walk _ _))
      have HWR := hid (write_ok _ w.heap.size _ _ a _ [X, [], Y] HTW.out HSW.out.hg HLS.out (by simp) (by rw [HJL.out]; omega))
      obtain ⟨lx, HLX⟩ : ∃ lx, Hid (lx = X.length) := ⟨_, rfl⟩
      obtain ⟨ly, HLY⟩ : ∃ ly, Hid (ly = Y.length) := ⟨_, rfl⟩
      rw [← HLX.out] at hcx HWR
      rw [← HLY.out] at hcy HWR
      clear hvx hvy hox hoy HLS HTW HSW
      go_upto_region 10 with fail
      go_region_held3 (fun _ => True) (first | go_keep | trivial) (first | (go_at_call 19; refine Calls.mono HWR.out ?_; rintro e w5 ⟨rfl, hs5, ht5, hg5⟩; have HS5 := hid hs5; have HT5 := hid ht5; have HG5 := hid hg5; clear hs5 ht5 hg5))
      have HCU5 : Hid (Cu w all q w5) := by
        have hs := HS5.out
        rw [HJL.out, HJ.out, ← absorb_append, take_more, ← HQ.out] at hs
        have hd : Below w.heap.size w wr.drew := ⟨HCU.out.bel.os, HCU.out.bel.tape, HCU.out.bel.output, HCU.out.bel.size, HCU.out.bel.block⟩
        exact hid ⟨hs, HT5.out, (hd.alloc hd.size _).grown HG5.out (by rw [hp_size]; have := hd.size; omega) (by intro j hj; cases hj; exact Nat.le_refl _)⟩
      have hqa : q ≤ all.length := by rw [HQ.out]; exact hn
      clear HS5 HT5 HG5 HWR HCU HJ HJL HXX HYY HLX HLY hcx hcy HAW HCW c1 hmin
      have HA5 := hid (HA.out.below HCU5.out.bel)
      obtain ⟨vz, hvz, hcz⟩ := cut_begin HA5.out q hqa
      have hzl : (all.take q).length = q := by rw [List.length_take]; omega
      obtain ⟨az, cz, rfl⟩ := src_shape hvz
      rw [hzl] at hvz hcz
      have HVZ := hid hvz
      have HZL := hid hzl
      clear hvz hzl
      obtain ⟨D, HD⟩ : ∃ D, Hid (D = u8V (ofP (all.take q))) := ⟨_, rfl⟩
      have ne := fun (W : World) => neq_row (P := Tryd.prog) W 53 5 32 .u8 Tryd.underlying53 Tryd.underlying5 (by kernel_rfl) (ofP (all.take q)) (ofP_length _)
      rw [show List.map (Value.int .u8) (ofP (all.take q)) = D from HD.out.symm] at ne
      have HBa := hid (show Below w5.heap.size w5 w5.drew from ⟨rfl, rfl, rfl, Nat.le_refl _, fun _ _ => rfl⟩)
      have HBb := hid (show Below w5.heap.size w5 (w5.alloc (.cells #[.slice az q cz] 24)).drew from ⟨rfl, rfl, rfl, by show w5.heap.size ≤ (w5.alloc _).heap.size; rw [hp_size]; omega, fun j hj => hp_old w5 _ j hj⟩)
      have HSM := hid (fun (W : World) (hW : Below w5.heap.size w5 W) => sum_at W w.heap.size (all.take q) D HD.out (HCU5.out.tab.below hW) (by rw [HZL.out]; exact HCU5.out.st.below hW) (by rw [HZL.out]; omega))
      have HO1 := hid (fun (W : World) (hW : Below w5.heap.size w5 W) => of_one W (.slice az q cz) (all.take q) (HCU5.out.tab.below hW) (HVZ.out.below hW))
      have HO2 := hid (fun (W : World) (hW : Below (w5.alloc (.cells #[.slice az q cz] 24)).heap.size (w5.alloc (.cells #[.slice az q cz] 24)).drew W) =>
        of_any W (.slice (some ⟨w5.heap.size, 0, none⟩) 1 1) [all.take q] ((HCU5.out.tab.below HBb.out).below hW) (((lists_one (X := (· < w5.heap.size + 1)) HVZ.out (fun j hp hj => by have := src_low HVZ.out j hp hj; omega) (by omega) : Lists (· < w5.heap.size + 1) (w5.alloc (.cells #[.slice az q cz] 24)) _ [all.take q]).below (show Below (w5.alloc (.cells #[.slice az q cz] 24)).heap.size (w5.alloc (.cells #[.slice az q cz] 24)) W from ⟨hW.os, hW.tape, hW.output, hW.size, hW.block⟩)).imp (fun j hj => by have h2 : (w5.alloc (.cells #[.slice az q cz] 24)).heap.size ≤ W.heap.size := hW.size; rw [hp_size] at h2; omega)) (by simp) (by rw [fl_one, HZL.out]; omega))
      rw [fl_one] at HO2
      rw [← HD.out] at HO1 HO2
      have HLN := hid (fun (W : World) (hW : Below w5.heap.size w5 W) => len_any W w.heap.size _ _ _ _ (HCU5.out.st.below hW).hb)
      have hqw : IntKind.u64.wrap (q : Int) = (q : Int) := by simp [IntKind.wrap, IntKind.bits, IntKind.signed]; omega
      go_upto_region 13 with fail
      go_region_held3 (fun _ => True) (first | go_keep | trivial) (first
        | (go_at_call 20; with_reducible refine Calls.mono (HSM.out w5.drew HBa.out) ?_; rintro e w6 ⟨rfl, hb6⟩; have HB6 := hid (HBa.out.trans (hb6.mono HBa.out.size)); clear hb6)
        | (go_at_call 20; with_reducible refine Calls.mono (HSM.out (w5.alloc (.cells #[.slice az q cz] 24)).drew HBb.out) ?_; rintro e w6 ⟨rfl, hb6⟩; have HK6 := hid hb6; have HB6 := hid (HBb.out.trans (hb6.mono HBb.out.size)); clear hb6)
        | (go_at_call 21; refine Calls.mono (HO2.out w6 HK6.out) ?_; rintro e w7 ⟨rfl, hb7⟩; have HB7 := hid (HB6.out.trans (hb7.mono HB6.out.size)); clear hb7)
        | (go_at_call 21; refine Calls.mono (HO1.out w6 HB6.out) ?_; rintro e w7 ⟨rfl, hb7⟩; have HB7 := hid (HB6.out.trans (hb7.mono HB6.out.size)); clear hb7)
        | (go_at_call 22; with_reducible refine Calls.mono (HLN.out _ HB7.out) ?_; rintro e w8 ⟨rfl, hh8⟩; replace hh8 := hh8.symm; subst hh8))
      all_goals go_wp2
      all_goals
        exact ⟨⟨q, k + 1, hqa, by omega, rfl, by simp, ⟨HCU5.out.st.below HB7.out, HCU5.out.tab.below HB7.out, HCU5.out.bel.trans (HB7.out.mono HCU5.out.bel.size)⟩⟩, by simp [intOf]; omega⟩
    · have hge : ¬ (k : Int) < (cuts.length : Int) := by omega
      clear hlt
      obtain ⟨vx, hvx, hox, hcx⟩ := cut_end HAW.out a hal
      obtain ⟨X, HXX⟩ : ∃ X, Hid (X = all.drop a) := ⟨_, rfl⟩
      rw [← HXX.out] at hvx
      obtain ⟨ax, cx, rfl⟩ := src_shape hvx
      obtain ⟨lx, HLX⟩ : ∃ lx, Hid (lx = X.length) := ⟨_, rfl⟩
      rw [← HLX.out] at hcx hvx hox
      have hlx : lx = all.length - a := by rw [HLX.out, HXX.out, List.length_drop]
      have HLX2 := hid hlx
      clear hlx
      have HT1 := hid (HCU.out.tab.below (below_walk wr (.cells #[.slice ax lx cx] 24)))
      have HL1 := hid (lists_one (X := (· ≠ w.heap.size)) hvx (fun j hp hj => by have := LA.out j (by have h1 := HXX.out; rw [h1, List.length_drop] at hp; omega) (hox j hj); omega) (by have := HCU.out.st.lt; omega))
      have HS1 := hid (HCU.out.st.below (below_walk wr (.cells #[.slice ax lx cx] 24)))
      clear hvx hox
      go_wp2_with fail
      refine (write_ok _ w.heap.size _ _ a _ [X] HT1.out HS1.out.hg HL1.out (by simp) (by rw [fl_one, ← HLX.out, HLX2.out]; omega)).mono ?_
      rintro e w5 ⟨rfl, hs5, ht5, hg5⟩
      rw [fl_one, ← absorb_append, ← HLX.out, HLX2.out, HXX.out, List.take_append_drop, show a + (all.length - a) = all.length by omega] at hs5
      have HS5 := hid hs5
      have HT5 := hid ht5
      have HB5 := hid ((HCU.out.bel.alloc HCU.out.bel.size (.cells #[.slice ax lx cx] 24)).grown hg5 (by rw [hp_size]; have := HCU.out.bel.size; omega) (by intro j hj; cases hj; exact Nat.le_refl _))
      clear hs5 ht5 hg5 HT1 HL1 HS1
      obtain ⟨D, HD⟩ : ∃ D, Hid (D = u8V (ofP all)) := ⟨_, rfl⟩
      have eq := fun (W : World) => eql_row (P := Tryd.prog) W 53 5 32 .u8 Tryd.underlying53 Tryd.underlying5 (by kernel_rfl) (ofP all) (ofP_length _)
      rw [show List.map (Value.int .u8) (ofP all) = D from HD.out.symm] at eq
      have HA5 := hid (HA.out.below HB5.out)
      go_wp2_with fail
      refine (sum_at w5 w.heap.size all D HD.out HT5.out HS5.out (by omega)).mono ?_
      rintro e w6 ⟨rfl, hb6⟩
      have HB6 := hid hb6
      clear hb6
      go_wp2_with fail
      have HOF := hid (of_one w6 (.slice aa all.length ca) all (HT5.out.below HB6.out) (HA5.out.below HB6.out))
      rw [← HD.out] at HOF
      refine HOF.out.mono ?_
      rintro e w7 ⟨rfl, hb7⟩
      have HB7 := hid (HB6.out.trans (hb7.mono HB6.out.size))
      clear hb7
      go_wp2_with fail
      refine (len_any w7 w.heap.size _ _ _ _ (HS5.out.below HB7.out).hb).mono ?_
      rintro e w8 ⟨rfl, hh8⟩
      replace hh8 := hh8.symm
      subst hh8
      go_wp2_with fail
      refine (awake_any _ (HT5.out.below HB7.out)).mono ?_
      rintro e w9 ⟨rfl, hb9⟩
      have HB9 := hid (HB7.out.trans (hb9.mono HB7.out.size))
      clear hb9
      go_wp2
      go_ret
      exact ⟨rfl, HB5.out.trans (HB9.out.mono HB5.out.size)⟩

end Go.Proofs.YticmdmnjajjpbabDoor
