/- Contracts and pure facts that the proof needs, joined. -/
import Derived.Test.YteijkbanlpodpaaG3
import Derived.Test.YteijkbanlpodpaaG2

/- TreeWalks answers true. -/
namespace Go.Proofs.Yteijkbanlpodpaa
open Go.RowKit Go.Shelf Go.BigFrame

attribute [local go_sem] Oper.semAt_some

set_option maxRecDepth 100000 in
set_option maxHeartbeats 1000000 in
theorem lawWalks_any (v : Value) (t : List Ent) (d : List UInt8) (m : Int) (w : World) (h : Ents w v t) (hbt : EBk t) (hd : d.length ≤ 1048576) :
    Calls Try.prog 4 #[v, .string (mk d), .int .i64 m] w fun r w' => r = .returned (.bool true) ∧ Below w.heap.size w w' := by
  have hs : Short t := fun e he => by have := hbt.bulk e he; omega
  have hln := hbt.len
  have HET := hid h
  have HRS := hid (fun (W : World) (hW : Ents W v t) => rsub_any v t d W hW hbt.bulk (by omega) (by omega))
  have HFN := hid (fun p W (hW : Ents W v t) => rfind_any v t p W hW (by omega))
  have HWA := hid (fun (v2 : Value) (W : World) (hW : Ents W v2 t) => walk_all v2 t d W hW hs (by omega) (by omega))
  obtain ⟨U, hU1, hU2, hUl, hU4⟩ := walk_list t d
  have HUV := hid hU1
  have HUU := hid hU2
  have HUT := hid hU4
  clear hU1 hU2 hU4
  obtain ⟨ao, c, e0⟩ := h.shape
  subst e0
  clear h hs
  refine (callsIn_wide (n := 9)).1 ?_
  refine callsIn_of_wp_marks Try.func4 rfl trivial ?_ rfl
  simp only [Try.ntmps4, List.size_toArray, List.length_cons, List.length_nil, Nat.reduceAdd, Nat.reduceSub, Array.replicate_succ, Array.replicate_zero, List.push_toArray, List.append_toArray, List.nil_append, List.cons_append]
  have HB0 := hid (((below_walk w (.cells #[.slice ao t.length c] 22)).alloc (by simp) (.cells #[.int .i64 m] 3)).alloc (by simp; omega) (.cells #[.bool false] 4))
  have HT0 := hid (((Boxed.new w 22 (.slice ao t.length c)).alloc (.cells #[.int .i64 m] 3)).alloc (.cells #[.bool false] 4))
  have HM0 := hid (by have h9 := (Boxed.new (w.alloc (.cells #[.slice ao t.length c] 22)) 3 (.int .i64 m)).alloc (.cells #[.bool false] 4); rw [World.size_alloc] at h9; exact h9 : Boxed (((w.alloc (.cells #[.slice ao t.length c] 22)).alloc (.cells #[.int .i64 m] 3)).alloc (.cells #[.bool false] 4)) (w.heap.size + 1) 3 (.int .i64 m))
  have HR0 := hid (by have h9 := Boxed.new ((w.alloc (.cells #[.slice ao t.length c] 22)).alloc (.cells #[.int .i64 m] 3)) 4 (.bool false); rw [World.size_alloc, World.size_alloc] at h9; exact h9 : Boxed (((w.alloc (.cells #[.slice ao t.length c] 22)).alloc (.cells #[.int .i64 m] 3)).alloc (.cells #[.bool false] 4)) (w.heap.size + 1 + 1) 4 (.bool false))
  refine wpIn_wide.2 ?_
  go_wp2_with fail
  generalize ((w.alloc (.cells #[.slice ao t.length c] 22)).alloc (.cells #[.int .i64 m] 3)).alloc (.cells #[.bool false] 4) = W0 at *
  refine (alive_any _).mono ?_
  rintro r w1 ⟨rfl, hb1⟩
  have HB1 := hid (below_then HB0.out hb1)
  have HT1 := hid (show Boxed w1 w.heap.size 22 (.slice ao t.length c) from (hb1.block _ HT0.out.lt).trans HT0.out)
  have HM1 := hid (show Boxed w1 (w.heap.size + 1) 3 (.int .i64 m) from (hb1.block _ HM0.out.lt).trans HM0.out)
  have HR1 := hid (show Boxed w1 (w.heap.size + 1 + 1) 4 (.bool false) from (hb1.block _ HR0.out.lt).trans HR0.out)
  have c0 := HT1.out.cell
  have HE1 := hid (HET.out.below HB1.out)
  have HLN := hid (show ([] : List Ent).length + t.length ≤ 3298534883328 by simp; omega)
  clear hb1 HB0 HT0 HM0 HR0
  go_wp2_with (at_builtin; refine app_ent rfl _ _ rfl w1.heap.size _ [] rfl (OwnE.nil _ _) t _ rfl HE1.out HLN.out (Nat.le_refl _) ?_)
  intro v2 w2 ho2 hg2 _
  have hb2 : Below w1.heap.size w1 w2 := ⟨hg2.os, hg2.tape, hg2.output, hg2.size, fun q hq => hg2.block q hq (by simp [Value.ownBlock])⟩
  obtain ⟨am, cm, e2⟩ := ho2.ents.shape
  subst e2
  have HO2 := hid ho2
  have HB2 := hid (HB1.out.trans (hb2.mono HB1.out.size))
  have HT2 := hid (show Boxed w2 w.heap.size 22 (.slice ao t.length c) from (hb2.block _ HT1.out.lt).trans HT1.out)
  have HM2 := hid (show Boxed w2 (w.heap.size + 1) 3 (.int .i64 m) from (hb2.block _ HM1.out.lt).trans HM1.out)
  have HR2 := hid (show Boxed w2 (w.heap.size + 1 + 1) 4 (.bool false) from (hb2.block _ HR1.out.lt).trans HR1.out)
  have HZ2 := hid (show w.heap.size + 1 + 1 < w1.heap.size from HR1.out.lt)
  have hz2 : w1.heap.size ≤ w2.heap.size := hb2.size
  clear ho2 hg2 hb2 c0 HE1 HT1 HM1 HR1 HB1
  go_wp2_with fail
  refine (HWA.out _ _ HO2.out.ents).mono ?_
  rintro r w4 ⟨Bt, Bl, f, vl, rfl, hU, hb4⟩
  have HU4 := hid hU
  have HB4 := hid (HB2.out.trans (hb4.mono HB2.out.size))
  have HT4 := hid (show Boxed w4 w.heap.size 22 (.slice ao t.length c) from (hb4.block _ HT2.out.lt).trans HT2.out)
  have HM4 := hid (show Boxed w4 (w.heap.size + 1) 3 (.int .i64 m) from (hb4.block _ HM2.out.lt).trans HM2.out)
  have HR4 := hid (show Boxed w4 (w.heap.size + 1 + 1) 4 (.bool false) from (hb4.block _ HR2.out.lt).trans HR2.out)
  have HO4 := hid ((HO2.out.below hb4).ro)
  have hz4 : w2.heap.size ≤ w4.heap.size := hb4.size
  have hO2 := HO2.out.lt
  clear hU hb4 HWA HB2 HT2 HM2 HR2 HO2
  obtain ⟨gm, hgm1, hgm2, hgm3⟩ : ∃ gm : Nat, w1.heap.size ≤ gm ∧ (∀ b, w2.heap.size ≤ b → b < w4.heap.size + 1 → b ≠ gm) ∧ ∀ k, (Value.slice am t.length cm).ownBlock = some k → k = gm := by
    cases e : (Value.slice am t.length cm).ownBlock with
    | none => exact ⟨w4.heap.size + 1, by omega, fun b _ h => by omega, fun k h => by cases h⟩
    | some k => exact ⟨k, (hO2 k e).1, fun b h _ => by have := (hO2 k e).2; omega, fun j h => (Option.some.inj h).symm⟩
  have HG1 := hid hgm1
  have HG2 := hid hgm2
  have HG3 := hid hgm3
  clear hO2 hgm1 hgm2 hgm3
  have HB5 := hid (HB4.out.alloc HB4.out.size (.cells #[.func (.func 41) #[] #[.pointer (some ⟨Bt, 0, none⟩), .pointer (some ⟨Bl, 0, none⟩)]] 39))
  have HT5 := hid (HT4.out.alloc (.cells #[.func (.func 41) #[] #[.pointer (some ⟨Bt, 0, none⟩), .pointer (some ⟨Bl, 0, none⟩)]] 39))
  have HM5 := hid (HM4.out.alloc (.cells #[.func (.func 41) #[] #[.pointer (some ⟨Bt, 0, none⟩), .pointer (some ⟨Bl, 0, none⟩)]] 39))
  have HR5 := hid (HR4.out.alloc (.cells #[.func (.func 41) #[] #[.pointer (some ⟨Bt, 0, none⟩), .pointer (some ⟨Bl, 0, none⟩)]] 39))
  have HW5 := hid (Boxed.new w4 39 (.func (.func 41) #[] #[.pointer (some ⟨Bt, 0, none⟩), .pointer (some ⟨Bl, 0, none⟩)]))
  have HO5 := hid (HO4.out.below (below_walk w4 (.cells #[.func (.func 41) #[] #[.pointer (some ⟨Bt, 0, none⟩), .pointer (some ⟨Bl, 0, none⟩)]] 39)))
  have HK5 := hid (fun b (h : b < w4.heap.size) => (below_walk w4 (.cells #[.func (.func 41) #[] #[.pointer (some ⟨Bt, 0, none⟩), .pointer (some ⟨Bl, 0, none⟩)]] 39)).block b h)
  have HZ5 := hid (show (w4.alloc (.cells #[.func (.func 41) #[] #[.pointer (some ⟨Bt, 0, none⟩), .pointer (some ⟨Bl, 0, none⟩)]] 39)).heap.size = w4.heap.size + 1 by simp)
  clear HB4 HT4 HM4 HR4 HO4
  go_wp2_with fail
  generalize w4.alloc (.cells #[.func (.func 41) #[] #[.pointer (some ⟨Bt, 0, none⟩), .pointer (some ⟨Bl, 0, none⟩)]] 39) = w5 at *
  go_loopw [27] (fun i wr => ∃ k : Nat, i = .int .i64 k ∧ k ≤ t.length ∧ Hid (RoE wr w1.heap.size (.slice am t.length cm) t.length) ∧ Hid (KpS w5.heap.size gm w5 wr) ∧ Hid (Below w.heap.size w wr)) (fun i _ => t.length - (intOf i).toNat)
  case atStart => exact ⟨0, rfl, Nat.zero_le _, HO5, hid (kpS_r _ _ _), HB5⟩
  case round =>
    clear HO5 HB5
    obtain ⟨k, rfl, hk, HR, HK, HB⟩ := hrel
    by_cases hlt : k < t.length
    · have q2 : (k : Int) < (t.length : Int) := by omega
      obtain ⟨ga, ca, hv, _, _⟩ := HR.out.form (by omega)
      injection hv with e1 _ e3
      subst e1 e3
      have HGE := hid (HG3.out ga rfl)
      have HTH := hid (HR.out.there3 k hlt)
      have gb := gb_sets3 wr ga (k * 3) (.string (mk [122, 122])) (.int .i64 0) (.string (mk []))
      have HR' := hid (HR.out.sets3 (k * 3) (.string (mk [122, 122])) (.int .i64 0) (.string (mk [])))
      have HK' := hid (show KpS w5.heap.size gm w5 (wr.setCells ga (k * 3) [.string (mk [122, 122]), .int .i64 0, .string (mk [])]) from kpS_t HK.out ⟨gb.size, fun b h1 h2 => gb.block b (Nat.lt_of_lt_of_le h1 HK.out.1) (fun e => h2 (by rw [← HGE.out]; exact Option.some.inj e))⟩)
      have HB' := hid (HB.out.grown gb HB.out.size (fun j hj => by cases hj; rw [HGE.out]; have := HG1.out; have := HZ2.out; omega))
      have hw1 : IntKind.i64.wrap ((k : Int) + 1) = ((k + 1 : Nat) : Int) := by rw [IntKind.wrap_i64]; omega
      clear gb HR HK HB HGE
      go_wp2_with (refine wpList_store_mid (by rfl) 25 (.tmp 33) (.tmp 32) (by rfl) ga (k * 3) [.string (mk [122, 122]), .int .i64 0, .string (mk [])].toArray (by rfl) (by rfl) HTH.out (by exact Try.infoEnt1) (all_oneCell_toArray (by simp [Value.oneCell'])) ?_)
      exact ⟨⟨k + 1, by simp, by omega, HR', HK', HB'⟩, by simp [intOf]; omega⟩
    · have q2 : ¬ (k : Int) < (t.length : Int) := by omega
      have hsz6 := HK.out.1
      have HT6 := hid (show Boxed wr w.heap.size 22 (.slice ao t.length c) from (HK.out.2 _ HT5.out.lt (by have := HG1.out; have := HZ2.out; omega)).trans HT5.out)
      have HM6 := hid (show Boxed wr (w.heap.size + 1) 3 (.int .i64 m) from (HK.out.2 _ HM5.out.lt (by have := HG1.out; have := HZ2.out; omega)).trans HM5.out)
      have HR6 := hid (show Boxed wr (w.heap.size + 1 + 1) 4 (.bool false) from (HK.out.2 _ HR5.out.lt (by have := HG1.out; have := HZ2.out; omega)).trans HR5.out)
      have HW6 := hid (show Boxed wr w4.heap.size 39 (.func (.func 41) #[] #[.pointer (some ⟨Bt, 0, none⟩), .pointer (some ⟨Bl, 0, none⟩)]) from (HK.out.2 _ HW5.out.lt (HG2.out _ hz4 (by omega))).trans HW5.out)
      have HU6 := hid (fun b (h1 : w2.heap.size ≤ b) (h2 : b < w4.heap.size) => (HK.out.2 b (by rw [HZ5.out]; omega) (HG2.out b h1 (by omega))).trans (HK5.out b h2))
      have HB6 := hid HB.out
      have HN0 := hid (show w4.heap.size < wr.heap.size from HW6.out.lt)
      have HS2 := hid (show w.heap.size + 1 + 1 < w4.heap.size from by have := HZ2.out; omega)
      have c0 := HT6.out.cell
      clear HR HK HB HT5 HM5 HR5 HW5 HK5 HZ5 HG1 HG2 HG3 HLN hk hlt hsz6
      go_wp2_with fail
      refine (HRS.out _ (HET.out.below HB6.out)).mono ?_
      rintro r w7 ⟨ha, hb7⟩
      obtain ⟨sa, sc, E, S, e, hES⟩ := sb_ways HUV.out ha
      subst e
      have HES := hid hES
      clear ha hES HRS c0
      have HB8 := hid ((HB6.out.trans (hb7.mono HB6.out.size)).alloc (Nat.le_trans HB6.out.size hb7.size) (.cells #[.int .i64 0] 3))
      have HT8 := hid ((show Boxed w7 w.heap.size 22 (.slice ao t.length c) from (hb7.block _ HT6.out.lt).trans HT6.out).alloc (.cells #[.int .i64 0] 3))
      have HM8 := hid ((show Boxed w7 (w.heap.size + 1) 3 (.int .i64 m) from (hb7.block _ HM6.out.lt).trans HM6.out).alloc (.cells #[.int .i64 0] 3))
      have HR8 := hid ((show Boxed w7 (w.heap.size + 1 + 1) 4 (.bool false) from (hb7.block _ HR6.out.lt).trans HR6.out).alloc (.cells #[.int .i64 0] 3))
      have HW8 := hid ((show Boxed w7 w4.heap.size 39 (.func (.func 41) #[] #[.pointer (some ⟨Bt, 0, none⟩), .pointer (some ⟨Bl, 0, none⟩)]) from (hb7.block _ HW6.out.lt).trans HW6.out).alloc (.cells #[.int .i64 0] 3))
      have HN8 := hid (Boxed.new w7 3 (.int .i64 0))
      have HU8 := hid (fun b (h1 : w2.heap.size ≤ b) (h2 : b < w4.heap.size) => ((below_walk w7 (.cells #[.int .i64 0] 3)).block b (Nat.lt_of_lt_of_le (Nat.lt_trans h2 HN0.out) hb7.size)).trans ((hb7.block b (Nat.lt_trans h2 HN0.out)).trans (HU6.out b h1 h2)))
      have HZ8 := hid (show w4.heap.size < w7.heap.size from Nat.lt_of_lt_of_le HN0.out hb7.size)
      have HU9 := hid (show Und (w7.alloc (.cells #[.int .i64 0] 3)) (w7.alloc (.cells #[.int .i64 0] 3)).heap.size w7.heap.size vl (vals U) f d Bt Bl from by
        rw [← HUV.out]
        exact Und.up HU4.out (by have := HZ2.out; omega) HU8.out (by rw [World.size_alloc]; have := HZ8.out; omega) (by have := HZ8.out; omega))
      have cW := HW8.out.cell
      clear hb7 HB6 HT6 HM6 HR6 HW6 HU6 HN0 HU8 HU4
      go_wp2_with fail
      generalize w7.alloc (.cells #[.int .i64 0] 3) = w8 at *
      generalize w7.heap.size = bN at *
      generalize w4.heap.size = bW at *
      have HS8 := hid (show w.heap.size + 1 + 1 < w8.heap.size from HR8.out.lt)
      have HNR := hid (show w.heap.size + 1 + 1 < bN from by have := HS2.out; have := HZ8.out; omega)
      have HWN := hid (show bW ≠ bN from by have := HZ8.out; omega)
      refine frame_gen (fun V => #[slotOf V 0, slotOf V 1, slotOf V 2, .pointer (some ⟨w.heap.size, 0, none⟩), slotOf V 4, .pointer (some ⟨w.heap.size + 1, 0, none⟩), .pointer (some ⟨w.heap.size + 1 + 1, 0, none⟩), slotOf V 7, .pointer (some ⟨bW, 0, none⟩), slotOf V 9, .slice sa S sc, .int .i64 E, .pointer (some ⟨bN, 0, none⟩), slotOf V 13, slotOf V 14, slotOf V 15, slotOf V 16, slotOf V 17, slotOf V 18, slotOf V 19, slotOf V 20, slotOf V 21, slotOf V 22, slotOf V 23, slotOf V 24, slotOf V 25, slotOf V 26, slotOf V 27, slotOf V 28, slotOf V 29, slotOf V 30, slotOf V 31, slotOf V 32, slotOf V 33, slotOf V 34, slotOf V 35, slotOf V 36, slotOf V 37, slotOf V 38, slotOf V 39, slotOf V 40, .func (.func 41) #[] #[.pointer (some ⟨Bt, 0, none⟩), .pointer (some ⟨Bl, 0, none⟩)], slotOf V 42, slotOf V 43, slotOf V 44, slotOf V 45, slotOf V 46, slotOf V 47, slotOf V 48, slotOf V 49, slotOf V 50, slotOf V 51, slotOf V 52, slotOf V 53, slotOf V 54, slotOf V 55, slotOf V 56, slotOf V 57, slotOf V 58, slotOf V 59, slotOf V 60, slotOf V 61, slotOf V 62, slotOf V 63, slotOf V 64, slotOf V 65, slotOf V 66, slotOf V 67, slotOf V 68, slotOf V 69, slotOf V 70, slotOf V 71, slotOf V 72, slotOf V 73, slotOf V 74, slotOf V 75, slotOf V 76, slotOf V 77, slotOf V 78, slotOf V 79, slotOf V 80, slotOf V 81, slotOf V 82, slotOf V 83, slotOf V 84, slotOf V 85, slotOf V 86, slotOf V 87, slotOf V 88, slotOf V 89, slotOf V 90, slotOf V 91, slotOf V 92, slotOf V 93, slotOf V 94, slotOf V 95, slotOf V 96, slotOf V 97, slotOf V 98, slotOf V 99, slotOf V 100, slotOf V 101, slotOf V 102, slotOf V 103, slotOf V 104, slotOf V 105]) _ (by kernel_rfl) ?_
      intro V
      refine range_cut (id := 2) (fun D W => w8.heap.size ≤ D ∧ W.heap[D]? = some (.deferred (some [])) ∧ ∃ n : Nat, Wlk w w8 bN n W ∧ n ≤ U.length ∧ (n = U.length ∨ (n : Int) = m)) ?r1 ?rest1 ?he1
      case he1 => exact fun _ _ h => h
      case r1 =>
        refine (wpIn_wide (n := 9)).1 ?_
        refine wpIn_rangeFunc_ownH rfl (by omega) (gf := 41) (lb := #[.pointer (some ⟨Bt, 0, none⟩), .pointer (some ⟨Bl, 0, none⟩)]) rfl trivial (enters_of Try.func41 (by kernel_rfl) rfl)
          (und_stops _ (by omega) Bt Bl w8.heap.size bN U hUl vl f d w8 HU9.out (Nat.le_refl _))
          (fun h k => kpS_t h k) (kpS_b (Nat.le_refl _)) (Below.refl _ _) (fun _ => rfl)
          (fun pre W => Wlk w w8 bN pre.length W)
          (fun c pre W => (c = .exit 2 ∧ ∃ n : Nat, n < U.length ∧ (n : Int) = m ∧ Wlk w w8 bN n W) ∨ ¬ pre <+: U)
          (wlk_own HN8.out.lt HB8.out.size (fun pre => pre.length))
          (fun c s A B row hs hg hr => hs.elim (fun ⟨h1, n, h2, h3, h4⟩ => Or.inl ⟨h1, n, h2, h3, wlk_own HN8.out.lt HB8.out.size (fun _ => n) s A B row h4 hg hr⟩) Or.inr)
          ⟨kpS_r _ _ _, HN8.out, HB8.out⟩
          (WlkA w8.heap.size (fun Be y => #[slotOf V 0, slotOf V 1, slotOf V 2, .pointer (some ⟨w.heap.size, 0, none⟩), slotOf V 4, .pointer (some ⟨w.heap.size + 1, 0, none⟩), .pointer (some ⟨w.heap.size + 1 + 1, 0, none⟩), slotOf V 7, .pointer (some ⟨bW, 0, none⟩), slotOf V 9, .slice sa S sc, .int .i64 E, .pointer (some ⟨bN, 0, none⟩), slotOf V 13, .pointer (some ⟨Be, 0, none⟩), slotOf V 15, slotOf V 16, slotOf V 17, slotOf V 18, slotOf V 19, slotOf V 20, slotOf V 21, slotOf V 22, slotOf V 23, slotOf V 24, slotOf V 25, slotOf V 26, slotOf V 27, slotOf V 28, slotOf V 29, slotOf V 30, slotOf V 31, slotOf V 32, slotOf V 33, slotOf V 34, slotOf V 35, slotOf V 36, slotOf V 37, slotOf V 38, slotOf V 39, slotOf V 40, .func (.func 41) #[] #[.pointer (some ⟨Bt, 0, none⟩), .pointer (some ⟨Bl, 0, none⟩)], .string (mk (spN y.1.1)), entA y.1, slotOf V 44, slotOf V 45, slotOf V 46, slotOf V 47, slotOf V 48, slotOf V 49, slotOf V 50, slotOf V 51, slotOf V 52, slotOf V 53, slotOf V 54, slotOf V 55, slotOf V 56, slotOf V 57, slotOf V 58, slotOf V 59, slotOf V 60, slotOf V 61, slotOf V 62, slotOf V 63, slotOf V 64, slotOf V 65, slotOf V 66, slotOf V 67, slotOf V 68, slotOf V 69, slotOf V 70, slotOf V 71, slotOf V 72, slotOf V 73, slotOf V 74, slotOf V 75, slotOf V 76, slotOf V 77, slotOf V 78, slotOf V 79, slotOf V 80, slotOf V 81, slotOf V 82, slotOf V 83, slotOf V 84, slotOf V 85, slotOf V 86, slotOf V 87, slotOf V 88, slotOf V 89, slotOf V 90, slotOf V 91, slotOf V 92, slotOf V 93, slotOf V 94, slotOf V 95, slotOf V 96, slotOf V 97, slotOf V 98, slotOf V 99, slotOf V 100, slotOf V 101, slotOf V 102, slotOf V 103, slotOf V 104, slotOf V 105]))
          (fun y a' => wlkA_own y a') ?assign ?body ?done ?stop
        case assign =>
          intro l pre y W K hi hK
          unfold undE entA
          gi_wp2
          exact hK _ _ ((KeepsOthers.alloc _ _).from _) (kpS_below (below_walk W _) hi.k.1) (hi.step (below_walk W _)) ⟨W.heap.size, hi.k.1, Eb.new W y.1, rfl⟩
        case done =>
          rintro D xs W hD hxs hi hK
          have hxs : xs = undL d U := hxs
          subst hxs
          have hi : Wlk w w8 bN (undL d U).length W := hi
          rw [HUU.out] at hi
          exact ⟨Or.inl rfl, D, rfl, hD, hK, U.length, hi, Nat.le_refl _, Or.inl rfl⟩
        case stop =>
          rintro D c' pre W hD hp h hK
          rcases h with ⟨rfl, n, h2, h3, h4⟩ | h
          · exact wpIn_exit ⟨Or.inr rfl, D, rfl, hD, hK, n, h4, Nat.le_of_lt h2, Or.inr h3⟩
          · exact absurd hp (by rw [HUU.out]; exact h)
        case body =>
          rintro l pre y a' W hl _ hi ⟨Be, hBe, heb, rfl⟩ hlt
          obtain ⟨n, Hn⟩ : ∃ n, Hid (pre.length = n) := ⟨_, hid rfl⟩
          rw [Hn.out] at hi hlt
          have HI := hid hi
          have HEB := hid heb
          have HEW := hid (HET.out.below hi.b)
          have HTW := hid (show Boxed W w.heap.size 22 (.slice ao t.length c) from (hi.k.2 _ (by have := HS8.out; omega) (by have := HNR.out; omega)).trans HT8.out)
          have HMW := hid (show Boxed W (w.heap.size + 1) 3 (.int .i64 m) from (hi.k.2 _ (by have := HS8.out; omega) (by have := HNR.out; omega)).trans HM8.out)
          have HRW := hid (show Boxed W (w.heap.size + 1 + 1) 4 (.bool false) from (hi.k.2 _ HS8.out (by have := HNR.out; omega)).trans HR8.out)
          have HNP : Hid (y.1 ∉ t → ¬ pre ++ [y] <+: U) := hid (fun h1 h2 => h1 ((HUT.out (by omega)).2 y (List.mem_of_getElem? (pre_at h2))))
          obtain ⟨z0, z1, z2⟩ := heb.at
          have ct := HTW.out.cell
          have hBl : Be < W.heap.size := hp_lt heb
          have hTl2 : w.heap.size < W.heap.size := HTW.out.lt
          have HFY := hid (fun W' (h : Ents W' (.slice ao t.length c) t) => HFN.out y.1.1 W' h)
          have ib : Nonempty (Bel W) := bel_some W
          have k0 := fun p : Bel W => p.cell z0 hBl
          have k1 := fun p : Bel W => p.cell z1 hBl
          have k2' := fun p : Bel W => p.cell z2 hBl
          have k6 := fun p : Bel W => p.cell ct hTl2
          clear hi heb hBe HU9 hl
          dsimp only
          by_cases hm : y.1 ∈ t
          · obtain ⟨k2, hk, h3, h4⟩ := fi_at (HUT.out (by omega)).1 hm
            rw [h3] at HFY
            obtain ⟨g2, o2, eao, hl2, hat⟩ := HEW.out.at k2 hk
            rw [h4] at hat
            obtain ⟨y0, y1, y2⟩ := hat
            have k3 := fun p : Bel W => p.cell y0 hl2
            have k4 := fun p : Bel W => p.cell y1 hl2
            have k5 := fun p : Bel W => p.cell y2 hl2
            have hne := fun W => neq_ent y.1 y.1 W
            have hg := entG
            rw [show decide (y.1 = y.1) = true from by simp] at hne
            have q5 : (k2 : Int) < (t.length : Int) := by omega
            have q6 : 0 ≤ (k2 : Int) := by omega
            subst eao
            clear h3 h4 y0 y1 y2
            gi_wp2_with fail
            refine ⟨trivial, ?_⟩
            gi_at_call 7
            refine (CallsIn.inRound l (callsIn_wide.2 (HFY.out _ HEW.out))).mono ?_
            rintro r w6 ⟨rfl, hw6⟩
            have hw6 := hw6.symm
            subst hw6
            gi_wp2_with fail
            refine wpIn_region_bel_tail 9 (by kernel_rfl) (by kernel_rfl) (by kernel_rfl) (by rintro ⟨_, _, h⟩; exact h) ?_
            simp only [List.take_succ_cons, List.take_zero, List.drop_succ_cons, List.drop_zero]
            go_big_quiet_step (fail)
            go_big_quiet_step (fail)
            rw [show decide ((k2 : Int) < 0) = false from by simp]
            repeat (go_big_quiet_step (fail))
            refine wpQuiet_nil ?_
            rintro w5' ⟨⟨w5'', hb5⟩, hw5⟩
            obtain rfl : w5' = w5'' := hw5
            have HB5 := hid hb5
            have HI5 := hid (HI.out.step hb5)
            have HM5 := hid (show Boxed w5' (w.heap.size + 1) 3 (.int .i64 m) from (hb5.block _ HMW.out.lt).trans HMW.out)
            have cn5 := HI5.out.n.cell
            have fn5 := HI5.out.n.frozen
            have cm5 := HM5.out.cell
            clear hb5 ct k0 k1 k2' k3 k4 k5 k6 z0 z1 z2
            by_cases hnm : (n : Int) = m
            · have hnm2 : ((n : Int) == m) = true := by simpa using hnm
              have HNM := hid hnm
              clear hnm
              go_wp2_with fail
              gi_wp2_with fail
              exact ⟨KeepsFrom.below HB5.out, Or.inl ⟨rfl, n, hlt, HNM.out, HI5.out⟩⟩
            · have hnm2 : ((n : Int) == m) = false := by simpa using hnm
              have hw1 : IntKind.i64.wrap ((n : Int) + 1) = ((n + 1 : Nat) : Int) := by rw [IntKind.wrap_i64]; omega
              go_wp2_with fail
              gi_wp2_with fail
              exact ⟨(KeepsFrom.below HB5.out).trans ((KeepsOthers.setCell w5' _ _).from _), kpS_t (kpS_below HB5.out HI.out.k.1) (kpS_self _ _ _ _), by show Wlk w w8 bN (pre ++ [y]).length _; rw [List.length_append, Hn.out]; exact HI5.out.put (by have := HNR.out; omega) (n + 1)⟩
          cases hf : fiP t y.1.1 with
          | none =>
            have h3 : fiN t y.1.1 = -1 := by unfold fiN; rw [hf]
            rw [h3] at HFY
            clear hf h3
            gi_wp2_with fail
            refine ⟨trivial, ?_⟩
            gi_at_call 7
            refine (CallsIn.inRound l (callsIn_wide.2 (HFY.out _ HEW.out))).mono ?_
            rintro r w6 ⟨rfl, hw6⟩
            have hw6 := hw6.symm
            subst hw6
            gi_wp2_with fail
            refine wpIn_region_bel_tail 9 (by kernel_rfl) (by kernel_rfl) (by kernel_rfl) (by rintro ⟨_, _, h⟩; exact h) ?_
            simp only [List.take_succ_cons, List.take_zero, List.drop_succ_cons, List.drop_zero]
            go_big_quiet_step (fail)
            go_big_quiet_step (fail)
            repeat (go_big_quiet_step (fail))
            refine wpQuiet_nil ?_
            rintro w5' ⟨⟨w5'', hb5⟩, hw5⟩
            obtain rfl : w5' = w5'' := hw5
            have HB5 := hid hb5
            have HR5 := hid (show Boxed w5' (w.heap.size + 1 + 1) 4 (.bool false) from (hb5.block _ HRW.out.lt).trans HRW.out)
            have cr5 := HR5.out.cell
            have fr5 := HR5.out.frozen
            clear hb5 ct k0 k1 k2' k6 z0 z1 z2
            go_wp2_with fail
            gi_wp2_with fail
            exact ⟨(KeepsFrom.below HB5.out).trans ((KeepsOthers.setCell w5' _ _).from _), Or.inr (HNP.out hm)⟩
          | some k2 =>
            have h3 : fiN t y.1.1 = (k2 : Int) := by unfold fiN; rw [hf]
            obtain ⟨hk, _, _⟩ := fiP_some.1 hf
            rw [h3] at HFY
            obtain ⟨g2, o2, eao, hl2, hat⟩ := HEW.out.at k2 hk
            obtain ⟨e, HE⟩ : ∃ e, Hid (t.getD k2 zE = e) := ⟨_, hid rfl⟩
            rw [HE.out] at hat
            obtain ⟨y0, y1, y2⟩ := hat
            have k3 := fun p : Bel W => p.cell y0 hl2
            have k4 := fun p : Bel W => p.cell y1 hl2
            have k5 := fun p : Bel W => p.cell y2 hl2
            have hne := fun W => neq_ent e y.1 W
            have hg := entG
            have hey : decide (e = y.1) = false := by
              refine decide_eq_false (fun h9 => hm ?_)
              rw [← h9, ← HE.out, List.getD_eq_getElem?_getD, List.getElem?_eq_getElem hk]
              exact List.getElem_mem hk
            rw [hey] at hne
            have q5 : (k2 : Int) < (t.length : Int) := by omega
            have q6 : 0 ≤ (k2 : Int) := by omega
            subst eao
            clear h3 hf y0 y1 y2 hey
            gi_wp2_with fail
            refine ⟨trivial, ?_⟩
            gi_at_call 7
            refine (CallsIn.inRound l (callsIn_wide.2 (HFY.out _ HEW.out))).mono ?_
            rintro r w6 ⟨rfl, hw6⟩
            have hw6 := hw6.symm
            subst hw6
            gi_wp2_with fail
            refine wpIn_region_bel_tail 9 (by kernel_rfl) (by kernel_rfl) (by kernel_rfl) (by rintro ⟨_, _, h⟩; exact h) ?_
            simp only [List.take_succ_cons, List.take_zero, List.drop_succ_cons, List.drop_zero]
            go_big_quiet_step (fail)
            go_big_quiet_step (fail)
            rw [show decide ((k2 : Int) < 0) = false from by simp]
            repeat (go_big_quiet_step (fail))
            refine wpQuiet_nil ?_
            rintro w5' ⟨⟨w5'', hb5⟩, hw5⟩
            obtain rfl : w5' = w5'' := hw5
            have HB5 := hid hb5
            have HR5 := hid (show Boxed w5' (w.heap.size + 1 + 1) 4 (.bool false) from (hb5.block _ HRW.out.lt).trans HRW.out)
            have cr5 := HR5.out.cell
            have fr5 := HR5.out.frozen
            clear hb5 ct k0 k1 k2' k3 k4 k5 k6 z0 z1 z2
            go_wp2_with fail
            gi_wp2_with fail
            exact ⟨(KeepsFrom.below HB5.out).trans ((KeepsOthers.setCell w5' _ _).from _), Or.inr (HNP.out hm)⟩
      case rest1 =>
        rintro D W2 ⟨hD, hKD, n, hW, hn1, hn2⟩
        have HKD := hid hKD
        have HDL := hid hD
        have HN12 := hid (And.intro hn1 hn2)
        have HR2b := hid (show Boxed W2 (w.heap.size + 1 + 1) 4 (.bool false) from (hW.k.2 _ HS8.out (by have := HNR.out; omega)).trans HR8.out)
        have HM2b := hid (show Boxed W2 (w.heap.size + 1) 3 (.int .i64 m) from (hW.k.2 _ (by have := HS8.out; omega) (by have := HNR.out; omega)).trans HM8.out)
        have HW2b := hid (show Boxed W2 bW 39 (.func (.func 41) #[] #[.pointer (some ⟨Bt, 0, none⟩), .pointer (some ⟨Bl, 0, none⟩)]) from (hW.k.2 _ HW8.out.lt HWN.out).trans HW8.out)
        have HN2b := hid hW.n
        have hz2b : w8.heap.size ≤ W2.heap.size := hW.k.1
        have HU2 := hid ((HU9.out.kept hW.k).raise hz2b hz2b)
        have HB2 := hid hW.b
        have hr2l := HR2b.out.lt
        clear hW hKD hD hn1 hn2 HT8 HM8 HR8 HW8 HN8 HB8 HU9 HFN
        dsimp only
        obtain ⟨W3, HW3⟩ : ∃ W3, Hid (W3 = (W2.alloc (.cells #[.int .i64 0] 3)).alloc (.cells #[.int .i64 0] 3)) := ⟨_, hid rfl⟩
        have HB3 := hid (show Below W2.heap.size W2 W3 from by rw [HW3.out]; exact (below_walk W2 _).alloc (by simp) _)
        have HA3 := hid (show Boxed W3 W2.heap.size 3 (.int .i64 0) from by rw [HW3.out]; exact (Boxed.new W2 3 (.int .i64 0)).alloc _)
        have HP3 := hid (show Boxed W3 (W2.heap.size + 1) 3 (.int .i64 0) from by rw [HW3.out]; have h9 := Boxed.new (W2.alloc (.cells #[.int .i64 0] 3)) 3 (.int .i64 0); rw [World.size_alloc] at h9; exact h9)
        have cW3 : ((W2.alloc (.cells #[.int .i64 0] 3)).alloc (.cells #[.int .i64 0] 3)).cell? ⟨bW, 0, none⟩ = some (.func (.func 41) #[] #[.pointer (some ⟨Bt, 0, none⟩), .pointer (some ⟨Bl, 0, none⟩)]) := by have h9 := (HB3.out.block bW HW2b.out.lt).trans HW2b.out; rw [HW3.out] at h9; exact Boxed.cell h9
        go_wp2_with fail
        rw [← HW3.out]
        have HDN := hid (show D < W2.heap.size from hp_lt HKD.out)
        have HU3 := hid (HU2.out.kept (kpS_below HB3.out (Nat.le_refl _)))
        have HTW3 : Hid (Two w W3 W2.heap.size W2.heap.size (W2.heap.size + 1) 0 0 W3) := hid ⟨kpS_r _ _ _, HA3.out, HP3.out, below_then HB2.out HB3.out⟩
        have hz3 : W2.heap.size + 1 < W3.heap.size := HP3.out.lt
        have HR3 := hid (show Boxed W3 (w.heap.size + 1 + 1) 4 (.bool false) from (HB3.out.block _ HR2b.out.lt).trans HR2b.out)
        have HM3 := hid (show Boxed W3 (w.heap.size + 1) 3 (.int .i64 m) from (HB3.out.block _ HM2b.out.lt).trans HM2b.out)
        have HWB := hid (show Boxed W3 bW 39 (.func (.func 41) #[] #[.pointer (some ⟨Bt, 0, none⟩), .pointer (some ⟨Bl, 0, none⟩)]) from (HB3.out.block _ HW2b.out.lt).trans HW2b.out)
        have HN3 := hid (show Boxed W3 bN 3 (.int .i64 n) from (HB3.out.block _ HN2b.out.lt).trans HN2b.out)
        have HKD3 := hid ((HB3.out.block D HDN.out).trans HKD.out)
        have hbWl : bW < W2.heap.size := HW2b.out.lt
        have hbNl : bN < W2.heap.size := HN2b.out.lt
        have hwA : w.heap.size ≤ W2.heap.size := by omega
        clear HW3 cW3 HA3 HP3 HU2 HB2 HB3 HR2b HM2b HW2b HN2b HKD
        generalize W2.heap.size = nA at *
        refine frame_gen (fun V => #[slotOf V 0, slotOf V 1, slotOf V 2, slotOf V 3, slotOf V 4, .pointer (some ⟨w.heap.size + 1, 0, none⟩), .pointer (some ⟨w.heap.size + 1 + 1, 0, none⟩), slotOf V 7, .pointer (some ⟨bW, 0, none⟩), slotOf V 9, .slice sa S sc, .int .i64 E, .pointer (some ⟨bN, 0, none⟩), slotOf V 13, slotOf V 14, slotOf V 15, .pointer (some ⟨nA, 0, none⟩), .pointer (some ⟨nA + 1, 0, none⟩), slotOf V 18, slotOf V 19, slotOf V 20, slotOf V 21, slotOf V 22, slotOf V 23, slotOf V 24, slotOf V 25, slotOf V 26, slotOf V 27, slotOf V 28, slotOf V 29, slotOf V 30, slotOf V 31, slotOf V 32, slotOf V 33, slotOf V 34, slotOf V 35, slotOf V 36, slotOf V 37, slotOf V 38, slotOf V 39, slotOf V 40, slotOf V 41, slotOf V 42, slotOf V 43, slotOf V 44, slotOf V 45, slotOf V 46, slotOf V 47, slotOf V 48, slotOf V 49, slotOf V 50, slotOf V 51, slotOf V 52, slotOf V 53, slotOf V 54, slotOf V 55, slotOf V 56, slotOf V 57, slotOf V 58, slotOf V 59, slotOf V 60, slotOf V 61, slotOf V 62, .func (.func 41) #[] #[.pointer (some ⟨Bt, 0, none⟩), .pointer (some ⟨Bl, 0, none⟩)], slotOf V 64, slotOf V 65, slotOf V 66, slotOf V 67, slotOf V 68, slotOf V 69, slotOf V 70, slotOf V 71, slotOf V 72, slotOf V 73, slotOf V 74, slotOf V 75, slotOf V 76, slotOf V 77, slotOf V 78, slotOf V 79, slotOf V 80, slotOf V 81, slotOf V 82, slotOf V 83, slotOf V 84, slotOf V 85, slotOf V 86, slotOf V 87, slotOf V 88, slotOf V 89, slotOf V 90, slotOf V 91, slotOf V 92, slotOf V 93, slotOf V 94, slotOf V 95, slotOf V 96, slotOf V 97, slotOf V 98, slotOf V 99, slotOf V 100, slotOf V 101, slotOf V 102, slotOf V 103, slotOf V 104, slotOf V 105]) _ (by kernel_rfl) ?_
        intro V
        refine range_cut (id := 4) (fun D2 W => W3.heap.size ≤ D2 ∧ W.heap[D2]? = some (.deferred (some [])) ∧ Two w W3 nA nA (nA + 1) U.length (min 8 U.length * U.length) W) ?r2 ?rest2 ?he2
        case he2 => exact fun _ _ h => h
        case r2 =>
          refine (wpIn_wide (n := 9)).1 ?_
          refine wpIn_rangeFunc_ownH rfl (by omega) (gf := 41) (lb := #[.pointer (some ⟨Bt, 0, none⟩), .pointer (some ⟨Bl, 0, none⟩)]) rfl trivial (enters_of Try.func41 (by kernel_rfl) rfl)
            (und_stops _ (by omega) Bt Bl nA nA U hUl vl f d W3 HU3.out (by omega))
            (fun h k => kpS_t h k) (kpS_b (by omega)) (Below.refl _ _) (fun _ => rfl)
            (fun pre W => Two w W3 nA nA (nA + 1) pre.length (min 8 pre.length * U.length) W)
            (fun _ _ _ => False)
            (two_own (α := List MEnt) (w4 := W3) (n0 := nA) (ba := nA) (bp := nA + 1) (B := W3.heap.size) (by omega) (by omega) (by omega) (by omega) hwA (fun pre => pre.length) (fun pre => min 8 pre.length * U.length)) (fun _ _ _ _ _ hs _ _ => hs)
            (by simpa using HTW3.out)
            (fun y a' _ => a' = { tmps := #[slotOf V 0, slotOf V 1, slotOf V 2, slotOf V 3, slotOf V 4, .pointer (some ⟨w.heap.size + 1, 0, none⟩), .pointer (some ⟨w.heap.size + 1 + 1, 0, none⟩), slotOf V 7, .pointer (some ⟨bW, 0, none⟩), slotOf V 9, .slice sa S sc, .int .i64 E, .pointer (some ⟨bN, 0, none⟩), slotOf V 13, slotOf V 14, slotOf V 15, .pointer (some ⟨nA, 0, none⟩), .pointer (some ⟨nA + 1, 0, none⟩), slotOf V 18, slotOf V 19, slotOf V 20, slotOf V 21, slotOf V 22, slotOf V 23, slotOf V 24, slotOf V 25, slotOf V 26, slotOf V 27, slotOf V 28, slotOf V 29, slotOf V 30, slotOf V 31, slotOf V 32, slotOf V 33, slotOf V 34, slotOf V 35, slotOf V 36, slotOf V 37, slotOf V 38, slotOf V 39, slotOf V 40, slotOf V 41, slotOf V 42, slotOf V 43, slotOf V 44, slotOf V 45, slotOf V 46, slotOf V 47, slotOf V 48, slotOf V 49, slotOf V 50, slotOf V 51, slotOf V 52, slotOf V 53, slotOf V 54, slotOf V 55, slotOf V 56, slotOf V 57, slotOf V 58, slotOf V 59, slotOf V 60, slotOf V 61, slotOf V 62, .func (.func 41) #[] #[.pointer (some ⟨Bt, 0, none⟩), .pointer (some ⟨Bl, 0, none⟩)], .string (mk (spN y.1.1)), entA y.1, slotOf V 66, slotOf V 67, slotOf V 68, slotOf V 69, slotOf V 70, slotOf V 71, slotOf V 72, slotOf V 73, slotOf V 74, slotOf V 75, slotOf V 76, slotOf V 77, slotOf V 78, slotOf V 79, slotOf V 80, slotOf V 81, slotOf V 82, slotOf V 83, slotOf V 84, slotOf V 85, slotOf V 86, slotOf V 87, slotOf V 88, slotOf V 89, slotOf V 90, slotOf V 91, slotOf V 92, slotOf V 93, slotOf V 94, slotOf V 95, slotOf V 96, slotOf V 97, slotOf V 98, slotOf V 99, slotOf V 100, slotOf V 101, slotOf V 102, slotOf V 103, slotOf V 104, slotOf V 105], defers := [] })
            (fun _ _ => fun _ _ _ _ hs _ _ => hs) ?assign ?body ?done ?stop
          case assign =>
            intro l pre y W K hI hK
            refine wpIn_skip (hK _ _ (KeepsFrom.refl _ _) (kpS_r _ _ _) hI ?_)
            first
              | kernel_rfl
              | (simp; done)
          case done =>
            rintro D2 xs W hD2 hxs hi hK2
            have hxs : xs = undL d U := hxs
            subst hxs
            have hi : Two w W3 nA nA (nA + 1) (undL d U).length (min 8 (undL d U).length * U.length) W := hi
            rw [HUU.out] at hi
            exact ⟨Or.inl rfl, D2, rfl, hD2, hK2, hi⟩
          case stop =>
            rintro D2 c' pre W _ _ h _
            exact h.elim
          case body =>
            rintro l pre y a' W hl hrec hi rfl hlt
            obtain ⟨p, Hp⟩ : ∃ p, Hid (pre.length = p) := ⟨_, hid rfl⟩
            obtain ⟨M, HM⟩ : ∃ M, Hid (U.length = M) := ⟨_, hid rfl⟩
            rw [Hp.out, HM.out] at hi
            rw [Hp.out, HM.out] at hlt
            have hMl : M ≤ 1024 := by rw [← HM.out]; exact hUl
            have HI := hid hi
            have HWW := hid (show Boxed W bW 39 (.func (.func 41) #[] #[.pointer (some ⟨Bt, 0, none⟩), .pointer (some ⟨Bl, 0, none⟩)]) from (hi.k.2 _ hbWl (by omega)).trans HWB.out)
            have ca := hi.a.cell
            have fa := hi.a.frozen
            have HRC := hid hrec
            have hw1 : IntKind.i64.wrap ((p : Int) + 1) = ((p + 1 : Nat) : Int) := by rw [IntKind.wrap_i64]; omega
            clear hi hrec
            dsimp only
            by_cases h8 : p + 1 ≤ 8
            · have hi8 : ¬ ((8 : Int) < (p : Int) + 1) := by omega
              have hcl : (W.setCell ⟨nA, 0, none⟩ (.int .i64 ((p : Int) + 1))).cell? ⟨bW, 0, none⟩ = some (.func (.func 41) #[] #[.pointer (some ⟨Bt, 0, none⟩), .pointer (some ⟨Bl, 0, none⟩)]) := (World.cell?_of_block (Below.heap_setCell W ⟨nA, 0, none⟩ _ bW (by show bW ≠ nA; omega))).trans HWW.out.cell
              gi_wp2_with fail
              clear hcl ca fa hi8 hw1
              refine frame_genN (fun V => #[slotOf V 0, slotOf V 1, slotOf V 2, slotOf V 3, slotOf V 4, slotOf V 5, slotOf V 6, slotOf V 7, slotOf V 8, slotOf V 9, slotOf V 10, slotOf V 11, slotOf V 12, slotOf V 13, slotOf V 14, slotOf V 15, slotOf V 16, .pointer (some ⟨nA + 1, 0, none⟩), slotOf V 18, slotOf V 19, slotOf V 20, slotOf V 21, slotOf V 22, slotOf V 23, slotOf V 24, slotOf V 25, slotOf V 26, slotOf V 27, slotOf V 28, slotOf V 29, slotOf V 30, slotOf V 31, slotOf V 32, slotOf V 33, slotOf V 34, slotOf V 35, slotOf V 36, slotOf V 37, slotOf V 38, slotOf V 39, slotOf V 40, slotOf V 41, slotOf V 42, slotOf V 43, slotOf V 44, slotOf V 45, slotOf V 46, slotOf V 47, slotOf V 48, slotOf V 49, slotOf V 50, slotOf V 51, slotOf V 52, slotOf V 53, slotOf V 54, slotOf V 55, slotOf V 56, slotOf V 57, slotOf V 58, slotOf V 59, slotOf V 60, slotOf V 61, slotOf V 62, slotOf V 63, slotOf V 64, slotOf V 65, slotOf V 66, slotOf V 67, slotOf V 68, slotOf V 69, .func (.func 41) #[] #[.pointer (some ⟨Bt, 0, none⟩), .pointer (some ⟨Bl, 0, none⟩)], slotOf V 71, slotOf V 72, slotOf V 73, slotOf V 74, slotOf V 75, slotOf V 76, slotOf V 77, slotOf V 78, slotOf V 79, slotOf V 80, slotOf V 81, slotOf V 82, slotOf V 83, slotOf V 84, slotOf V 85, slotOf V 86, slotOf V 87, slotOf V 88, slotOf V 89, slotOf V 90, slotOf V 91, slotOf V 92, slotOf V 93, slotOf V 94, slotOf V 95, slotOf V 96, slotOf V 97, slotOf V 98, slotOf V 99, slotOf V 100, slotOf V 101, slotOf V 102, slotOf V 103, slotOf V 104, slotOf V 105]) _ (by kernel_rfl) ?_
              intro V
              dsimp only
              have HTB : Hid (Two w W3 nA nA (nA + 1) (p + 1) (min 8 p * M) (W.setCell ⟨nA, 0, none⟩ (.int .i64 ((p : Int) + 1)))) := hid (HI.out.putA hwA (Nat.le_refl _) (by omega) (p + 1))
              have HSZ : Hid ((W.setCell ⟨nA, 0, none⟩ (.int .i64 ((p : Int) + 1))).heap.size = W.heap.size) := hid (World.size_setCell _ _ _)
              have HKF : Hid (KeepsFrom W3.heap.size W (W.setCell ⟨nA, 0, none⟩ (.int .i64 ((p : Int) + 1)))) := hid ((KeepsOthers.setCell W _ _).from _)
              obtain ⟨rc, hrc⟩ := HRC.out
              have HR9 := hid ((KeepsOthers.setCell W ⟨nA, 0, none⟩ (.int .i64 ((p : Int) + 1))).same l _ hrc rfl)
              generalize W.setCell ⟨nA, 0, none⟩ (.int .i64 ((p : Int) + 1)) = Wb at HTB HSZ HKF HR9 ⊢
              have HUB := hid (HU3.out.kept HTB.out.k)
              have hWb : W3.heap.size ≤ Wb.heap.size := HTB.out.k.1
              clear hrc HRC
              refine wpIn_rangeFunc_ownN (l₀ := l) rfl HR9.out (by omega) (gf := 41) (lb := #[.pointer (some ⟨Bt, 0, none⟩), .pointer (some ⟨Bl, 0, none⟩)]) rfl trivial (enters_of Try.func41 (by kernel_rfl) rfl)
                ((und_stops _ (by omega) Bt Bl nA nA U hUl vl f d Wb HUB.out (by omega)).inRound l)
                (fun h k => kpS_t h k) (kpS_b (by omega)) (Below.refl _ _) (fun _ => rfl)
                (fun pre2 X => Two w W3 nA nA (nA + 1) (p + 1) (min 8 p * M + pre2.length) X ∧ KeepsFrom W3.heap.size W X)
                (fun _ _ _ => False)
                (OwnFrom.and (two_own (α := List MEnt) (w4 := W3) (n0 := nA) (ba := nA) (bp := nA + 1) (B := Wb.heap.size) (by omega) (by omega) (by omega) (by omega) hwA (fun _ => p + 1) (fun pre2 => min 8 p * M + pre2.length)) (ownFrom_keepsFrom (Nat.le_of_eq HSZ.out.symm)))
                (fun _ _ _ _ _ hs _ _ => hs)
                ⟨HTB.out, HKF.out⟩
                (fun x a' _ => a' = { tmps := #[slotOf V 0, slotOf V 1, slotOf V 2, slotOf V 3, slotOf V 4, slotOf V 5, slotOf V 6, slotOf V 7, slotOf V 8, slotOf V 9, slotOf V 10, slotOf V 11, slotOf V 12, slotOf V 13, slotOf V 14, slotOf V 15, slotOf V 16, .pointer (some ⟨nA + 1, 0, none⟩), slotOf V 18, slotOf V 19, slotOf V 20, slotOf V 21, slotOf V 22, slotOf V 23, slotOf V 24, slotOf V 25, slotOf V 26, slotOf V 27, slotOf V 28, slotOf V 29, slotOf V 30, slotOf V 31, slotOf V 32, slotOf V 33, slotOf V 34, slotOf V 35, slotOf V 36, slotOf V 37, slotOf V 38, slotOf V 39, slotOf V 40, slotOf V 41, slotOf V 42, slotOf V 43, slotOf V 44, slotOf V 45, slotOf V 46, slotOf V 47, slotOf V 48, slotOf V 49, slotOf V 50, slotOf V 51, slotOf V 52, slotOf V 53, slotOf V 54, slotOf V 55, slotOf V 56, slotOf V 57, slotOf V 58, slotOf V 59, slotOf V 60, slotOf V 61, slotOf V 62, slotOf V 63, slotOf V 64, slotOf V 65, slotOf V 66, slotOf V 67, slotOf V 68, slotOf V 69, .func (.func 41) #[] #[.pointer (some ⟨Bt, 0, none⟩), .pointer (some ⟨Bl, 0, none⟩)], .string (mk (spN x.1.1)), entA x.1, slotOf V 73, slotOf V 74, slotOf V 75, slotOf V 76, slotOf V 77, slotOf V 78, slotOf V 79, slotOf V 80, slotOf V 81, slotOf V 82, slotOf V 83, slotOf V 84, slotOf V 85, slotOf V 86, slotOf V 87, slotOf V 88, slotOf V 89, slotOf V 90, slotOf V 91, slotOf V 92, slotOf V 93, slotOf V 94, slotOf V 95, slotOf V 96, slotOf V 97, slotOf V 98, slotOf V 99, slotOf V 100, slotOf V 101, slotOf V 102, slotOf V 103, slotOf V 104, slotOf V 105], defers := [] })
                (fun _ _ => fun _ _ _ _ hs _ _ => hs) ?assign2 ?body2 ?done2 ?stop2
              case assign2 =>
                intro l2 pre2 x X K hI hK
                refine wpIn_skip (hK _ _ (KeepsFrom.refl _ _) (kpS_r _ _ _) hI ?_)
                first
                  | kernel_rfl
                  | (simp; done)
              case stop2 => exact fun _ _ _ _ hh => hh.elim
              case done2 =>
                rintro xs X hxs ⟨hT, hKF⟩
                have hxs : xs = undL d U := hxs
                subst hxs
                have hT : Two w W3 nA nA (nA + 1) (p + 1) (min 8 p * M + (undL d U).length) X := hT
                rw [HUU.out, HM.out] at hT
                refine And.intro hKF (And.intro ⟨hKF.size, fun b hb hne => (hT.k.2 b hb hne).trans (HI.out.k.2 b hb hne).symm⟩ ?_)
                show Two w W3 nA nA (nA + 1) (pre ++ [y]).length (min 8 (pre ++ [y]).length * U.length) X
                rw [List.length_append, List.length_singleton, Hp.out, HM.out, show min 8 (p + 1) * M = min 8 p * M + M by rw [show min 8 (p + 1) = min 8 p + 1 by omega, Nat.succ_mul]]
                exact hT
              case body2 =>
                rintro l2 pre2 x a' X hl2 hrec2 ⟨hT, hKF⟩ rfl hlt2
                rw [HM.out] at hlt2
                have hV : min 8 p * M + pre2.length ≤ 100000 := by
                  have := Nat.mul_le_mul_right M (Nat.min_le_left 8 p)
                  omega
                obtain ⟨v9, HV9⟩ : ∃ v9, Hid (min 8 p * M + pre2.length = v9) := ⟨_, hid rfl⟩
                rw [HV9.out] at hV hT
                have HT9 := hid hT
                have HKF9 := hid hKF
                have cp := hT.p.cell
                have fp := hT.p.frozen
                have hw1 : IntKind.i64.wrap ((v9 : Int) + 1) = ((v9 + 1 : Nat) : Int) := by rw [IntKind.wrap_i64]; omega
                clear hT hKF hrec2 hl2
                dsimp only
                gi_wp2_with fail
                refine ⟨(KeepsOthers.setCell X _ _).from _, ⟨by rw [World.size_setCell]; exact Nat.le_refl _, fun b hb _ => Below.heap_setCell X ⟨nA + 1, 0, none⟩ _ b (by show b ≠ nA + 1; omega)⟩, ?_, HKF9.out.trans ((KeepsOthers.setCell X _ _).from _)⟩
                show Two w W3 nA nA (nA + 1) (p + 1) (min 8 p * M + (pre2 ++ [x]).length) _
                rw [List.length_append, List.length_singleton, ← Nat.add_assoc, HV9.out]
                exact HT9.out.putP hwA (by omega) (by omega) (v9 + 1)
            · have hi8 : (8 : Int) < (p : Int) + 1 := by omega
              gi_wp2_with fail
              refine ⟨(KeepsOthers.setCell W _ _).from _, ⟨by rw [World.size_setCell]; exact Nat.le_refl _, fun b hb _ => Below.heap_setCell W ⟨nA, 0, none⟩ _ b (by show b ≠ nA; omega)⟩, ?_⟩
              show Two w W3 nA nA (nA + 1) (pre ++ [y]).length (min 8 (pre ++ [y]).length * U.length) _
              rw [List.length_append, List.length_singleton, Hp.out, HM.out, show min 8 (p + 1) = min 8 p by omega]
              exact HI.out.putA hwA (Nat.le_refl _) (by omega) (p + 1)
        case rest2 =>
          rintro D2 W4 ⟨hD2, hK2, hT⟩
          have HT4 := hid hT
          have HKD4 := hid ((hT.k.2 D HDN.out (by have := HDN.out; omega)).trans HKD3.out)
          have HK2 := hid hK2
          have HDL2 : Hid (D < D2 ∧ w.heap.size ≤ D) := hid (by have := HDN.out; have := HDL.out; have := HS8.out; omega)
          have HR4 := hid (show Boxed W4 (w.heap.size + 1 + 1) 4 (.bool false) from (hT.k.2 _ (by omega) (by omega)).trans HR3.out)
          have HM4 := hid (show Boxed W4 (w.heap.size + 1) 3 (.int .i64 m) from (hT.k.2 _ (by omega) (by omega)).trans HM3.out)
          have HN4 := hid (show Boxed W4 bN 3 (.int .i64 n) from (hT.k.2 _ hbNl (by omega)).trans HN3.out)
          have ca := hT.a.cell
          have cp := hT.p.cell
          have cr := HR4.out.cell
          have fr := HR4.out.frozen
          have cm := HM4.out.cell
          have cn := HN4.out.cell
          have HB4 := hid (hT.b.setCell (p := ⟨w.heap.size + 1 + 1, 0, none⟩) (by show w.heap.size ≤ w.heap.size + 1 + 1; omega) (.bool true))
          have HX4 := hid (HR4.out.set (.bool true))
          have HKA := hid ((KeepsOthers.setCell W4 ⟨w.heap.size + 1 + 1, 0, none⟩ (.bool true)).same D _ HKD4.out rfl)
          have HKB := hid ((KeepsOthers.setCell W4 ⟨w.heap.size + 1 + 1, 0, none⟩ (.bool true)).same D2 _ HK2.out rfl)
          clear hT hK2 hD2 HU3 HTW3 HR3 HM3 HWB HN3 HKD3
          obtain ⟨M, HM⟩ : ∃ M, Hid (U.length = M) := ⟨_, hid rfl⟩
          rw [HM.out] at ca cp
          have hMl : M ≤ 1024 := by rw [← HM.out]; exact hUl
          have hn1 := HN12.out.1
          have hn2 := HN12.out.2
          have hES := HES.out
          rw [HM.out] at hn1 hn2 hES
          clear HN12 HES
          dsimp only
          rcases hES with ⟨rfl, rfl⟩ | ⟨hE, rfl⟩
          · rcases Nat.lt_or_ge S 8 with h8 | h8
            · have hi8 : ¬ ((8 : Int) ≤ (S : Int)) := by omega
              have hmm : ((min 8 S * S : Nat) : Int) = (S : Int) * (S : Int) := by rw [Nat.min_eq_right (by omega), Int.natCast_mul]
              rw [hmm] at cp
              have hq := Nat.mul_le_mul (show S ≤ 7 by omega) (show S ≤ 7 by omega)
              have hq1 : (S : Int) * (S : Int) ≤ 49 := by rw [← Int.natCast_mul]; omega
              have hq0 : 0 ≤ (S : Int) * (S : Int) := by rw [← Int.natCast_mul]; omega
              have hmin : min 8 (S : Int) = (S : Int) := by omega
              have hwm : IntKind.i64.wrap ((S : Int) * (S : Int)) = (S : Int) * (S : Int) := by rw [IntKind.wrap_i64]; omega
              clear hq hmm
              by_cases hnM : n = S
              · subst hnM
                go_wp2
                refine leaves_marks (B := w.heap.size) (.bool true) [{ target := .collected D2, args := #[] }, { target := .collected D, args := #[] }] (W4.setCell ⟨w.heap.size + 1 + 1, 0, none⟩ (.bool true)).heap.size _ ⟨D2, rfl, by have := HDL2.out; omega, hp_lt HKB.out, HKB.out, D, rfl, HDL2.out.2, HDL2.out.1, HKA.out, trivial⟩ HB4.out.size (fun w' hb' hk => ?_)
                have hbb := (hk (w.heap.size + 1 + 1) (fun D _ hD e => by subst e; have h9 := HX4.out; unfold Boxed at h9; rw [h9] at hD; cases hD)).trans HX4.out
                have hc : w'.cell? ⟨w.heap.size + 1 + 1, 0, none⟩ = some (.bool true) := (cell_of_row _ _ _ _ _ _ hbb).trans rfl
                refine ⟨?_, rfl, HB4.out.trans hb'⟩
                simp [results, Try.f4, go_sem, hc]
              · have hnm : (n : Int) = m := hn2.resolve_left hnM
                have hnM2 : ¬ (n : Int) = (S : Int) := by omega
                have hnM3 : ((n : Int) == (S : Int)) = false := by simpa using hnM2
                subst hnm
                go_wp2
                refine leaves_marks (B := w.heap.size) (.bool true) [{ target := .collected D2, args := #[] }, { target := .collected D, args := #[] }] (W4.setCell ⟨w.heap.size + 1 + 1, 0, none⟩ (.bool true)).heap.size _ ⟨D2, rfl, by have := HDL2.out; omega, hp_lt HKB.out, HKB.out, D, rfl, HDL2.out.2, HDL2.out.1, HKA.out, trivial⟩ HB4.out.size (fun w' hb' hk => ?_)
                have hbb := (hk (w.heap.size + 1 + 1) (fun D _ hD e => by subst e; have h9 := HX4.out; unfold Boxed at h9; rw [h9] at hD; cases hD)).trans HX4.out
                have hc : w'.cell? ⟨w.heap.size + 1 + 1, 0, none⟩ = some (.bool true) := (cell_of_row _ _ _ _ _ _ hbb).trans rfl
                refine ⟨?_, rfl, HB4.out.trans hb'⟩
                simp [results, Try.f4, go_sem, hc]
            · have hi8 : (8 : Int) ≤ (S : Int) := by omega
              have hmm : ((min 8 S * S : Nat) : Int) = 8 * (S : Int) := by rw [Nat.min_eq_left h8, Int.natCast_mul]; rfl
              rw [hmm] at cp
              have hmin : min 8 (S : Int) = 8 := by omega
              have hwm : IntKind.i64.wrap (8 * (S : Int)) = 8 * (S : Int) := by rw [IntKind.wrap_i64]; omega
              clear hmm
              by_cases hnM : n = S
              · subst hnM
                go_wp2
                refine leaves_marks (B := w.heap.size) (.bool true) [{ target := .collected D2, args := #[] }, { target := .collected D, args := #[] }] (W4.setCell ⟨w.heap.size + 1 + 1, 0, none⟩ (.bool true)).heap.size _ ⟨D2, rfl, by have := HDL2.out; omega, hp_lt HKB.out, HKB.out, D, rfl, HDL2.out.2, HDL2.out.1, HKA.out, trivial⟩ HB4.out.size (fun w' hb' hk => ?_)
                have hbb := (hk (w.heap.size + 1 + 1) (fun D _ hD e => by subst e; have h9 := HX4.out; unfold Boxed at h9; rw [h9] at hD; cases hD)).trans HX4.out
                have hc : w'.cell? ⟨w.heap.size + 1 + 1, 0, none⟩ = some (.bool true) := (cell_of_row _ _ _ _ _ _ hbb).trans rfl
                refine ⟨?_, rfl, HB4.out.trans hb'⟩
                simp [results, Try.f4, go_sem, hc]
              · have hnm : (n : Int) = m := hn2.resolve_left hnM
                have hnM2 : ¬ (n : Int) = (S : Int) := by omega
                have hnM3 : ((n : Int) == (S : Int)) = false := by simpa using hnM2
                subst hnm
                go_wp2
                refine leaves_marks (B := w.heap.size) (.bool true) [{ target := .collected D2, args := #[] }, { target := .collected D, args := #[] }] (W4.setCell ⟨w.heap.size + 1 + 1, 0, none⟩ (.bool true)).heap.size _ ⟨D2, rfl, by have := HDL2.out; omega, hp_lt HKB.out, HKB.out, D, rfl, HDL2.out.2, HDL2.out.1, HKA.out, trivial⟩ HB4.out.size (fun w' hb' hk => ?_)
                have hbb := (hk (w.heap.size + 1 + 1) (fun D _ hD e => by subst e; have h9 := HX4.out; unfold Boxed at h9; rw [h9] at hD; cases hD)).trans HX4.out
                have hc : w'.cell? ⟨w.heap.size + 1 + 1, 0, none⟩ = some (.bool true) := (cell_of_row _ _ _ _ _ _ hbb).trans rfl
                refine ⟨?_, rfl, HB4.out.trans hb'⟩
                simp [results, Try.f4, go_sem, hc]
          · have hE2 : (E == 0) = false := by simpa using hE
            have hE3 : (E != 0) = true := by simpa using hE
            obtain rfl : n = 0 := by omega
            go_wp2
            refine leaves_marks (B := w.heap.size) (.bool true) [{ target := .collected D2, args := #[] }, { target := .collected D, args := #[] }] (W4.setCell ⟨w.heap.size + 1 + 1, 0, none⟩ (.bool true)).heap.size _ ⟨D2, rfl, by have := HDL2.out; omega, hp_lt HKB.out, HKB.out, D, rfl, HDL2.out.2, HDL2.out.1, HKA.out, trivial⟩ HB4.out.size (fun w' hb' hk => ?_)
            have hbb := (hk (w.heap.size + 1 + 1) (fun D _ hD e => by subst e; have h9 := HX4.out; unfold Boxed at h9; rw [h9] at hD; cases hD)).trans HX4.out
            have hc : w'.cell? ⟨w.heap.size + 1 + 1, 0, none⟩ = some (.bool true) := (cell_of_row _ _ _ _ _ _ hbb).trans rfl
            refine ⟨?_, rfl, HB4.out.trans hb'⟩
            simp [results, Try.f4, go_sem, hc]

end Go.Proofs.Yteijkbanlpodpaa
