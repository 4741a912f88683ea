/- Contracts and pure facts that the proof needs, joined. -/
import Derived.Test.YtnbbebapfiocpabG2

/- LruNil (written by lnil2.py). -/
namespace Go.Proofs.Ytnbbebapfiocpab
open Go.RowKit Go.Shelf

attribute [local go_sem] Oper.semAt_some

theorem bd_rowN {P : Program} {w : World} {ops : Array Oper} {rest : List Oper} {o : Oper} {a : Act} {Q : Exit → Act → World → Prop} (hgd : o.guard = none) (t : TypeId) (parts : Array (Nat × Operand)) (ho : o.op = .build t parts)
    (vs : List (Nat × Value)) (hvs : (parts.map fun (i, x) => (i, a.eval x)).toList = vs) (cs : Array Value) (hb : P.built t vs = some cs)
    (h : wpList P ops Q rest (a.put o.dst (.agg cs)) w) : wpList P ops Q (o :: rest) a w :=
  wpList_build hgd t parts ho (by rw [hvs, hb]; rfl) (by rw [hvs, hb]; exact h)
theorem built_uN : Try.prog.built 32 [] = some #[.int .i64 0, .int .i64 0, .int .i64 0] := by kernel_rfl
theorem built_mN : Try.prog.built 56 [] = some #[.int .i64 0, .map none, .pointer none, .int .i64 0, .int .i64 0, .int .i64 0] := by kernel_rfl

def slotOf (U : Array Value) (k : Nat) : Value := U.getD k undef

/-- how the frame stands ahead of a round of the outer loop -/
def NilO (ao : Option Addr) (n cv r bs : Nat) (w3 : World) (a : Act) (wr : World) : Prop :=
  ∃ (oi : Nat) (ds : List Deferred) (U : Array Value), a = { tmps := #[.slice ao n cv, slotOf U 1, .pointer (some ⟨r, 0, none⟩), slotOf U 3, slotOf U 4, slotOf U 5, slotOf U 6, slotOf U 7, slotOf U 8, slotOf U 9, slotOf U 10, slotOf U 11, slotOf U 12, slotOf U 13, slotOf U 14, slotOf U 15, slotOf U 16, slotOf U 17, slotOf U 18, .slice (some ⟨bs, 0, none⟩) 2 2, .int .i64 2, .int .i64 (oi : Int), slotOf U 22, slotOf U 23, slotOf U 24, slotOf U 25, slotOf U 26, slotOf U 27, slotOf U 28, slotOf U 29, slotOf U 30, slotOf U 31, slotOf U 32, slotOf U 33, slotOf U 34, slotOf U 35, slotOf U 36, slotOf U 37, slotOf U 38, slotOf U 39, slotOf U 40, slotOf U 41, slotOf U 42, slotOf U 43, slotOf U 44, slotOf U 45, slotOf U 46, slotOf U 47, slotOf U 48, slotOf U 49, slotOf U 50, slotOf U 51, slotOf U 52, slotOf U 53, slotOf U 54, slotOf U 55, slotOf U 56, slotOf U 57, slotOf U 58, slotOf U 59, slotOf U 60, slotOf U 61, slotOf U 62, slotOf U 63, slotOf U 64, slotOf U 65, slotOf U 66, slotOf U 67, slotOf U 68, slotOf U 69, slotOf U 70, slotOf U 71, slotOf U 72, slotOf U 73, slotOf U 74, slotOf U 75, slotOf U 76, slotOf U 77, slotOf U 78, slotOf U 79, slotOf U 80, slotOf U 81, slotOf U 82, slotOf U 83, slotOf U 84, slotOf U 85, slotOf U 86, slotOf U 87, slotOf U 88, slotOf U 89, slotOf U 90, slotOf U 91, slotOf U 92, slotOf U 93, slotOf U 94, slotOf U 95, slotOf U 96, slotOf U 97, slotOf U 98, slotOf U 99, slotOf U 100, slotOf U 101, slotOf U 102, slotOf U 103, slotOf U 104, slotOf U 105, slotOf U 106, slotOf U 107, slotOf U 108, slotOf U 109, slotOf U 110, slotOf U 111, slotOf U 112, slotOf U 113, slotOf U 114, slotOf U 115, slotOf U 116, slotOf U 117, slotOf U 118, slotOf U 119, slotOf U 120], defers := ds } ∧ oi ≤ 2 ∧ Below w3.heap.size w3 wr ∧ Marks w3.heap.size wr ds wr.heap.size
/-- ahead of a round of the inner one -/
def NilJ (ao : Option Addr) (n cv r bs oi : Nat) (vm : Value) (w3 w4 : World) (a : Act) (wr : World) : Prop :=
  ∃ (j : Nat) (ds : List Deferred) (U : Array Value), a = { tmps := #[.slice ao n cv, slotOf U 1, .pointer (some ⟨r, 0, none⟩), slotOf U 3, vm, slotOf U 5, slotOf U 6, slotOf U 7, slotOf U 8, slotOf U 9, slotOf U 10, slotOf U 11, slotOf U 12, slotOf U 13, slotOf U 14, slotOf U 15, slotOf U 16, slotOf U 17, slotOf U 18, .slice (some ⟨bs, 0, none⟩) 2 2, .int .i64 2, .int .i64 (oi : Int), slotOf U 22, slotOf U 23, slotOf U 24, .slice ao n cv, .int .i64 n, .int .i64 (j : Int), slotOf U 28, slotOf U 29, slotOf U 30, slotOf U 31, slotOf U 32, slotOf U 33, slotOf U 34, slotOf U 35, slotOf U 36, slotOf U 37, slotOf U 38, slotOf U 39, slotOf U 40, slotOf U 41, slotOf U 42, slotOf U 43, slotOf U 44, slotOf U 45, slotOf U 46, slotOf U 47, slotOf U 48, slotOf U 49, slotOf U 50, slotOf U 51, slotOf U 52, slotOf U 53, slotOf U 54, slotOf U 55, slotOf U 56, slotOf U 57, slotOf U 58, slotOf U 59, slotOf U 60, slotOf U 61, slotOf U 62, slotOf U 63, slotOf U 64, slotOf U 65, slotOf U 66, slotOf U 67, slotOf U 68, slotOf U 69, slotOf U 70, slotOf U 71, slotOf U 72, slotOf U 73, slotOf U 74, slotOf U 75, slotOf U 76, slotOf U 77, slotOf U 78, slotOf U 79, slotOf U 80, slotOf U 81, slotOf U 82, slotOf U 83, slotOf U 84, slotOf U 85, slotOf U 86, slotOf U 87, slotOf U 88, slotOf U 89, slotOf U 90, slotOf U 91, slotOf U 92, slotOf U 93, slotOf U 94, slotOf U 95, slotOf U 96, slotOf U 97, slotOf U 98, slotOf U 99, slotOf U 100, slotOf U 101, slotOf U 102, slotOf U 103, slotOf U 104, slotOf U 105, slotOf U 106, slotOf U 107, slotOf U 108, slotOf U 109, slotOf U 110, slotOf U 111, slotOf U 112, slotOf U 113, slotOf U 114, slotOf U 115, slotOf U 116, slotOf U 117, slotOf U 118, slotOf U 119, slotOf U 120], defers := ds } ∧ j ≤ n ∧ Below w3.heap.size w3 wr ∧ Marks w3.heap.size wr ds wr.heap.size ∧ Below w4.heap.size w4 wr

theorem nilO_mk {ao : Option Addr} {n cv r bs : Nat} {w3 wr : World} (oi : Nat) (ds : List Deferred) (U : Array Value) (h : U = #[.slice ao n cv, slotOf U 1, .pointer (some ⟨r, 0, none⟩), slotOf U 3, slotOf U 4, slotOf U 5, slotOf U 6, slotOf U 7, slotOf U 8, slotOf U 9, slotOf U 10, slotOf U 11, slotOf U 12, slotOf U 13, slotOf U 14, slotOf U 15, slotOf U 16, slotOf U 17, slotOf U 18, .slice (some ⟨bs, 0, none⟩) 2 2, .int .i64 2, .int .i64 (oi : Int), slotOf U 22, slotOf U 23, slotOf U 24, slotOf U 25, slotOf U 26, slotOf U 27, slotOf U 28, slotOf U 29, slotOf U 30, slotOf U 31, slotOf U 32, slotOf U 33, slotOf U 34, slotOf U 35, slotOf U 36, slotOf U 37, slotOf U 38, slotOf U 39, slotOf U 40, slotOf U 41, slotOf U 42, slotOf U 43, slotOf U 44, slotOf U 45, slotOf U 46, slotOf U 47, slotOf U 48, slotOf U 49, slotOf U 50, slotOf U 51, slotOf U 52, slotOf U 53, slotOf U 54, slotOf U 55, slotOf U 56, slotOf U 57, slotOf U 58, slotOf U 59, slotOf U 60, slotOf U 61, slotOf U 62, slotOf U 63, slotOf U 64, slotOf U 65, slotOf U 66, slotOf U 67, slotOf U 68, slotOf U 69, slotOf U 70, slotOf U 71, slotOf U 72, slotOf U 73, slotOf U 74, slotOf U 75, slotOf U 76, slotOf U 77, slotOf U 78, slotOf U 79, slotOf U 80, slotOf U 81, slotOf U 82, slotOf U 83, slotOf U 84, slotOf U 85, slotOf U 86, slotOf U 87, slotOf U 88, slotOf U 89, slotOf U 90, slotOf U 91, slotOf U 92, slotOf U 93, slotOf U 94, slotOf U 95, slotOf U 96, slotOf U 97, slotOf U 98, slotOf U 99, slotOf U 100, slotOf U 101, slotOf U 102, slotOf U 103, slotOf U 104, slotOf U 105, slotOf U 106, slotOf U 107, slotOf U 108, slotOf U 109, slotOf U 110, slotOf U 111, slotOf U 112, slotOf U 113, slotOf U 114, slotOf U 115, slotOf U 116, slotOf U 117, slotOf U 118, slotOf U 119, slotOf U 120]) (h1 : oi ≤ 2) (h2 : Below w3.heap.size w3 wr) (h3 : Marks w3.heap.size wr ds wr.heap.size) : NilO ao n cv r bs w3 { tmps := U, defers := ds } wr :=
  ⟨oi, ds, U, congrArg (fun T => ({ tmps := T, defers := ds } : Act)) h, h1, h2, h3⟩
theorem nilJ_mk {ao : Option Addr} {n cv r bs oi : Nat} {vm : Value} {w3 w4 wr : World} (j : Nat) (ds : List Deferred) (U : Array Value) (h : U = #[.slice ao n cv, slotOf U 1, .pointer (some ⟨r, 0, none⟩), slotOf U 3, vm, slotOf U 5, slotOf U 6, slotOf U 7, slotOf U 8, slotOf U 9, slotOf U 10, slotOf U 11, slotOf U 12, slotOf U 13, slotOf U 14, slotOf U 15, slotOf U 16, slotOf U 17, slotOf U 18, .slice (some ⟨bs, 0, none⟩) 2 2, .int .i64 2, .int .i64 (oi : Int), slotOf U 22, slotOf U 23, slotOf U 24, .slice ao n cv, .int .i64 n, .int .i64 (j : Int), slotOf U 28, slotOf U 29, slotOf U 30, slotOf U 31, slotOf U 32, slotOf U 33, slotOf U 34, slotOf U 35, slotOf U 36, slotOf U 37, slotOf U 38, slotOf U 39, slotOf U 40, slotOf U 41, slotOf U 42, slotOf U 43, slotOf U 44, slotOf U 45, slotOf U 46, slotOf U 47, slotOf U 48, slotOf U 49, slotOf U 50, slotOf U 51, slotOf U 52, slotOf U 53, slotOf U 54, slotOf U 55, slotOf U 56, slotOf U 57, slotOf U 58, slotOf U 59, slotOf U 60, slotOf U 61, slotOf U 62, slotOf U 63, slotOf U 64, slotOf U 65, slotOf U 66, slotOf U 67, slotOf U 68, slotOf U 69, slotOf U 70, slotOf U 71, slotOf U 72, slotOf U 73, slotOf U 74, slotOf U 75, slotOf U 76, slotOf U 77, slotOf U 78, slotOf U 79, slotOf U 80, slotOf U 81, slotOf U 82, slotOf U 83, slotOf U 84, slotOf U 85, slotOf U 86, slotOf U 87, slotOf U 88, slotOf U 89, slotOf U 90, slotOf U 91, slotOf U 92, slotOf U 93, slotOf U 94, slotOf U 95, slotOf U 96, slotOf U 97, slotOf U 98, slotOf U 99, slotOf U 100, slotOf U 101, slotOf U 102, slotOf U 103, slotOf U 104, slotOf U 105, slotOf U 106, slotOf U 107, slotOf U 108, slotOf U 109, slotOf U 110, slotOf U 111, slotOf U 112, slotOf U 113, slotOf U 114, slotOf U 115, slotOf U 116, slotOf U 117, slotOf U 118, slotOf U 119, slotOf U 120]) (h1 : j ≤ n) (h2 : Below w3.heap.size w3 wr) (h3 : Marks w3.heap.size wr ds wr.heap.size) (h4 : Below w4.heap.size w4 wr) : NilJ ao n cv r bs oi vm w3 w4 { tmps := U, defers := ds } wr :=
  ⟨j, ds, U, congrArg (fun T => ({ tmps := T, defers := ds } : Act)) h, h1, h2, h3, h4⟩

theorem range_none {n : Nat} {P : Program} {g : Operand} {ps : Array Tmp} {body : Code} {Q : Exit → Act → World → Prop} {a : Act} {w : World} (h1 : 2 ≤ n) {gf : Nat} (hg : a.eval g = .func (.func gf) #[] #[])
    (eg : ∀ args w, (callFunc gf args).run P w = .ok (.enter gf args) w) (hseq : SeqStopsK Fence.wide (n - 1) P gf #[] (fun x : Int × Int => #[.int .i64 x.1, .int .i64 x.2]) (fun _ _ => True) (fun ys => ys = []) (fun _ => False) 0 w) (hps : ps.size = 2)
    (hdone : ∀ (D : Nat) (W : World), w.heap.size ≤ D → Below w.heap.size w W → W.heap[D]? = some (.deferred (some [])) → Q .normal { a with defers := { target := .collected D, args := #[] } :: a.defers } W) :
    (Code.rangeFunc g ps .skip body).wpIn Fence.wide n P Q a w :=
  wpIn_rangeFunc_ownG rfl (by omega) (gf := gf) (lb := #[]) hg trivial eg hseq (fun _ _ => trivial) (fun _ _ _ _ _ _ _ _ => trivial) (Below.refl _ _) (fun _ => by rw [hps]; rfl)
    (fun _ W => Below w.heap.size w W) (fun _ _ _ => False) (ownFrom_below (Nat.le_refl _) (Nat.le_refl _)) (fun _ _ _ _ _ hs _ _ => hs) (Below.refl _ _)
    (fun x => { tmps := (ps.zip #[.int .i64 x.1, .int .i64 x.2]).foldl (fun t (p, v) => t.setIfInBounds p v) a.tmps, defers := [] })
    (fun l x W K hK => wpIn_skip hK) (fun _ pre _ _ _ h => absurd h (by omega))
    (fun D xs W hD _ hb hK => hdone D W hD hb hK) (fun _ _ _ _ _ h _ _ => h.elim)

set_option maxRecDepth 100000 in
set_option maxHeartbeats 8000000 in
theorem lawNil_any (w : World) (v : Value) (n : Nat) (hv : Acts w v n) :
    Calls Try.prog 4 #[v] w fun e w' => e = .returned (.bool true) ∧ Below w.heap.size w w' := by
  have hn := hv.len
  obtain ⟨ao, cv, rfl⟩ := hv.shape
  have HV := hid hv
  clear hv
  refine (callsIn_wide (n := 9)).1 ?_
  refine callsIn_of_wp_marks Try.func4 rfl trivial ?_ rfl
  simp only [Try.ntmps4, List.size_toArray, List.length_cons, List.length_nil, Nat.reduceAdd, Nat.reduceSub, Array.replicate_succ, Array.replicate_zero, List.push_toArray, List.append_toArray, List.nil_append, List.cons_append]
  refine wpIn_wide.2 ?_
  go_wp2_with fail
  refine (alive_any _).mono ?_
  rintro e w2 ⟨rfl, hb2⟩
  have hr0 := hp_new w (.cells #[.bool false] 4)
  have HB2 := hid ((below_walk w (.cells #[.bool false] 4)).trans (hb2.mono (by simp)))
  have HR2 := hid ((hb2.block _ (hp_lt hr0)).trans hr0)
  obtain ⟨r, HR⟩ : ∃ r, Hid (w.heap.size = r) := ⟨_, hid rfl⟩
  rw [HR.out] at HR2 ⊢
  clear hb2 hr0
  go_wp2_with (first
    | (refine bd_rowN (by rfl) 56 _ (by rfl) [] (by simp) _ built_mN ?_)
    | (refine bx_row (by rfl) 56 _ (by rfl) _ (by rfl) ?_))
  have HM3 := hid ((hp_old (w2.alloc (.cells #[.int .i64 0, .map none, .pointer none, .int .i64 0, .int .i64 0, .int .i64 0] 56)) (.cells #[.pointer none, .pointer (some ⟨w2.heap.size, 0, none⟩)] 26) w2.heap.size (by simp)).trans (hp_new w2 (.cells #[.int .i64 0, .map none, .pointer none, .int .i64 0, .int .i64 0, .int .i64 0] 56)))
  have hs3 := hp_new (w2.alloc (.cells #[.int .i64 0, .map none, .pointer none, .int .i64 0, .int .i64 0, .int .i64 0] 56)) (.cells #[.pointer none, .pointer (some ⟨w2.heap.size, 0, none⟩)] 26)
  rw [World.size_alloc] at hs3
  have HS3 := hid hs3
  have HB3 := hid (((below_walk w2 (.cells #[.int .i64 0, .map none, .pointer none, .int .i64 0, .int .i64 0, .int .i64 0] 56)).alloc (by simp) (.cells #[.pointer none, .pointer (some ⟨w2.heap.size, 0, none⟩)] 26)))
  generalize (w2.alloc (.cells #[.int .i64 0, .map none, .pointer none, .int .i64 0, .int .i64 0, .int .i64 0] 56)).alloc (.cells #[.pointer none, .pointer (some ⟨w2.heap.size, 0, none⟩)] 26) = w3 at HM3 HS3 HB3 ⊢
  have HBB := hid (HB2.out.trans (HB3.out.mono HB2.out.size))
  have HR3 := hid ((HB3.out.block _ (hp_lt HR2.out)).trans HR2.out)
  obtain ⟨bm, HBM⟩ : ∃ bm, Hid (w2.heap.size = bm) := ⟨_, hid rfl⟩
  rw [HBM.out] at HM3 HS3 ⊢
  obtain ⟨bs, HBS⟩ : ∃ bs, Hid (bm + 1 = bs) := ⟨_, hid rfl⟩
  rw [HBS.out] at HS3 ⊢
  have HVS : Hid (∀ W oi, Below w3.heap.size w3 W → oi < 2 → ∃ vm, W.cell? ⟨bs, oi, none⟩ = some vm ∧ Nm W vm) := hid (fun W oi hW ho => by
    have e : ∀ o, W.cell? ⟨bs, o, none⟩ = w3.cell? ⟨bs, o, none⟩ := fun o => hW.cell (p := ⟨bs, o, none⟩) (hp_lt HS3.out)
    match oi, ho with
    | 0, _ => exact ⟨_, (e 0).trans ((cell_of_row _ _ _ _ _ _ HS3.out).trans rfl), Or.inl rfl⟩
    | 1, _ => exact ⟨_, (e 1).trans ((cell_of_row _ _ _ _ _ _ HS3.out).trans rfl), Or.inr ⟨bm, rfl, Nat.lt_of_lt_of_le (hp_lt HM3.out) hW.size, (hW.cell (p := ⟨bm, 0, none⟩) (hp_lt HM3.out)).trans ((cell_of_row _ _ _ _ _ _ HM3.out).trans rfl)⟩⟩)
  clear hs3 HS3 HM3 HB2 HR2 HB3
  refine wp_loop (NilO ao n cv r bs w3) (fun a _ => 2 - (intOf (a.tmps.getD 21 undef)).toNat) ?start ?round
  case start => exact nilO_mk 0 [] _ (by kernel_rfl) (by omega) (Below.refl _ _) trivial
  case round =>
    rintro a wr ⟨oi, ds, U, rfl, ho, hb, hm⟩
    have HB := hid hb
    have HMK := hid hm
    clear hb hm
    by_cases hlt : oi < 2
    · have hlti : (oi : Int) < 2 := by omega
      obtain ⟨vm, hcm, hnm⟩ := HVS.out wr oi HB.out hlt
      have HNM : Hid (∀ W, Below wr.heap.size wr W → Nm W vm) := hid (fun W hW => hnm.below hW)
      clear hnm
      go_wp2
      have HBW := hid HB.out.size
      refine wp_loop (NilJ ao n cv r bs oi vm w3 wr) (fun a _ => n - (intOf (a.tmps.getD 27 undef)).toNat) ?start2 ?round2
      case start2 => exact nilJ_mk 0 ds _ (by kernel_rfl) (by omega) HB.out HMK.out (Below.refl _ _)
      case round2 =>
        clear HB HMK hcm
        rintro a wx ⟨j, ds, U, rfl, hj, hb, hm, hbx⟩
        have HB := hid hb
        have HMK := hid hm
        have HNX := hid (HNM.out wx hbx)
        have HBX := hid hbx
        clear hb hm hbx
        by_cases hlt : j < n
        · have hltj : (j : Int) < (n : Int) := by omega
          obtain ⟨gr, o, hao, d, k, x, vp, ks, hrg, hps, hk1, hk2, hv1⟩ := HV.out.at j hlt
          subst hao
          have HRG := hid (hrg _ (HBB.out.trans (HB.out.mono HBB.out.size)))
          obtain ⟨z, s⟩ := zero_of_info (P := Try.prog) (t := 39) (v := .agg #[.int .i64 0, .int .i64 0, .int .i64 0, .slice none 0 0]) (n := 4) (by kernel_rfl)
          have HS := hid s
          have HVV := hid hv1
          clear hrg hps s hv1 hk1 hk2
          go_upto_region 9 with (first
            | (refine wpList_load_mid rfl 39 (.tmp 29) rfl gr (o + j * 4) rfl [.int .i64 d, .int .i64 k, .int .i64 x, vp] _ HRG.out Try.underlying39 rfl HS.out ?_)
            | (refine al_row rfl 39 rfl _ z ?_; refine st_new rfl 39 (.tmp 6) (.tmp 30) rfl [.int .i64 d, .int .i64 k, .int .i64 x, vp] rfl rfl _ _ HS.out rfl HVV.out ?_))
          try simp only [Act.put, List.setIfInBounds_toArray, List.set_cons_succ, List.set_cons_zero]
          have hb5 := below_walk wx (.cells [.int .i64 d, .int .i64 k, .int .i64 x, vp].toArray 39)
          have hn5 := hp_new wx (.cells [.int .i64 d, .int .i64 k, .int .i64 x, vp].toArray 39)
          have hz5 := World.size_alloc wx (.cells [.int .i64 d, .int .i64 k, .int .i64 x, vp].toArray 39)
          generalize wx.alloc (.cells [.int .i64 d, .int .i64 k, .int .i64 x, vp].toArray 39) = w5 at hb5 hn5 hz5 ⊢
          have HB5 := hid (HB.out.trans (hb5.mono HB.out.size))
          have HX5 := hid (HBX.out.trans (hb5.mono HBX.out.size))
          have HM5 : Hid (Marks w3.heap.size w5 ds w5.heap.size) := hid ((HMK.out.keep (fun q _ hq => hb5.block q hq)).up (by omega))
          have HN5 := hid (HNX.out.below hb5)
          have d1 := row_cell hn5 1 (by simp)
          have d2 := row_cell hn5 2 (by simp)
          have d3 := row_cell hn5 3 (by simp)
          simp only [List.getElem_cons_succ, List.getElem_cons_zero] at d1 d2 d3
          generalize wx.heap.size = b5 at d1 d2 d3 ⊢
          clear hb5 hn5 hz5 HMK HNX HB HBX z HRG
          go_wp2_with fail
          refine (nget_any HN5.out k).mono ?_
          rintro e w6 ⟨rfl, hw⟩
          have hws := hw.symm
          subst hws
          go_wp2_with fail
          refine (nlook_any HN5.out k).mono ?_
          rintro e w6 ⟨rfl, hw⟩
          have hws := hw.symm
          subst hws
          go_wp2_with fail
          refine (nput_any HN5.out k x).mono ?_
          rintro e w6 ⟨rfl, hw⟩
          have hws := hw.symm
          subst hws
          go_wp2_with fail
          refine (nresize_any HN5.out x).mono ?_
          rintro e w6 ⟨rfl, hw⟩
          have hws := hw.symm
          subst hws
          go_wp2_with fail
          refine (ndrop_any HN5.out vp).mono ?_
          rintro e w6 ⟨rfl, hw⟩
          have hws := hw.symm
          subst hws
          go_wp2_with fail
          refine (nall_any HN5.out).mono ?_
          rintro e w6 ⟨rfl, hw⟩
          have hws := hw.symm
          subst hws
          clear d1 d2 d3
          go_wp2_with fail
          refine wpIn_wide.1 (range_none (n := 9) (by omega) rfl (enters_of Try.func41 (by kernel_rfl) rfl) (nall_stops Fence.wide _ trivial rfl _) rfl ?_)
          intro D W hD hbW hK
          have HB6 := hid (HB5.out.trans (hbW.mono HB5.out.size))
          have HX6 := hid (HX5.out.trans (hbW.mono HX5.out.size))
          have HM6 := hid (HM5.out.keep (fun q _ hq => hbW.block q hq))
          have HN6 := hid (HN5.out.below hbW)
          have HD6 := hid hD
          have HDB : Hid (w3.heap.size ≤ D) := hid (Nat.le_trans HB5.out.size hD)
          have HK6 := hid hK
          have HZ5 := hid hbW.size
          clear hbW hK hD HB5 HM5 HN5 HX5
          go_wp2_with fail
          refine (nlen_any HN6.out).mono ?_
          rintro e w7 ⟨rfl, hw⟩
          have hws := hw.symm
          subst hws
          go_wp2_with fail
          refine (nmost_any HN6.out).mono ?_
          rintro e w7 ⟨rfl, hw⟩
          have hws := hw.symm
          subst hws
          go_wp2_with fail
          refine (nuses_any HN6.out).mono ?_
          rintro e w7 ⟨rfl, hb7⟩
          have HB7 := hid (HB6.out.trans (hb7.mono HB6.out.size))
          have HX7 := hid (HX6.out.trans (hb7.mono HX6.out.size))
          have HN7 := hid (HN6.out.below hb7)
          have HK7 := hid ((hb7.block D (hp_lt HK6.out)).trans HK6.out)
          have HM7 : Hid (Marks w3.heap.size w7 ({ target := .collected D, args := #[] } :: ds) w7.heap.size) := hid ⟨D, rfl, HDB.out, hp_lt HK7.out, HK7.out, (HM6.out.keep (fun q _ hq => hb7.block q (Nat.lt_of_lt_of_le hq HZ5.out))).up HD6.out⟩
          clear hb7 HB6 HX6 HN6 HK6 HM6 HK7
          go_wp2_with (first
            | (refine bd_rowN (by rfl) 32 _ (by rfl) [] (by simp) _ built_uN ?_))
          refine (ncopy_any HN7.out).mono ?_
          rintro e w8 ⟨rfl, hw⟩
          have hws := hw.symm
          subst hws
          go_wp2
          exact ⟨nilJ_mk (j + 1) _ _ (by kernel_rfl) hlt HB7.out HM7.out HX7.out, by simp [intOf]; omega⟩
        · have hltj : ¬ (j : Int) < (n : Int) := by omega
          go_wp2
          exact ⟨nilO_mk (oi + 1) ds _ (by kernel_rfl) (by omega) HB.out HMK.out, by simp [intOf]; omega⟩
    · have hlti : ¬ (oi : Int) < 2 := by omega
      have hrr := (HB.out.block r (hp_lt HR3.out)).trans HR3.out
      have hcr : wr.cell? ⟨r, 0, none⟩ = some (.bool false) := (cell_of_row _ _ _ _ _ _ hrr).trans rfl
      have hfr : wr.frozen? ⟨r, 0, none⟩ = false := by simp [World.frozen?, hrr]
      have HRL := hid (hp_lt HR3.out)
      have HC6 := hid (World.cell?_setCell_same' wr ⟨r, 0, none⟩ (.bool true) (by rw [hcr]; rfl))
      have HB6 : Hid (Below w.heap.size w (wr.setCell ⟨r, 0, none⟩ (.bool true))) := hid ((HBB.out.trans (HB.out.mono HBB.out.size)).setCell (p := ⟨r, 0, none⟩) (by show w.heap.size ≤ r; rw [HR.out]; exact Nat.le_refl _) _)
      have HM6 : Hid (Marks w3.heap.size (wr.setCell ⟨r, 0, none⟩ (.bool true)) ds wr.heap.size) := hid (HMK.out.keep (fun q hq _ => heap_setCell_other wr ⟨r, 0, none⟩ q _ (by have := HRL.out; show q ≠ r; omega)))
      have HZ6 : Hid (w3.heap.size ≤ (wr.setCell ⟨r, 0, none⟩ (.bool true)).heap.size) := hid (by have := HB.out.size; simpa [World.setCell] using this)
      clear hrr
      go_wp2
      refine leaves_marks (B := w3.heap.size) (.bool true) ds wr.heap.size _ HM6.out HZ6.out (fun w' hb' _ => ⟨?_, rfl, HB6.out.trans (hb'.mono HBB.out.size)⟩)
      have hc := (hb'.cell (p := ⟨r, 0, none⟩) HRL.out).trans HC6.out
      simp [results, Try.f4, go_sem, hc]

end Go.Proofs.Ytnbbebapfiocpab
