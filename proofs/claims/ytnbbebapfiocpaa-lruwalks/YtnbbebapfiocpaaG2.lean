/- Contracts and pure facts that the proof needs, joined. -/
import Derived.Test.YtnbbebapfiocpaaG1
import Derived.BigQuiet
import Derived.StillTail
import Derived.RangeFuncBox
import Derived.RangeFuncLeaves
import Derived.RangeFuncNested
import Derived.Laws.EntriesVeiled

/- The document's memo: at, without, Look. -/
namespace Go.Proofs.Ytnbbebapfiocpaa
open Go.RowKit

/-- block b is the document's memo -/
structure Rm (w : World) (base b : Nat) (v : Value) (size : Nat) (L : List (Int × Int)) (h mi g : Int) : Prop where
  lo : base ≤ b
  blk : w.heap[b]? = some (.cells #[.int .i64 size, v, .int .i64 h, .int .i64 mi, .int .i64 g] 31 (0, 0))
  own : OwnP w base v L
  kd : (L.map (·.1)).Nodup
  le : L.length ≤ 8192

section
variable {w w' : World} {base b size : Nat} {v : Value} {L : List (Int × Int)} {h mi g : Int}
theorem Rm.lt (q : Rm w base b v size L h mi g) : b < w.heap.size := hp_lt q.blk
theorem Rm.c0 (q : Rm w base b v size L h mi g) : w.cell? ⟨b, 0, none⟩ = some (.int .i64 size) := by simp [World.cell?, q.blk]
theorem Rm.c1 (q : Rm w base b v size L h mi g) : w.cell? ⟨b, 1, none⟩ = some v := by simp [World.cell?, q.blk]
theorem Rm.c2 (q : Rm w base b v size L h mi g) : w.cell? ⟨b, 2, none⟩ = some (.int .i64 h) := by simp [World.cell?, q.blk]
theorem Rm.c3 (q : Rm w base b v size L h mi g) : w.cell? ⟨b, 3, none⟩ = some (.int .i64 mi) := by simp [World.cell?, q.blk]
theorem Rm.c4 (q : Rm w base b v size L h mi g) : w.cell? ⟨b, 4, none⟩ = some (.int .i64 g) := by simp [World.cell?, q.blk]
theorem Rm.fz (q : Rm w base b v size L h mi g) (i : Nat) : w.frozen? ⟨b, i, none⟩ = false := by simp [World.frozen?, q.blk]
theorem Rm.ne (q : Rm w base b v size L h mi g) : ∀ k, v.ownBlock = some k → k ≠ b := fun k hk e => by
  obtain ⟨cur, h1, _⟩ := q.own.typ hk
  rw [e, q.blk] at h1
  injection h1 with h1; injection h1 with _ e _; exact absurd e (by decide)
theorem Rm.fr {F : List Nat} (q : Rm w base b v size L h mi g) (r : Fr w w' F) (h1 : b ∉ F) (h2 : ∀ k, v.ownBlock = some k → k ∉ F) : Rm w' base b v size L h mi g := ⟨q.lo, r.blk q.blk h1, q.own.fr r h2, q.kd, q.le⟩
theorem Rm.below (q : Rm w base b v size L h mi g) (r : Below w.heap.size w w') : Rm w' base b v size L h mi g := q.fr (Fr.of_below r []) (by simp) (by simp)
theorem Rm.base_le (q : Rm w base b v size L h mi g) : base ≤ w.heap.size := by have := q.lo; have := q.lt; omega
/-- a store into the memo's own cells -/
theorem Rm.set (q : Rm w base b v size L h mi g) (i : Nat) (u : Value) {v' : Value} {size' : Nat} {L' : List (Int × Int)} {h' mi' g' : Int} (ho : OwnP w base v' L') (hd : (L'.map (·.1)).Nodup) (hl : L'.length ≤ 8192)
    (hu : (#[.int .i64 size, v, .int .i64 h, .int .i64 mi, .int .i64 g] : Array Value).setIfInBounds i u = #[.int .i64 size', v', .int .i64 h', .int .i64 mi', .int .i64 g']) : Rm (w.setCell ⟨b, i, none⟩ u) base b v' size' L' h' mi' g' :=
  ⟨q.lo, by rw [blk_set q.blk, hu], ho.fr (Fr.set w b i u) (fun k hk e => by
    simp at e
    obtain ⟨cur, h1, _⟩ := ho.typ hk
    rw [e, q.blk] at h1
    injection h1 with h1; injection h1 with _ e _; exact absurd e (by decide)), hd, hl⟩

/-- the place of a key -/
def atP (L : List (Int × Int)) (k : Int) : Nat := L.findIdx (fun x => decide (x.1 = k))

set_option maxRecDepth 100000 in
set_option maxHeartbeats 1000000 in
theorem rat_none (q : Rm w base b v size L h mi g) (k : Int) (hk : lookP L k = none) :
    Calls Try.prog 56 #[pt b, .int .i64 k] w fun e w' => e = .returned (.int .i64 (-1)) ∧ w' = w := by
  have c1 := q.c1
  have HNO := hid (lookP_none.1 hk)
  have hle := q.le
  have HSR := hid q.own.src
  obtain ⟨av, cv, rfl⟩ := q.own.shape
  clear q hk
  go_enter Try.func56, Try.ntmps56
  go_wp2
  go_loopw [5] (fun vi wr => ∃ j : Nat, j ≤ L.length ∧ vi = .int .i64 j ∧ wr = w) (fun vi _ => L.length - (intOf vi).toNat)
  case atStart => exact ⟨0, by omega, rfl, rfl⟩
  case round =>
    obtain ⟨j, hj, rfl, hwr⟩ := hrel
    subst hwr
    by_cases hlt : j < L.length
    · rcases HSR.out with ⟨e, e0⟩ | ⟨gg, o, c, e, hl, hlt2, hc⟩
      · subst e0; simp at hlt
      · injection e with e1 e2 e3
        subst e1
        have hcell := hc (2 * j) _ (pv_get L j hlt).1
        have hne : (L.getD j (0, 0)).1 ≠ k := HNO.out _ (by rw [List.getD_eq_getElem?_getD, List.getElem?_eq_getElem hlt]; exact List.getElem_mem hlt)
        generalize (L.getD j (0, 0)).1 = y at hcell hne
        rw [show o + 2 * j = o + j * 2 by omega] at hcell
        clear hc e2 e3
        go_wp2
        exact ⟨⟨j + 1, hlt, by simp, by first | rfl | trivial⟩, by simp [intOf]; omega⟩
    · go_wp2
      go_ret
      exact ⟨rfl, rfl⟩

set_option maxRecDepth 100000 in
set_option maxHeartbeats 1000000 in
theorem rat_some (A B : List (Int × Int)) (k y : Int) (q : Rm w base b v size (A ++ (k, y) :: B) h mi g) (hA : ∀ x ∈ A, x.1 ≠ k) :
    Calls Try.prog 56 #[pt b, .int .i64 k] w fun e w' => e = .returned (.int .i64 A.length) ∧ w' = w := by
  have c1 := q.c1
  have HNO := hid hA
  have hle := q.le
  have HSR := hid q.own.src
  obtain ⟨av, cv, rfl⟩ := q.own.shape
  obtain ⟨L, HL⟩ : ∃ L, Hid (A ++ (k, y) :: B = L) := ⟨_, rfl⟩
  rw [HL.out] at c1 hle HSR
  have hAL : A.length < L.length := by rw [← HL.out]; simp
  clear q hA
  go_enter Try.func56, Try.ntmps56
  go_wp2
  go_loopw [5] (fun vi wr => ∃ j : Nat, j ≤ A.length ∧ vi = .int .i64 j ∧ wr = w) (fun vi _ => L.length - (intOf vi).toNat)
  case atStart => exact ⟨0, by omega, rfl, rfl⟩
  case round =>
    obtain ⟨j, hj, rfl, hwr⟩ := hrel
    subst hwr
    have hlt : j < L.length := by omega
    rcases HSR.out with ⟨e, e0⟩ | ⟨gg, o, c, e, hl, hlt2, hc⟩
    · subst e0; simp at hlt
    · injection e with e1 e2 e3
      subst e1
      have hcell := hc (2 * j) _ (pv_get L j hlt).1
      rw [show o + 2 * j = o + j * 2 by omega] at hcell
      clear hc e2 e3
      by_cases hja : j < A.length
      · have hne : (L.getD j (0, 0)).1 ≠ k := by
          rw [← HL.out, List.getD_eq_getElem?_getD, List.getElem?_append_left hja, List.getElem?_eq_getElem hja]
          exact HNO.out _ (List.getElem_mem hja)
        generalize (L.getD j (0, 0)).1 = z at hcell hne
        go_wp2
        exact ⟨⟨j + 1, hja, by simp, by first | rfl | trivial⟩, by simp [intOf]; omega⟩
      · have hje : j = A.length := by omega
        subst hje
        have heq : (L.getD A.length (0, 0)).1 = k := by
          rw [← HL.out, List.getD_eq_getElem?_getD, List.getElem?_append_right (Nat.le_refl _)]; simp
        rw [heq] at hcell
        clear heq
        go_wp2
        go_ret
        exact ⟨rfl, rfl⟩

set_option maxRecDepth 100000 in
set_option maxHeartbeats 2000000 in
theorem rwithout_any (A B : List (Int × Int)) (x : Int × Int) (q : Rm w base b v size (A ++ x :: B) h mi g) :
    Calls Try.prog 57 #[pt b, .int .i64 A.length] w fun e w' => ∃ v', e = .returned v' ∧ OwnP w' w.heap.size v' (A ++ B) ∧ Below w.heap.size w w' := by
  have c1 := q.c1
  have hle := q.le
  have hbl := q.lt
  obtain ⟨vx, hsx, hrx⟩ := cutP_to q.own.src A.length (by simp)
  obtain ⟨vy, hsy, hry⟩ := cutP_from q.own.src (A.length + 1) (by simp)
  rw [List.take_left] at hsx
  rw [show (A ++ x :: B).drop (A.length + 1) = B by simp] at hsy
  have HSX := hid hsx
  have HSY := hid hsy
  have hlen : (A ++ x :: B).length = A.length + 1 + B.length := by simp; omega
  rw [hlen] at hle
  obtain ⟨n, hn⟩ : ∃ n : Nat, A.length = n := ⟨_, rfl⟩
  obtain ⟨n1, hn1⟩ : ∃ n : Nat, A.length + 1 = n := ⟨_, rfl⟩
  rw [hn] at hrx ⊢
  rw [hn1] at hry
  have hw1 : IntKind.i64.wrap ((n : Int) + 1) = (n1 : Int) := by rw [IntKind.wrap_i64, ← hn1, ← hn]; omega
  have HLE : Hid (A.length + B.length ≤ 8192) := hid (by omega)
  have bd : Below w.heap.size w w.drew := ⟨rfl, rfl, rfl, Nat.le_refl _, fun _ _ => rfl⟩
  have S2 := hid (fun W (hW : Below w.heap.size w W) => (hW.cell (p := ⟨b, 1, none⟩) hbl).trans c1)
  have cd : w.drew.cell? ⟨b, 1, none⟩ = some v := c1
  have HBD := hid bd
  clear q hsx hsy hlen hn hn1 hle
  go_enter Try.func57, Try.ntmps57
  go_upto_region 1 with fail
  go_region_held_law (fun w' => w'.cell? ⟨b, 1, none⟩ = some v) (first | go_keep | exact n5 | exact n6) (first
    | (refine step_app_pairs rfl _ _ rfl w.heap.size _ A rfl HO5.out _ B rfl (HSY.out.below HB5.out) (by have := HLE.out; omega) HB5.out.size ?_; intro v6 w6 ho6 hg6; have HO6 := hid ho6; have HB6 := hid (HB5.out.trans ((fr_own hg6).below HB5.out.size (ownP_low HO5.out))); have n6 := S2.out _ HB6.out; clear ho6 hg6)
    | (refine step_app_pairs rfl _ _ rfl w.heap.size (.slice none 0 0) [] rfl (OwnP.nil _ _) _ A rfl (HSX.out.below (by exact HBD.out)) (by have := HLE.out; simp; omega) (by exact HBD.out.size) ?_; intro v5 w5 ho5 hg5; have HO5 := hid (by simpa using ho5 : OwnP w5 w.heap.size v5 A); have HB5 := hid (HBD.out.trans ((gb_none hg5).mono (Nat.le_refl _)) : Below w.heap.size w w5); have n5 := S2.out _ HB5.out; clear ho5 hg5))
  all_goals
    go_wp2
    go_ret
    exact ⟨v6, by simp, HO6.out, HB6.out⟩
end

end Go.Proofs.Ytnbbebapfiocpaa

/- The document's Get. -/
namespace Go.Proofs.Ytnbbebapfiocpaa
open Go.RowKit

theorem look_split {L : List (Int × Int)} {k y : Int} (hd : (L.map (·.1)).Nodup) (h : lookP L k = some y) : ∃ A B, L = A ++ (k, y) :: B ∧ (∀ x ∈ A, x.1 ≠ k) ∧ (∀ x ∈ B, x.1 ≠ k) := by
  obtain ⟨A, B, rfl⟩ := List.append_of_mem ((lookP_mem hd).1 h)
  refine ⟨A, B, rfl, fun x hx e => ?_, fun x hx e => ?_⟩
  · rw [List.map_append, List.nodup_append] at hd
    exact hd.2.2 x.1 (List.mem_map.2 ⟨x, hx, rfl⟩) k (by simp) e
  · rw [List.map_append, List.nodup_append] at hd
    have := hd.2.1
    simp only [List.map_cons, List.nodup_cons] at this
    exact this.1 (e ▸ List.mem_map.2 ⟨x, hx, rfl⟩)
theorem owns_pair (w : World) (k y : Int) : OwnP (w.alloc (.cells #[.int .i64 k, .int .i64 y] 59)) w.heap.size (.slice (some ⟨w.heap.size, 0, none⟩) 1 1) [(k, y)] :=
  World.ownsRow_lit w #[.int .i64 k, .int .i64 y] 1 (Nat.le_refl _) (by decide) rfl

theorem own_drew {w : World} {base : Nat} {v : Value} {L : List (Int × Int)} (h : OwnP w base v L) : OwnP w.drew base v L := h

section
variable {w w' : World} {base b size : Nat} {v : Value} {L : List (Int × Int)} {h mi g : Int}

set_option maxRecDepth 100000 in
set_option maxHeartbeats 1000000 in
theorem rlook_any (q : Rm w base b v size L h mi g) (k : Int) :
    Calls Try.prog 33 #[pt b, .int .i64 k] w fun e w' => e = .returned (.tuple #[.int .i64 ((lookP L k).getD 0), .bool (lookP L k).isSome]) ∧ w' = w := by
  cases hlk : lookP L k with
  | none =>
    have HA := hid (rat_none q k hlk)
    clear q hlk
    go_enter Try.func33, Try.ntmps33
    go_wp2_with fail
    refine HA.out.mono ?_
    rintro e w1 ⟨rfl, hw⟩
    subst hw
    go_wp2
    go_ret2
    exact ⟨rfl, rfl⟩
  | some y =>
    obtain ⟨A, B, rfl, hA, _⟩ := look_split q.kd hlk
    have HA := hid (rat_some A B k y q hA)
    have c1 := q.c1
    have hle := q.le
    have hAL : A.length < (A ++ (k, y) :: B).length := by simp
    have hget := pv_get (A ++ (k, y) :: B) A.length hAL
    rw [show ((A ++ (k, y) :: B).getD A.length (0, 0)) = (k, y) by simp [List.getD_eq_getElem?_getD]] at hget
    rcases q.own.src with ⟨_, e0⟩ | ⟨gg, o, c, hv, hl, hlt2, hc⟩
    · simp at e0
    subst hv
    have hcell := hc (2 * A.length + 1) _ hget.2
    obtain ⟨n, HN⟩ : ∃ n, Hid (A.length = n) := ⟨_, rfl⟩
    obtain ⟨N, HNN⟩ : ∃ N, Hid ((A ++ (k, y) :: B).length = N) := ⟨_, rfl⟩
    rw [HN.out] at HA hcell hAL
    rw [HNN.out] at c1 hle hAL hl
    rw [show o + (2 * n + 1) = o + n * 2 + 1 by omega] at hcell
    clear q hlk hA hget hc
    go_enter Try.func33, Try.ntmps33
    go_wp2_with fail
    refine HA.out.mono ?_
    rintro e w1 ⟨rfl, hw⟩
    subst hw
    go_wp2
    go_ret2
    exact ⟨rfl, rfl⟩

set_option maxRecDepth 100000 in
set_option maxHeartbeats 2000000 in
theorem rget_miss (q : Rm w base b v size L h mi g) (k : Int) (hlk : lookP L k = none) :
    Calls Try.prog 32 #[pt b, .int .i64 k] w fun e w' => e = .returned (.tuple #[.int .i64 0, .bool false]) ∧ Rm w' base b v size L h (wrap64 (mi + 1)) g ∧ Fr w w' [b] := by
  have HA := hid (rat_none q k hlk)
  have c3 := q.c3
  have f3 := q.fz 3
  have HQ := hid (q.set 3 (.int .i64 (wrap64 (mi + 1))) q.own q.kd q.le rfl)
  clear q hlk
  go_enter Try.func32, Try.ntmps32
  go_wp2_with fail
  refine HA.out.mono ?_
  rintro e w1 ⟨rfl, hw⟩
  subst hw
  go_wp2
  go_ret2
  exact ⟨rfl, HQ.out, Fr.set _ _ _ _⟩

set_option maxRecDepth 100000 in
set_option maxHeartbeats 4000000 in
theorem rget_hit (A B : List (Int × Int)) (k y : Int) (q : Rm w base b v size (A ++ (k, y) :: B) h mi g) (hA : ∀ x ∈ A, x.1 ≠ k) :
    Calls Try.prog 32 #[pt b, .int .i64 k] w fun e w' => e = .returned (.tuple #[.int .i64 y, .bool true]) ∧ ∃ v', Rm w' base b v' size ((k, y) :: (A ++ B)) (wrap64 (h + 1)) mi g ∧ Fr w w' [b] := by
  have HA := hid (rat_some A B k y q hA)
  have c1 := q.c1
  have hle := q.le
  have HQ := hid q
  have hAL : A.length < (A ++ (k, y) :: B).length := by simp
  have hget := pv_get (A ++ (k, y) :: B) A.length hAL
  rw [show ((A ++ (k, y) :: B).getD A.length (0, 0)) = (k, y) by simp [List.getD_eq_getElem?_getD]] at hget
  rcases q.own.src with ⟨_, e0⟩ | ⟨gg, o, c, hv, hl, hlt2, hc⟩
  · simp at e0
  subst hv
  have HR : Hid (w.rangeAt gg (o + A.length * 2) [.int .i64 k, .int .i64 y]) := hid (fun i u hu => by
    match i, hu with
    | 0, hu => simp at hu; subst hu; have := hc _ _ hget.1; rw [show o + A.length * 2 + 0 = o + 2 * A.length by omega]; exact this
    | 1, hu => simp at hu; subst hu; have := hc _ _ hget.2; rw [show o + A.length * 2 + 1 = o + (2 * A.length + 1) by omega]; exact this
    | i + 2, hu => simp at hu)
  obtain ⟨z2, s2⟩ := zero_of_info (P := Try.prog) (t := 59) (v := .agg #[.int .i64 0, .int .i64 0]) (n := 2) (by kernel_rfl)
  have HS := hid s2
  obtain ⟨n, HN⟩ : ∃ n, Hid (A.length = n) := ⟨_, rfl⟩
  obtain ⟨N, HNN⟩ : ∃ N, Hid ((A ++ (k, y) :: B).length = N) := ⟨_, rfl⟩
  rw [HN.out] at HA hAL HR
  rw [HNN.out] at c1 hle hAL hl HQ
  clear q hA hget hc s2
  go_enter Try.func32, Try.ntmps32
  go_wp2_with fail
  refine HA.out.mono ?_
  rintro e w1 ⟨rfl, hw⟩
  subst hw
  go_upto_region 6 with (first
    | (refine wpList_load_mid rfl 59 (.tmp 27) rfl gg (o + n * 2) rfl [.int .i64 k, .int .i64 y] _ HR.out Try.underlying59 rfl HS.out ?_)
    | (refine al_row rfl 59 rfl _ z2 ?_; refine st_new rfl 59 (.tmp 7) (.tmp 28) rfl [.int .i64 k, .int .i64 y] rfl rfl _ _ HS.out rfl (by simp [Value.oneCell']) ?_))
  try simp only [Act.put, List.setIfInBounds_toArray, List.set_cons_succ, List.set_cons_zero]
  have HB2 := hid (below_walk w1 (.cells [.int .i64 k, .int .i64 y].toArray 59))
  have HQ2 := hid (HQ.out.below HB2.out)
  have HN2 := hid (hp_new w1 (.cells [.int .i64 k, .int .i64 y].toArray 59))
  have d0 := row_cell HN2.out 0 (by simp)
  have d1 := row_cell HN2.out 1 (by simp)
  simp only [List.getElem_cons_zero, List.getElem_cons_succ] at d0 d1
  generalize w1.alloc (.cells [.int .i64 k, .int .i64 y].toArray 59) = w2 at HB2 HQ2 HN2 d0 d1 ⊢
  have HNE : Hid (b ≠ w1.heap.size) := hid (by have := HQ.out.lt; omega)
  generalize w1.heap.size = bx at HN2 HNE d0 d1 ⊢
  have HLT : Hid (bx < w2.heap.size) := hid (hp_lt HN2.out)
  have bd : Below w2.heap.size w2 w2.drew := ⟨rfl, rfl, rfl, Nat.le_refl _, fun _ _ => rfl⟩
  have ba : Below w2.heap.size w2 (w2.alloc (.cells #[.int .i64 k, .int .i64 y] 59)).drew := by
    have h := below_walk w2 (.cells #[.int .i64 k, .int .i64 y] 59)
    exact ⟨h.os, h.tape, h.output, h.size, h.block⟩
  have H1 := hid (rwithout_any A B (k, y) (HQ2.out.below ba))
  have H2 := hid (rwithout_any A B (k, y) (HQ2.out.below bd))
  rw [HN.out] at H1 H2
  have HBA := hid ba
  have HBD := hid bd
  have SX := hid (fun W (hW : Below w2.heap.size w2 W) => show W.cell? ⟨bx, 0, none⟩ = some (.int .i64 k) ∧ W.cell? ⟨bx, 1, none⟩ = some (.int .i64 y) from ⟨(hW.cell (p := ⟨bx, 0, none⟩) HLT.out).trans d0, (hW.cell (p := ⟨bx, 1, none⟩) HLT.out).trans d1⟩)
  have HSB := hid (fun W (hW : Below w2.heap.size w2 W) => show W.cell? ⟨b, 1, none⟩ = some (.slice (some ⟨gg, o, none⟩) N c) ∧ W.frozen? ⟨b, 1, none⟩ = false from ⟨(hW.cell (p := ⟨b, 1, none⟩) HQ2.out.lt).trans HQ2.out.c1, (World.frozen?_of_block (hW.block b HQ2.out.lt)).trans (HQ2.out.fz 1)⟩)
  have hAB : A.length + B.length ≤ 8192 := by have := HNN.out; simp at this; omega
  have n0 : w2.drew.cell? ⟨bx, 0, none⟩ = some (.int .i64 k) ∧ w2.drew.cell? ⟨bx, 1, none⟩ = some (.int .i64 y) := ⟨d0, d1⟩
  clear bd ba
  go_region_held_law (fun W => W.cell? ⟨bx, 0, none⟩ = some (.int .i64 k) ∧ W.cell? ⟨bx, 1, none⟩ = some (.int .i64 y)) (first | go_keep | exact n3 | exact n4 | exact n0 | exact n5 _) (first
    | (go_at_call 57; with_reducible refine H1.out.mono ?_; rintro e w3 ⟨v3, rfl, ho3, hb3⟩; have HB3 := hid (HBA.out.trans (hb3.mono HBA.out.size)); have HOA := hid (((own_drew (owns_pair w2 k y)).below hb3).lw (base' := w2.heap.size) (Nat.le_refl _)); have HSR := hid ho3.src; have HSZ := hid HB3.out.size; have n3 := SX.out _ HB3.out; clear ho3 hb3)
    | (go_at_call 57; with_reducible refine H2.out.mono ?_; rintro e w3 ⟨v3, rfl, ho3, hb3⟩; have HBC := hid (HBD.out.trans (hb3.mono HBD.out.size)); have HB3 := hid (HBC.out.alloc HBC.out.size (.cells #[.int .i64 k, .int .i64 y] 59)); have HOA := hid ((owns_pair w3 k y).lw (base' := w2.heap.size) HBC.out.size); have HSR := hid (ho3.src.below (below_walk w3 (.cells #[.int .i64 k, .int .i64 y] 59))); have HSZ := hid HB3.out.size; have n3 := SX.out _ HBC.out; clear ho3 hb3)
    | (refine step_app_pairs rfl _ _ rfl w2.heap.size _ [(k, y)] rfl HOA.out _ (A ++ B) rfl HSR.out (by simp; omega) HSZ.out ?_; intro v4 w4 ho4 hg4; obtain ⟨LN, HLN⟩ : ∃ LN, Hid ([(k, y)] ++ (A ++ B) = LN) := ⟨_, rfl⟩; rw [HLN.out] at ho4; have HO4 := hid ho4; have HB4 := hid (HB3.out.trans ((fr_own hg4).below HB3.out.size (ownP_low HOA.out))); have n4 := SX.out _ HB4.out; have m1 := (HSB.out _ HB4.out).1; have m2 := (HSB.out _ HB4.out).2; obtain ⟨a4, c4, hv4⟩ := ho4.shape; subst hv4; have n5 := fun u => show (w4.setCell ⟨b, 1, none⟩ u).cell? ⟨bx, 0, none⟩ = some (.int .i64 k) ∧ (w4.setCell ⟨b, 1, none⟩ u).cell? ⟨bx, 1, none⟩ = some (.int .i64 y) from ⟨(cell_set_other (fun e => HNE.out e.1.symm)).trans n4.1, (cell_set_other (fun e => HNE.out e.1.symm)).trans n4.2⟩; clear ho4 hg4))
  all_goals
    have HQ4 := hid (HQ2.out.below HB4.out)
    have hLl : LN.length ≤ 8192 := by have := HNN.out; rw [← HLN.out]; simp at this ⊢; omega
    have hLd : (LN.map (·.1)).Nodup := by
      rw [← HLN.out]
      exact (List.Perm.nodup_iff (by simp)).1 HQ2.out.kd
    have HQ5 := hid (HQ4.out.set 1 (.slice a4 LN.length c4) (HO4.out.lw (base' := base) HQ2.out.base_le) hLd hLl rfl)
    have HF5 := hid (((Fr.of_below HB2.out [b]).trans (Fr.of_below HB4.out []) (by simp)).trans (Fr.set w4 b 1 (.slice a4 LN.length c4)) (by simp))
    have HN5 := hid (n5 (.slice a4 LN.length c4))
    generalize w4.setCell ⟨b, 1, none⟩ (.slice a4 LN.length c4) = w5 at HQ5 HF5 HN5 ⊢
    have e2 := HQ5.out.c2
    have f2 := HQ5.out.fz 2
    have HQ6 := hid (HQ5.out.set 2 (.int .i64 (wrap64 (h + 1))) HQ5.out.own HQ5.out.kd HQ5.out.le rfl)
    have HF6 := hid (HF5.out.trans (Fr.set w5 b 2 (.int .i64 (wrap64 (h + 1)))) (by simp))
    have g1 : (w5.setCell ⟨b, 2, none⟩ (.int .i64 (wrap64 (h + 1)))).cell? ⟨bx, 1, none⟩ = some (.int .i64 y) := (cell_set_other (fun e => HNE.out e.1.symm)).trans HN5.out.2
    clear n0 n3 n4 n5 m1 m2 d0 d1 hLl hLd
    go_wp2
    go_ret2
    refine ⟨rfl, .slice a4 LN.length c4, ?_, HF6.out⟩
    rw [show (k, y) :: (A ++ B) = LN from HLN.out]
    exact HQ6.out
end

end Go.Proofs.Ytnbbebapfiocpaa

/- The document's Put. -/
namespace Go.Proofs.Ytnbbebapfiocpaa
open Go.RowKit

section
variable {w w' : World} {base b size : Nat} {v : Value} {L : List (Int × Int)} {h mi g : Int}

theorem rget_any (q : Rm w base b v size L h mi g) (k : Int) :
    Calls Try.prog 32 #[pt b, .int .i64 k] w fun e w' => e = .returned (.tuple #[.int .i64 ((lookP L k).getD 0), .bool (lookP L k).isSome]) ∧
      ∃ v', Rm w' base b v' size (getP L k) (if (lookP L k).isSome then wrap64 (h + 1) else h) (if (lookP L k).isSome then mi else wrap64 (mi + 1)) g ∧ Fr w w' [b] := by
  cases hlk : lookP L k with
  | none =>
    have e1 : getP L k = L := by unfold getP; rw [findP_not hlk]
    rw [e1]
    refine (rget_miss q k hlk).mono ?_
    rintro e w1 ⟨rfl, q1, f1⟩
    exact ⟨rfl, v, q1, f1⟩
  | some y =>
    have hf := findP_look hlk
    obtain ⟨A, B, rfl, hA, hB⟩ := look_split q.kd hlk
    have e1 : getP (A ++ (k, y) :: B) k = (k, y) :: (A ++ B) := by unfold getP; rw [hf]; show (k, y) :: outP _ _ = _; rw [outP_split hA hB]
    rw [e1]
    refine (rget_hit A B k y q hA).mono ?_
    rintro e w1 ⟨rfl, v', q1, f1⟩
    exact ⟨rfl, v', q1, f1⟩

/-- how many went -/
def goneP (o : Option Int) (g : Int) : Int := if o.isSome then wrap64 (g + 1) else g

set_option maxRecDepth 100000 in
set_option maxHeartbeats 4000000 in
theorem rput_any (q : Rm w base b v size L h mi g) (k x : Int) (h1 : 1 ≤ size) (h2 : size ≤ 4096) (hl : L.length ≤ size) :
    Calls Try.prog 34 #[pt b, .int .i64 k, .int .i64 x] w fun e w' => e = .returned (.tuple #[.int .i64 ((wentP size L k).getD 0), .bool (wentP size L k).isSome]) ∧
      ∃ v', Rm w' base b v' size (putP size L k x) h mi (goneP (wentP size L k) g) ∧ Fr w w' [b] := by
  have HQ0 := hid q
  have HOK := hid (out_kd q.kd k x)
  have HOL := hid ((outP_sub L k).length_le)
  obtain ⟨L1, HL1⟩ : ∃ L1, Hid (outP L k = L1) := ⟨_, rfl⟩
  rw [HL1.out] at HOK HOL
  have hL1 : L1.length ≤ size := by have := HOL.out; omega
  have HPUT : Hid (putP size L k x = ((k, x) :: L1).take size) := hid (by unfold putP; rw [HL1.out])
  have HWENT : Hid (wentP size L k = if size ≤ L1.length then L1.getLast?.map (·.1) else none) := hid (by unfold wentP; rw [HL1.out])
  go_enter Try.func34, Try.ntmps34
  cases hlk : lookP L k with
  | none =>
    have HA := hid (rat_none q k hlk)
    have HE : Hid (L = L1) := hid (by rw [← HL1.out, outP_none (lookP_none.1 hlk)])
    clear q hlk
    go_wp2_with fail
    refine HA.out.mono ?_
    rintro e w2 ⟨rfl, hw⟩
    have HQ2 : Hid (Rm w2 base b v size L1 h mi g) := by rw [hw, ← HE.out]; exact HQ0
    have HF2 : Hid (Fr w w2 [b]) := by rw [hw]; exact Fr.refl _ _
    clear hw HA HE HQ0
    have c1 := HQ2.out.c1
    have hsh := HQ2.out.own.shape
    obtain ⟨a2, c2, hv2⟩ := hsh
    subst hv2
    have HW3 := hid (below_walk w2 (.cells #[.int .i64 k, .int .i64 x] 59))
    have HO3 := hid (owns_pair w2 k x)
    have HQ3 := hid (HQ2.out.below HW3.out)
    have c1' := HQ3.out.c1
    have HSR3 := hid HQ3.out.own.src
    go_upto_region 5 with (first
      | (at_builtin; refine app_pairs (by rfl) _ _ rfl w2.heap.size _ [(k, x)] rfl HO3.out _ L1 rfl HSR3.out (by simp; omega) HW3.out.size ?_; intro v4 w4 ho4 hg4; obtain ⟨LN, HLN⟩ : ∃ LN, Hid ([(k, x)] ++ L1 = LN) := ⟨_, rfl⟩; rw [HLN.out] at ho4; have HO4 := hid ho4; have HB4 := hid (HW3.out.trans ((fr_own hg4).below HW3.out.size (ownP_low HO3.out))); have HQ4 := hid (HQ2.out.below HB4.out); have m1 := HQ4.out.c1; have m2 := HQ4.out.fz 1; obtain ⟨a4, c4, hv4⟩ := ho4.shape; subst hv4; clear ho4 hg4))
    try simp only [Act.put, List.setIfInBounds_toArray, List.set_cons_succ, List.set_cons_zero]
    have HLNl : Hid (LN.length = L1.length + 1) := hid (by rw [← HLN.out]; simp)
    have hLl : LN.length ≤ 8192 := by have := HLNl.out; omega
    have HKD : Hid ((LN.map (·.1)).Nodup) := hid (by rw [← HLN.out]; exact HOK.out)
    have HQ5 := hid (HQ4.out.set 1 (.slice a4 LN.length c4) (HO4.out.lw (base' := base) HQ2.out.base_le) HKD.out hLl rfl)
    have HF5 := hid ((HF2.out.trans (Fr.of_below HB4.out []) (by simp)).trans (Fr.set w4 b 1 (.slice a4 LN.length c4)) (by simp))
    generalize w4.setCell ⟨b, 1, none⟩ (.slice a4 LN.length c4) = w5 at HQ5 HF5 ⊢
    clear m1 m2 c1 c1' HQ4 HO4 HB4 HQ3 HO3 HW3 HSR3
    have HQ6 : Hid (Rm w5.drew base b (.slice a4 LN.length c4) size LN h mi g) := hid (HQ5.out.below (below_drewN w5 1))
    have HF6 : Hid (Fr w w5.drew [b]) := hid HF5.out.drew
    have d0 := HQ6.out.c0
    have d1 := HQ6.out.c1
    by_cases hcmp : LN.length ≤ size
    · go_region
      go_wp2
      go_ret2
      have e1 : wentP size L k = none := by rw [HWENT.out, if_neg (by have := HLNl.out; omega)]
      have e2 : putP size L k x = LN := by rw [HPUT.out, ← HLN.out]; exact List.take_of_length_le (by have := HLNl.out; rw [← HLN.out] at hcmp; simpa using hcmp)
      rw [e1, e2]
      exact ⟨rfl, _, HQ6.out, HF6.out⟩
    · obtain ⟨X, o, HXO⟩ : ∃ X o, Hid (LN = X ++ [o]) := by
        rcases List.eq_nil_or_concat LN with hn | ⟨X, o, hn⟩
        · rw [hn] at hcmp; simp at hcmp
        · exact ⟨X, o, hid (by rw [hn]; simp)⟩
      have HXl : Hid (X.length = size) := hid (by have := HLNl.out; have e := HXO.out; rw [e] at hcmp this; simp at hcmp this; omega)
      go_region
      generalize w5.drew = w6 at HQ6 HF6 d0 d1 ⊢
      clear HQ5 HF5 d0 d1
      obtain ⟨nx, HNX⟩ : ∃ nx, Hid (X.length = nx) := ⟨_, rfl⟩
      have HLX : Hid (LN.length = nx + 1) := hid (by rw [HXO.out, ← HNX.out]; simp)
      have hsub : IntKind.i64.wrap ((LN.length : Int) - 1) = (nx : Int) := by have := HLX.out; rw [IntKind.wrap_i64]; omega
      have hnx : nx < LN.length := by rw [HLX.out]; omega
      have HQ7 : Hid (Rm w6.drew base b (.slice a4 LN.length c4) size LN h mi g) := hid (HQ6.out.below (below_drewN w6 1))
      have HF7 : Hid (Fr w w6.drew [b]) := hid HF6.out.drew
      have hget := (pv_get LN nx hnx).1
      rw [show LN.getD nx (0, 0) = o by rw [HXO.out, ← HNX.out]; simp [List.getD_eq_getElem?_getD]] at hget
      rcases HQ7.out.own.src with ⟨e, e0⟩ | ⟨gg, oo, c, e, hl7, hlt7, hc⟩
      · rw [e0] at hnx; simp at hnx
      injection e with e1 e2 e3
      subst e1
      have hcell := hc (2 * nx) _ hget
      rw [show oo + 2 * nx = oo + nx * 2 by omega] at hcell
      have d1 := HQ7.out.c1
      obtain ⟨ok, HOKK⟩ : ∃ ok, Hid (o.1 = ok) := ⟨_, rfl⟩
      rw [HOKK.out] at hcell
      clear hc e2 e3 hget HQ6 HF6
      go_upto_region 7 with fail
      go_region
      generalize w6.drew = w7 at HQ7 HF7 d1 hcell ⊢
      have hq7 := HQ7.out
      rw [HXO.out] at hq7
      have HWO := hid (rwithout_any X [] o hq7)
      rw [HNX.out, List.append_nil] at HWO
      clear hq7 hcell
      have d1 := HQ7.out.c1
      go_wp2_with fail
      refine HWO.out.mono ?_
      rintro e w8 ⟨v8, rfl, ho8, hb8⟩
      obtain ⟨a8, c8, hv8⟩ := ho8.shape
      have HQ8 := hid (HQ7.out.below hb8)
      have m1 := HQ8.out.c1
      have m2 := HQ8.out.fz 1
      have HKX : Hid ((X.map (·.1)).Nodup) := hid (by have := HKD.out; rw [HXO.out] at this; exact this.sublist (by simp))
      have HQ9 := hid (HQ8.out.set 1 v8 (ho8.lw (base' := base) HQ7.out.base_le) HKX.out (by rw [HNX.out]; omega) rfl)
      have HF9 := hid ((HF7.out.trans (Fr.of_below hb8 []) (by simp)).trans (Fr.set w8 b 1 v8) (by simp))
      subst hv8
      have g4 := HQ9.out.c4
      have k4 := HQ9.out.fz 4
      have HQ10 := hid (HQ9.out.set 4 (.int .i64 (wrap64 (g + 1))) HQ9.out.own HQ9.out.kd HQ9.out.le rfl)
      have HF10 := hid (HF9.out.trans (Fr.set _ b 4 (.int .i64 (wrap64 (g + 1)))) (by simp))
      have HEW : Hid (wentP size L k = some ok) := hid (by
        have h9 := HXO.out
        have h8 := HLNl.out
        rw [HWENT.out, if_pos (by have := HLX.out; have := HXl.out; have := HNX.out; omega)]
        rw [← HLN.out] at h9
        cases X with
        | nil => have := HXl.out; simp at this; omega
        | cons a X' =>
          have h7 : L1 = X' ++ [o] := by simpa using (List.cons.inj h9).2
          rw [h7, List.getLast?_concat, ← HOKK.out]; rfl)
      have HEP : Hid (putP size L k x = X) := hid (by
        rw [HPUT.out, show (k, x) :: L1 = LN from HLN.out, HXO.out, ← HXl.out, List.take_left])
      clear ho8 hb8
      go_wp2
      go_ret2
      rw [HEW.out, HEP.out]
      exact ⟨rfl, _, HQ10.out, HF10.out⟩
  | some y =>
    obtain ⟨A, B, hLe, hA, hB⟩ := look_split q.kd hlk
    have hq := q
    rw [hLe] at hq
    have HA := hid (rat_some A B k y hq hA)
    have HE : Hid (A ++ B = L1) := hid (by rw [← HL1.out, hLe, outP_split hA hB])
    have HWO := hid (rwithout_any A B (k, y) hq)
    have HKE : Hid (((A ++ B).map (·.1)).Nodup) := hid (hq.kd.sublist (by simp))
    have HLE : Hid ((A ++ B).length ≤ 8192) := hid (by have := hq.le; simp at this ⊢; omega)
    obtain ⟨n, HN⟩ : ∃ n, Hid (A.length = n) := ⟨_, rfl⟩
    rw [HN.out] at HA HWO
    have m1 := q.c1
    clear hq hLe hA hB hlk
    go_wp2_with fail
    refine HA.out.mono ?_
    rintro e w1 ⟨rfl, hw⟩
    have hws := hw.symm
    subst hws
    go_wp2_with fail
    refine HWO.out.mono ?_
    rintro e w8 ⟨v8, rfl, ho8, hb8⟩
    obtain ⟨a8, c8, hv8⟩ := ho8.shape
    have HQ8 := hid (q.below hb8)
    have m1 := HQ8.out.c1
    have m2 := HQ8.out.fz 1
    have hq2 := HQ8.out.set 1 v8 (ho8.lw (base' := base) q.base_le) HKE.out HLE.out rfl
    rw [HE.out] at hq2 hv8
    have HQ2 := hid hq2
    have HF2 := hid ((Fr.of_below hb8 [b]).trans (Fr.set w8 b 1 v8) (by simp))
    subst hv8
    clear hq2 ho8 hb8 q HA HWO
    go_upto_region 4 with fail
    try simp only [Act.put, List.setIfInBounds_toArray, List.set_cons_succ, List.set_cons_zero]
    generalize w8.setCell ⟨b, 1, none⟩ (.slice a8 L1.length c8) = w2 at HQ2 HF2 ⊢
    clear m1 m2 HQ8 HQ0 HE HKE HLE HN
    have c1 := HQ2.out.c1
    have HW3 := hid (below_walk w2 (.cells #[.int .i64 k, .int .i64 x] 59))
    have HO3 := hid (owns_pair w2 k x)
    have HQ3 := hid (HQ2.out.below HW3.out)
    have c1' := HQ3.out.c1
    have HSR3 := hid HQ3.out.own.src
    go_upto_region 5 with (first
      | (at_builtin; refine app_pairs (by rfl) _ _ rfl w2.heap.size _ [(k, x)] rfl HO3.out _ L1 rfl HSR3.out (by simp; omega) HW3.out.size ?_; intro v4 w4 ho4 hg4; obtain ⟨LN, HLN⟩ : ∃ LN, Hid ([(k, x)] ++ L1 = LN) := ⟨_, rfl⟩; rw [HLN.out] at ho4; have HO4 := hid ho4; have HB4 := hid (HW3.out.trans ((fr_own hg4).below HW3.out.size (ownP_low HO3.out))); have HQ4 := hid (HQ2.out.below HB4.out); have m1 := HQ4.out.c1; have m2 := HQ4.out.fz 1; obtain ⟨a4, c4, hv4⟩ := ho4.shape; subst hv4; clear ho4 hg4))
    try simp only [Act.put, List.setIfInBounds_toArray, List.set_cons_succ, List.set_cons_zero]
    have HLNl : Hid (LN.length = L1.length + 1) := hid (by rw [← HLN.out]; simp)
    have hLl : LN.length ≤ 8192 := by have := HLNl.out; omega
    have HKD : Hid ((LN.map (·.1)).Nodup) := hid (by rw [← HLN.out]; exact HOK.out)
    have HQ5 := hid (HQ4.out.set 1 (.slice a4 LN.length c4) (HO4.out.lw (base' := base) HQ2.out.base_le) HKD.out hLl rfl)
    have HF5 := hid ((HF2.out.trans (Fr.of_below HB4.out []) (by simp)).trans (Fr.set w4 b 1 (.slice a4 LN.length c4)) (by simp))
    generalize w4.setCell ⟨b, 1, none⟩ (.slice a4 LN.length c4) = w5 at HQ5 HF5 ⊢
    clear m1 m2 c1 c1' HQ4 HO4 HB4 HQ3 HO3 HW3 HSR3
    have HQ6 : Hid (Rm w5.drew base b (.slice a4 LN.length c4) size LN h mi g) := hid (HQ5.out.below (below_drewN w5 1))
    have HF6 : Hid (Fr w w5.drew [b]) := hid HF5.out.drew
    have d0 := HQ6.out.c0
    have d1 := HQ6.out.c1
    by_cases hcmp : LN.length ≤ size
    · go_region
      go_wp2
      go_ret2
      have e1 : wentP size L k = none := by rw [HWENT.out, if_neg (by have := HLNl.out; omega)]
      have e2 : putP size L k x = LN := by rw [HPUT.out, ← HLN.out]; exact List.take_of_length_le (by have := HLNl.out; rw [← HLN.out] at hcmp; simpa using hcmp)
      rw [e1, e2]
      exact ⟨rfl, _, HQ6.out, HF6.out⟩
    · obtain ⟨X, o, HXO⟩ : ∃ X o, Hid (LN = X ++ [o]) := by
        rcases List.eq_nil_or_concat LN with hn | ⟨X, o, hn⟩
        · rw [hn] at hcmp; simp at hcmp
        · exact ⟨X, o, hid (by rw [hn]; simp)⟩
      have HXl : Hid (X.length = size) := hid (by have := HLNl.out; have e := HXO.out; rw [e] at hcmp this; simp at hcmp this; omega)
      go_region
      generalize w5.drew = w6 at HQ6 HF6 d0 d1 ⊢
      clear HQ5 HF5 d0 d1
      obtain ⟨nx, HNX⟩ : ∃ nx, Hid (X.length = nx) := ⟨_, rfl⟩
      have HLX : Hid (LN.length = nx + 1) := hid (by rw [HXO.out, ← HNX.out]; simp)
      have hsub : IntKind.i64.wrap ((LN.length : Int) - 1) = (nx : Int) := by have := HLX.out; rw [IntKind.wrap_i64]; omega
      have hnx : nx < LN.length := by rw [HLX.out]; omega
      have HQ7 : Hid (Rm w6.drew base b (.slice a4 LN.length c4) size LN h mi g) := hid (HQ6.out.below (below_drewN w6 1))
      have HF7 : Hid (Fr w w6.drew [b]) := hid HF6.out.drew
      have hget := (pv_get LN nx hnx).1
      rw [show LN.getD nx (0, 0) = o by rw [HXO.out, ← HNX.out]; simp [List.getD_eq_getElem?_getD]] at hget
      rcases HQ7.out.own.src with ⟨e, e0⟩ | ⟨gg, oo, c, e, hl7, hlt7, hc⟩
      · rw [e0] at hnx; simp at hnx
      injection e with e1 e2 e3
      subst e1
      have hcell := hc (2 * nx) _ hget
      rw [show oo + 2 * nx = oo + nx * 2 by omega] at hcell
      have d1 := HQ7.out.c1
      obtain ⟨ok, HOKK⟩ : ∃ ok, Hid (o.1 = ok) := ⟨_, rfl⟩
      rw [HOKK.out] at hcell
      clear hc e2 e3 hget HQ6 HF6
      go_upto_region 7 with fail
      go_region
      generalize w6.drew = w7 at HQ7 HF7 d1 hcell ⊢
      have hq7 := HQ7.out
      rw [HXO.out] at hq7
      have HWO := hid (rwithout_any X [] o hq7)
      rw [HNX.out, List.append_nil] at HWO
      clear hq7 hcell
      have d1 := HQ7.out.c1
      go_wp2_with fail
      refine HWO.out.mono ?_
      rintro e w8 ⟨v8, rfl, ho8, hb8⟩
      obtain ⟨a8, c8, hv8⟩ := ho8.shape
      have HQ8 := hid (HQ7.out.below hb8)
      have m1 := HQ8.out.c1
      have m2 := HQ8.out.fz 1
      have HKX : Hid ((X.map (·.1)).Nodup) := hid (by have := HKD.out; rw [HXO.out] at this; exact this.sublist (by simp))
      have HQ9 := hid (HQ8.out.set 1 v8 (ho8.lw (base' := base) HQ7.out.base_le) HKX.out (by rw [HNX.out]; omega) rfl)
      have HF9 := hid ((HF7.out.trans (Fr.of_below hb8 []) (by simp)).trans (Fr.set w8 b 1 v8) (by simp))
      subst hv8
      have g4 := HQ9.out.c4
      have k4 := HQ9.out.fz 4
      have HQ10 := hid (HQ9.out.set 4 (.int .i64 (wrap64 (g + 1))) HQ9.out.own HQ9.out.kd HQ9.out.le rfl)
      have HF10 := hid (HF9.out.trans (Fr.set _ b 4 (.int .i64 (wrap64 (g + 1)))) (by simp))
      have HEW : Hid (wentP size L k = some ok) := hid (by
        have h9 := HXO.out
        have h8 := HLNl.out
        rw [HWENT.out, if_pos (by have := HLX.out; have := HXl.out; have := HNX.out; omega)]
        rw [← HLN.out] at h9
        cases X with
        | nil => have := HXl.out; simp at this; omega
        | cons a X' =>
          have h7 : L1 = X' ++ [o] := by simpa using (List.cons.inj h9).2
          rw [h7, List.getLast?_concat, ← HOKK.out]; rfl)
      have HEP : Hid (putP size L k x = X) := hid (by
        rw [HPUT.out, show (k, x) :: L1 = LN from HLN.out, HXO.out, ← HXl.out, List.take_left])
      clear ho8 hb8
      go_wp2
      go_ret2
      rw [HEW.out, HEP.out]
      exact ⟨rfl, _, HQ10.out, HF10.out⟩
end

end Go.Proofs.Ytnbbebapfiocpaa

/- The document's Drop, Resize, New; SameInts. -/
namespace Go.Proofs.Ytnbbebapfiocpaa
open Go.RowKit

section
variable {w w' : World} {base b size : Nat} {v : Value} {L : List (Int × Int)} {h mi g : Int}

set_option maxRecDepth 100000 in
set_option maxHeartbeats 4000000 in
theorem rdrop_any (q : Rm w base b v size L h mi g) (vk : Value) (ks : List Int) (hv : ∀ W, Below base w W → Ints W vk ks) :
    Calls Try.prog 35 #[pt b, vk] w fun e w' => e = .returned (.int .i64 ((L.length - (dropP L ks).length : Nat) : Int)) ∧
      ∃ v', Rm w' base b v' size (dropP L ks) h mi g ∧ Fr w w' [b] := by
  have hks := (hv w (Below.refl _ _)).1
  obtain ⟨ao, cv, rfl⟩ := (hv w (Below.refl _ _)).shape
  have HV := hid hv
  have HQ := hid q
  have hlm : L.length ≤ 8192 := q.le
  clear q hv
  go_enter Try.func35, Try.ntmps35
  go_wp2
  go_loopw [6, 5] (fun vi vn wr => ∃ (j : Nat) (v' : Value), j ≤ ks.length ∧ vi = .int .i64 j ∧ vn = .int .i64 ((L.length - (dropP L (ks.take j)).length : Nat) : Int) ∧ Hid (Rm wr base b v' size (dropP L (ks.take j)) h mi g) ∧ Hid (Fr w wr [b])) (fun vi _ _ => ks.length - (intOf vi).toNat)
  case atStart => exact ⟨0, v, by omega, rfl, by simp [dropP_nil], HQ, Fr.refl _ _⟩
  case round =>
    obtain ⟨j, v', hj, rfl, rfl, HQ', HFR⟩ := hrel
    by_cases hlt : j < ks.length
    · have HB := hid (HFR.out.below HQ.out.base_le (fun x hx => by simp at hx; subst hx; exact HQ.out.lo))
      obtain ⟨gk, ok, rfl, hkk, hj2, hc⟩ := (HV.out wr HB.out).at j hlt
      have hck := hc wr (Below.refl _ _)
      have HSTEP := hid (dropP_step L ks j hlt)
      have HLE := hid (dropP_len L (ks.take j))
      obtain ⟨k, HK⟩ : ∃ k, Hid (ks.getD j 0 = k) := ⟨_, rfl⟩
      rw [HK.out] at hck HSTEP
      obtain ⟨D, HD⟩ : ∃ D, Hid (dropP L (ks.take j) = D) := ⟨_, rfl⟩
      rw [HD.out] at HQ' HSTEP HLE ⊢
      obtain ⟨cn, HCN⟩ : ∃ cn : Nat, Hid (L.length - D.length = cn) := ⟨_, rfl⟩
      rw [HCN.out]
      have hcn : cn ≤ 8192 := by rw [← HCN.out]; omega
      clear hc hkk
      cases hlk : lookP D k with
      | none =>
        as_aux_lemma =>
          have HA := hid (rat_none HQ'.out k hlk)
          have HE : Hid (outP D k = D) := hid (outP_none (lookP_none.1 hlk))
          clear hlk
          go_wp2_with fail
          refine HA.out.mono ?_
          rintro e w3 ⟨rfl, hw3⟩
          subst hw3
          go_wp2
          exact ⟨⟨j + 1, v', hlt, by simp, by rw [HSTEP.out, HE.out, HCN.out], by rw [HSTEP.out, HE.out]; exact HQ', HFR⟩, by simp [intOf]; omega⟩
      | some y =>
        as_aux_lemma =>
          obtain ⟨A, B, hDe, hA, hB⟩ := look_split HQ'.out.kd hlk
          have hq := HQ'.out
          rw [hDe] at hq
          have HA := hid (rat_some A B k y hq hA)
          have HWO := hid (rwithout_any A B (k, y) hq)
          have HE : Hid (outP D k = A ++ B) := hid (by rw [hDe, outP_split hA hB])
          have HLN : Hid (D.length = (A ++ B).length + 1) := hid (by rw [hDe]; simp; omega)
          have HKE : Hid (((A ++ B).map (·.1)).Nodup) := hid (hq.kd.sublist (by simp))
          have HL8 : Hid ((A ++ B).length ≤ 8192) := hid (by have := hq.le; simp at this ⊢; omega)
          obtain ⟨n, HN⟩ : ∃ n, Hid (A.length = n) := ⟨_, rfl⟩
          rw [HN.out] at HA HWO
          clear hq hDe hA hB hlk
          go_wp2_with fail
          refine HA.out.mono ?_
          rintro e w3 ⟨rfl, hw3⟩
          subst hw3
          go_wp2_with fail
          refine HWO.out.mono ?_
          rintro e w8 ⟨v8, rfl, ho8, hb8⟩
          obtain ⟨a8, c8, hv8⟩ := ho8.shape
          have HQ8 := hid (HQ'.out.below hb8)
          have m1 := HQ8.out.c1
          have m2 := HQ8.out.fz 1
          have HQ9 := hid (HQ8.out.set 1 v8 (ho8.lw (base' := base) HQ'.out.base_le) HKE.out HL8.out rfl)
          have HF9 := hid ((HFR.out.trans (Fr.of_below hb8 []) (by simp)).trans (Fr.set w8 b 1 v8) (by simp))
          obtain ⟨AB, HAB⟩ : ∃ AB, Hid (A ++ B = AB) := ⟨_, rfl⟩
          rw [HAB.out] at hv8 HQ9 HE HLN
          subst hv8
          clear ho8 hb8
          go_wp2
          exact ⟨⟨j + 1, _, hlt, by simp, by rw [HSTEP.out, HE.out]; have := HLN.out; have := HCN.out; have := HLE.out; simp only [Value.int.injEq, true_and]; omega, by rw [HSTEP.out, HE.out]; exact HQ9, HF9⟩, by simp [intOf]; omega⟩
    · have hje : j = ks.length := by omega
      subst hje
      rw [List.take_length] at HQ' ⊢
      obtain ⟨cn, HCN⟩ : ∃ cn : Nat, Hid (L.length - (dropP L ks).length = cn) := ⟨_, rfl⟩
      rw [HCN.out]
      go_wp2
      go_ret
      exact ⟨by rw [HCN.out]; rfl, v', HQ'.out, HFR.out⟩

set_option maxRecDepth 100000 in
set_option maxHeartbeats 1000000 in
theorem sameInts_any (w : World) (b1 b2 : Nat) (va vb : Value) (xs : List Int) (ha : OwnI w b1 va xs) (hb : OwnI w b2 vb xs) (hl : xs.length ≤ 1000000) :
    Calls Try.prog 37 #[va, vb] w fun e w' => e = .returned (.bool true) ∧ Below w.heap.size w w' := by
  obtain ⟨aa, ca, rfl⟩ := ha.shape
  obtain ⟨ab, cb, rfl⟩ := hb.shape
  have HA := hid ha
  have HB := hid hb
  clear ha hb
  go_enter Try.func37, Try.ntmps37
  go_wp2
  go_loopw [5] (fun vi wr => ∃ j : Nat, j ≤ xs.length ∧ vi = .int .i64 j ∧ Hid (OwnI wr b1 (.slice aa xs.length ca) xs) ∧ Hid (OwnI wr b2 (.slice ab xs.length cb) xs) ∧ Hid (Below w.heap.size w wr)) (fun vi _ => xs.length - (intOf vi).toNat)
  case atStart => exact ⟨0, by omega, rfl, HA, HB, Below.refl _ _⟩
  case round =>
    clear HA HB
    obtain ⟨j, hj, rfl, HA, HB, HW⟩ := hrel
    by_cases hlt : j < xs.length
    · have bd : Below wr.heap.size wr wr.drew := ⟨rfl, rfl, rfl, Nat.le_refl _, fun _ _ => rfl⟩
      have HA2 := hid (HA.out.below bd)
      have HB2 := hid (HB.out.below bd)
      have HW2 := hid (HW.out.trans (bd.mono HW.out.size))
      obtain ⟨ga, rfl, _, h1⟩ := HA2.out.at j hlt
      obtain ⟨gb, rfl, _, h2⟩ := HB2.out.at j hlt
      generalize xs.getD j 0 = y at h1 h2
      clear bd
      go_upto_region 6 with fail
      go_region
      go_wp2
      exact ⟨⟨j + 1, hlt, by simp, HA2, HB2, HW2⟩, by simp [intOf]; omega⟩
    · go_wp2
      go_ret
      exact ⟨rfl, HW.out⟩

theorem results_cell2 {fn : Func} {p q : Tmp} {ty : TypeId} (h : fn.results = #[.cell p ty, .tmp q]) (tmps : Array Value) (P : Program) (w : World) :
    (results fn tmps).run P w = ((asAddr (tmps.getD p undef)).run P w).andThen fun a w₁ => ((loadVar ty a).run P w₁).andThen fun v w₂ => .ok (.tuple #[v, tmps.getD q undef]) w₂ := by
  simp only [results, h]
  simp [Sem.run_bind, Result.andThen]

theorem ret_row2 {P : Program} {fn : Func} {R : Ending → World → Prop} {a : Act} {w : World} (p q : Tmp) (ty : TypeId) (h : fn.results = #[.cell p ty, .tmp q]) (g : Nat) (hp : a.tmps.getD p undef = .pointer (some ⟨g, 0, none⟩))
    (cs : List Value) (t : TypeId) (hb : w.heap[g]? = some (.cells cs.toArray t (0, 0))) (d : TypeDesc) (hu : P.underlying ty = some d) (hd : d.isRow = true) (hi : (P.info? ty).map (·.size) = some cs.length)
    (v : Value) (hq : a.tmps.getD q undef = v) (hdf : a.defers = []) (hR : R (.returned (.tuple #[.agg cs.toArray, v])) w) : bodyPost P fn R .ret a w := by
  refine bodyPost_ret (v := .tuple #[.agg cs.toArray, v]) ?_ hdf hR
  rw [results_cell2 h, hp, hq]
  have := run_loadVar_mid (P := P) w g 0 ty cs d (fun j v hv => by rw [Nat.zero_add, cell_of_row w g j cs.toArray t (0, 0) hb]; simpa using hv) hu hd hi
  simp [asAddr, this]

theorem Try.infoMemo : (Try.prog.info? 31).map (fun i => (i.zero, i.size)) = some (some (.agg #[.int .i64 0, .slice none 0 0, .int .i64 0, .int .i64 0, .int .i64 0]), 5) := by kernel_rfl

set_option maxRecDepth 100000 in
set_option maxHeartbeats 1000000 in
theorem rnew_ok (w : World) (p : Nat) (h1 : 1 ≤ p) (h2 : p ≤ 4096) :
    Calls Try.prog 10 #[.int .i64 p] w fun e w' => e = .returned (.tuple #[.agg #[.int .i64 p, .slice none 0 0, .int .i64 0, .int .i64 0, .int .i64 0], .int .i64 0]) ∧ Below w.heap.size w w' := by
  obtain ⟨z, s⟩ := zero_of_info Try.infoMemo
  have HS := hid s
  have k1 : ¬ (p : Int) < 1 := by omega
  have k2 : ¬ 4096 < (p : Int) := by omega
  clear s
  go_enter Try.func10, Try.ntmps10
  go_wp2_with (first | (refine al_row rfl 31 rfl _ z ?_) | (refine st_new rfl 31 (.tmp 2) (.tmp 12) rfl [.int .i64 p, .slice none 0 0, .int .i64 0, .int .i64 0, .int .i64 0] rfl rfl _ _ HS.out rfl (by simp [Value.oneCell']) ?_))
  refine ret_row2 2 3 31 rfl w.heap.size rfl [.int .i64 p, .slice none 0 0, .int .i64 0, .int .i64 0, .int .i64 0] 31 (hp_new w _) _ Try.underlying31 rfl HS.out (.int .i64 0) rfl rfl ⟨rfl, below_walk w _⟩

set_option maxRecDepth 100000 in
set_option maxHeartbeats 1000000 in
theorem rnew_bad (w : World) (p : Int) (hp : p < 1 ∨ 4096 < p) :
    Calls Try.prog 10 #[.int .i64 p] w fun e w' => e = .returned (.tuple #[.agg #[.int .i64 0, .slice none 0 0, .int .i64 0, .int .i64 0, .int .i64 0], .int .i64 1]) ∧ Below w.heap.size w w' := by
  obtain ⟨z, s⟩ := zero_of_info Try.infoMemo
  have HS := hid s
  clear s
  rcases hp with hp | hp
  all_goals
    try have hp2 : ¬ p < 1 := by omega
    go_enter Try.func10, Try.ntmps10
    go_wp2_with (first | (refine al_row rfl 31 rfl _ z ?_) | (refine st_new rfl 31 (.tmp 2) (.tmp 10) rfl [.int .i64 0, .slice none 0 0, .int .i64 0, .int .i64 0, .int .i64 0] rfl rfl _ _ HS.out rfl (by simp [Value.oneCell']) ?_))
    refine ret_row2 2 3 31 rfl w.heap.size rfl [.int .i64 0, .slice none 0 0, .int .i64 0, .int .i64 0, .int .i64 0] 31 (hp_new w _) _ Try.underlying31 rfl HS.out (.int .i64 1) rfl rfl ⟨rfl, below_walk w _⟩
end

end Go.Proofs.Ytnbbebapfiocpaa

/- The document's Resize. -/
namespace Go.Proofs.Ytnbbebapfiocpaa
open Go.RowKit

/-- append of one number, as one step of a region that draws its order -/
theorem step_app_one {ops : Array Oper} {o : Oper} {act : Act} {w : World} {K : Act → World → Prop} {Q : Exit → Act → World → Prop} {E : Prop} (hgd : o.guard = none) (s x : Operand)
    (ho : o.op = .call { callee := .builtin .append, args := #[s, x], argTypes := #[35, 35] })
    (base : Nat) (v : Value) (xs : List Int) (hs : act.eval s = v) (hown : OwnI w base v xs) (b : Nat) (y : Int) (hx : act.eval x = .slice (some ⟨b, 0, none⟩) 1 1) (hb : w.cell? ⟨b, 0, none⟩ = some (.int .i64 y))
    (hlen : xs.length ≤ 1000000000000) (hbase : base ≤ w.heap.size)
    (h : ∀ v' w', OwnI w' base v' (xs ++ [y]) → w.grownBy w' v.ownBlock → K (act.put o.dst v') w') :
    if Region.wanted o (yielded ops act.tmps) = true then Oper.wp Try.prog o act w K Q else E := by
  have hw : Region.wanted o (yielded ops act.tmps) = true := by simp [Region.wanted, hgd]
  rw [if_pos hw]
  obtain ⟨i0, hi, hz0, hz1, hz2⟩ := info_parts Try.infoInt
  obtain ⟨v', w', hr, h1, h2, _⟩ := run_append_own (P := Try.prog) w base 35 o.type 3 i0 (.int .i64 0) 1 8 Try.underlying35 hi hz0 hz1 hz2 rfl (by decide) v xs.length _ hown ⟨b, 0, none⟩ 1 1 [.int .i64 y] rfl (fun j u hu => by
    cases j with
    | zero => simp at hu; subst hu; simpa [Addr.add] using hb
    | succ j => simp at hu) (fun u hu => by simp at hu; subst hu; rfl) (by unfold maxLen; omega) (by omega) hbase
  unfold Oper.wp
  simp [execOp, ho, resolve, invoke, builtin, hs, hx, hr, Result.andThen]
  exact h v' w' (by unfold OwnI; simpa using h1) h2

theorem Rm.farI {w : World} {base base' b size : Nat} {v vo : Value} {L : List (Int × Int)} {h mi g : Int} {xs : List Int} (q : Rm w base b v size L h mi g) (o : OwnI w base' vo xs) :
    (∀ k, vo.ownBlock = some k → k ≠ b) ∧ ∀ k k', v.ownBlock = some k → vo.ownBlock = some k' → k ≠ k' := by
  refine ⟨fun k hk e => ?_, fun k k' hk hk' e => ?_⟩
  · obtain ⟨cur, h1, _⟩ := o.typ hk
    rw [e, q.blk] at h1
    injection h1 with h1; injection h1 with _ e _; exact absurd e (by decide)
  · obtain ⟨cur, h1, _⟩ := o.typ hk'
    obtain ⟨cur2, h2, _⟩ := q.own.typ hk
    rw [e, h1] at h2
    injection h2 with h2; injection h2 with _ e _; exact absurd e (by decide)

section
variable {w w' : World} {base b size : Nat} {v : Value} {L : List (Int × Int)} {h mi g : Int}

set_option maxRecDepth 100000 in
set_option maxHeartbeats 1000000 in
theorem rresize_bad (w : World) (b : Nat) (p : Int) (hp : p < 1 ∨ 4096 < p) :
    Calls Try.prog 36 #[pt b, .int .i64 p] w fun e w' => e = .returned (.tuple #[.slice none 0 0, .int .i64 1]) ∧ w' = w := by
  rcases hp with hp | hp
  all_goals
    try have hp2 : ¬ p < 1 := by omega
    go_enter Try.func36, Try.ntmps36
    go_wp2
    go_ret2
    exact ⟨rfl, rfl⟩

set_option maxRecDepth 100000 in
set_option maxHeartbeats 4000000 in
theorem rresize_any (q : Rm w base b v size L h mi g) (p : Nat) (p1 : 1 ≤ p) (p2 : p ≤ 4096) :
    Calls Try.prog 36 #[pt b, .int .i64 p] w fun e w' => ∃ vg, e = .returned (.tuple #[vg, .int .i64 0]) ∧ OwnI w' w.heap.size vg (wentL L p) ∧
      ∃ v', Rm w' base b v' p (L.take p) h mi (incN g (L.length - p)) ∧ Fr w w' [b] := by
  have c0 := q.c0
  have f0 := q.fz 0
  have HQ0 := hid (q.set 0 (.int .i64 p) q.own q.kd q.le (size' := p) rfl)
  have hL8 : L.length ≤ 8192 := q.le
  have k1 : ¬ (p : Int) < 1 := by omega
  have k2 : ¬ 4096 < (p : Int) := by omega
  have HLO := hid q.lo
  clear q
  go_enter Try.func36, Try.ntmps36
  go_wp2
  have HF0 := hid (Fr.set w b 0 (.int .i64 p))
  go_loopw [6] (fun vg wr => ∃ (i : Nat) (v' : Value), i ≤ L.length ∧ (p ≤ i ∨ i = L.length) ∧ Hid (Rm wr base b v' p (L.take i) h mi (incN g (L.length - i))) ∧ Hid (OwnI wr w.heap.size vg (((L.drop i).reverse).map (·.1))) ∧ Hid (Fr w wr [b])) (fun vg _ => L.length - lenOf vg)
  case atStart => exact ⟨L.length, v, Nat.le_refl _, Or.inr rfl, by rw [List.take_length, Nat.sub_self]; exact HQ0, by rw [List.drop_length]; exact OwnI.nil _ _, HF0⟩
  case round =>
    clear HQ0 HF0 c0 f0
    obtain ⟨i, v', hi, hpi, HQ', HO, HFR⟩ := hrel
    obtain ⟨av, cvv, hv'⟩ := HQ'.out.own.shape
    rw [List.length_take_of_le hi] at hv'
    subst hv'
    have c1 := HQ'.out.c1
    by_cases hlt : p < i
    · obtain ⟨x, hx1, hx2⟩ := take_last L i (by omega) hi
      obtain ⟨nx, hnx⟩ : ∃ nx, i = nx + 1 := ⟨i - 1, by omega⟩
      have hlti : (p : Int) < (i : Int) := by omega
      have bd : Below wr.heap.size wr wr.drew := ⟨rfl, rfl, rfl, Nat.le_refl _, fun _ _ => rfl⟩
      have hlo := HO.out.shape
      obtain ⟨OS, HOS⟩ : ∃ OS, Hid (((L.drop i).reverse).map (·.1) = OS) := ⟨_, rfl⟩
      rw [HOS.out] at HO hlo
      obtain ⟨ao, co, rfl⟩ := hlo
      have HOL : Hid (OS.length = L.length - i) := hid (by rw [← HOS.out]; simp)
      have HX2 := hid hx2
      obtain ⟨κ, HK⟩ : ∃ κ, Hid (x.1 = κ) := ⟨_, rfl⟩
      have hget := (pv_get (L.take i) nx (by rw [List.length_take_of_le hi]; omega)).1
      rw [show (L.take i).getD nx (0, 0) = x by
        have hl0 : (L.take (i - 1)).length = nx := by rw [List.length_take_of_le (by omega)]; omega
        rw [hx1, List.getD_eq_getElem?_getD, List.getElem?_append_right (by omega), hl0]; simp, HK.out] at hget
      have hq := HQ'.out
      rw [hx1] at hq
      have hlx : (L.take (i - 1)).length = nx := by rw [List.length_take_of_le (by omega)]; omega
      have HKX : Hid (((L.take (i - 1)).map (·.1)).Nodup) := hid (hq.kd.sublist (by simp))
      have HLX := hid hlx
      have HX1 := hid hx1
      have HNX := hid hnx
      have hsub : IntKind.i64.wrap ((i : Int) - 1) = (nx : Int) := by rw [IntKind.wrap_i64]; omega
      have hnxi : nx < i := by omega
      rcases HQ'.out.own.src with ⟨e, e0⟩ | ⟨gg, oo, c, e, hl7, hlt7, hc⟩
      · rw [hx1] at e0; simp at e0
      injection e with e1 e2 e3
      subst e1
      have hcell := hc (2 * nx) _ hget
      rw [show oo + 2 * nx = oo + nx * 2 by omega] at hcell
      have hcd : wr.drew.cell? ⟨gg, oo + nx * 2, none⟩ = some (.int .i64 κ) := hcell
      have c1d : wr.drew.cell? ⟨b, 1, none⟩ = some (.slice (some ⟨gg, oo, none⟩) i cvv) := c1
      have ba : Below wr.heap.size wr (wr.alloc (.cells #[.int .i64 κ] 3)).drew := by
        have h := below_walk wr (.cells #[.int .i64 κ] 3)
        exact ⟨h.os, h.tape, h.output, h.size, h.block⟩
      have HBA := hid ba
      have HOA := hid (HO.out.below ba)
      have HCA : Hid ((wr.alloc (.cells #[.int .i64 κ] 3)).drew.cell? ⟨wr.heap.size, 0, none⟩ = some (.int .i64 κ)) := hid (by
        show (wr.alloc (.cells #[.int .i64 κ] 3)).cell? ⟨wr.heap.size, 0, none⟩ = _
        unfold World.cell?; rw [hp_new]; rfl)
      have HSZ := hid (Nat.le_trans HFR.out.size ba.size)
      have hOS8 : OS.length ≤ 8192 := by rw [HOL.out]; omega
      clear hx1 hx2 hnx hlx hget hc e2 e3 hcell bd ba hq
      go_upto_region 6 with fail
      go_region_law ((refine step_app_one (by rfl) (.tmp 24) (.tmp 38) (by rfl) w.heap.size (.slice ao OS.length co) OS (by rfl) (by exact HOA.out) wr.heap.size κ (by rfl) (by exact HCA.out) (by omega) (by exact HSZ.out) ?_; intro v6 w6 ho6 hg6; obtain ⟨O6, HE6⟩ : ∃ O6, Hid (OS ++ [κ] = O6) := ⟨_, rfl⟩; rw [HE6.out] at ho6; have HO6 := hid ho6; have HF6 := hid (((Fr.of_below HBA.out (ownL (.slice ao OS.length co))).trans ⟨hg6.os, hg6.tape, hg6.output, hg6.size, fun q hq hn => hg6.block q hq (fun e => hn (by unfold ownL; rw [← e]; simp))⟩ (fun q hq => Or.inl hq))); obtain ⟨a6, c6, hv6⟩ := ho6.shape; subst hv6; clear ho6 hg6))
      all_goals
        try simp only [Act.put, List.setIfInBounds_toArray]
        have HQ6 : Hid (Rm w6 base b (.slice (some ⟨gg, oo, none⟩) i cvv) p (L.take i) h mi (incN g (L.length - i))) := hid (HQ'.out.fr HF6.out (fun e => own_far (F := [b]) (fun k hk e => (HQ'.out.farI HO.out).1 k hk (by simpa using e)) b (by simp) e) (fun q hq e => by
          unfold ownL at e
          cases hv : (Value.slice ao OS.length co).ownBlock with
          | none => rw [hv] at e; cases e
          | some q' => rw [hv] at e; simp at e; exact (HQ'.out.farI HO.out).2 q q' hq hv e))
        have HF6w : Hid (Fr w w6 [b]) := hid (HFR.out.trans HF6.out (fun q hq => Or.inr (own_low HO.out q hq)))
        have hq6 := HQ6.out
        rw [HX1.out] at hq6
        have HWO := hid (rwithout_any (L.take (i - 1)) [] x hq6)
        rw [HLX.out, List.append_nil] at HWO
        have d1 := HQ6.out.c1
        clear hq6 hcd c1d c1
        go_wp2_with fail
        refine HWO.out.mono ?_
        rintro e w8 ⟨v8, rfl, ho8, hb8⟩
        obtain ⟨a8, c8, hv8⟩ := ho8.shape
        have HQ8 := hid (HQ6.out.below hb8)
        have m1 := HQ8.out.c1
        have m2 := HQ8.out.fz 1
        have HQ9 := hid (HQ8.out.set 1 v8 (ho8.lw (base' := base) HQ6.out.base_le) HKX.out (by rw [HLX.out]; omega) rfl)
        have HF9 := hid ((HF6w.out.trans (Fr.of_below hb8 []) (by simp)).trans (Fr.set w8 b 1 v8) (by simp))
        have HO9 := hid ((HO6.out.below hb8).fr (Fr.set w8 b 1 v8) (fun q hq e => by simp at e; exact (HQ8.out.farI (HO6.out.below hb8)).1 q hq e))
        rw [HLX.out] at hv8
        subst hv8
        have g4 := HQ9.out.c4
        have k4 := HQ9.out.fz 4
        obtain ⟨gg1, HGG⟩ : ∃ gg1, Hid (incN g (L.length - i) = gg1) := ⟨_, rfl⟩
        rw [HGG.out] at g4 HQ9
        have HQ10 := hid (HQ9.out.set 4 (.int .i64 (wrap64 (gg1 + 1))) HQ9.out.own HQ9.out.kd HQ9.out.le rfl)
        have HF10 := hid (HF9.out.trans (Fr.set _ b 4 (.int .i64 (wrap64 (gg1 + 1)))) (by simp))
        have HO10 := hid (HO9.out.fr (Fr.set _ b 4 (.int .i64 (wrap64 (gg1 + 1)))) (fun q hq e => by simp at e; exact (HQ9.out.farI HO9.out).1 q hq e))
        clear ho8 hb8
        go_wp2
        refine ⟨⟨i - 1, .slice a8 nx c8, by omega, Or.inl (by omega), ?_, ?_, HF10⟩, ?_⟩
        · rw [show incN g (L.length - (i - 1)) = wrap64 (gg1 + 1) by rw [show L.length - (i - 1) = (L.length - i) + 1 by omega, ← HGG.out]; rfl]
          exact HQ10
        · rw [show ((L.drop (i - 1)).reverse).map (·.1) = O6 by rw [HX2.out, ← HE6.out, ← HOS.out, ← HK.out]; simp]
          exact HO10
        · have := HOL.out; have := HE6.out; simp [lenOf]; rw [← HE6.out]; simp; omega
    · have hlt' : ¬ (p : Int) < (i : Int) := by omega
      obtain ⟨ao, co, rfl⟩ := HO.out.shape
      have e1 : L.take i = L.take p := by
        rcases hpi with h | h
        · rw [show i = p by omega]
        · rw [List.take_of_length_le (by omega), List.take_of_length_le (by omega)]
      have e2 : L.drop i = L.drop p := by
        rcases hpi with h | h
        · rw [show i = p by omega]
        · rw [List.drop_eq_nil_of_le (by omega), List.drop_eq_nil_of_le (by omega)]
      have e3 : L.length - i = L.length - p := by omega
      obtain ⟨OL, HOL⟩ : ∃ OL, Hid ((List.map (fun x : Int × Int => x.1) (List.drop i L).reverse).length = OL) := ⟨_, rfl⟩
      rw [HOL.out] at HO ⊢
      have HE1 := hid e1
      have HE2 := hid e2
      have HE3 := hid e3
      clear e1 e2 e3
      go_wp2
      go_ret2
      refine ⟨_, rfl, ?_, ⟨.slice av i cvv, ?_⟩, HFR.out⟩
      · have := HO.out
        rw [HE2.out] at this
        exact this
      · have := HQ'.out
        rw [HE1.out, HE3.out] at this
        exact this
end

end Go.Proofs.Ytnbbebapfiocpaa

/- does: a memo and the document's answer a call alike. -/
namespace Go.Proofs.Ytnbbebapfiocpaa
open Go.RowKit

/-- a memo of the program's and one of the document's that stand alike -/
structure Du (w : World) (base m b most : Nat) (L : List (Int × Int)) (h mi g : Int) (F : List Nat) (v : Value) : Prop where
  p : iMo w base m most L h mi g F
  r : Rm w base b v most L h mi g

/-- what a call of both keeps -/
def Ds (w w' : World) (b : Nat) (F F' : List Nat) : Prop := Fr w w' (b :: F) ∧ ∀ y ∈ F', y ∈ F ∨ w.heap.size ≤ y

section
variable {w w' : World} {base m b most : Nat} {L : List (Int × Int)} {h mi g : Int} {F : List Nat} {v : Value}
theorem Du.out (q : Du w base m b most L h mi g F v) : b ∉ F := q.p.typ q.r.blk (by decide) (by decide)
theorem Du.row (q : Du w base m b most L h mi g F v) : ∀ k, v.ownBlock = some k → k ∉ F := fun k hk => by
  obtain ⟨cur, h1, _⟩ := q.r.own.typ hk
  exact q.p.typ h1 (by decide) (by decide)
theorem Du.below (q : Du w base m b most L h mi g F v) (s : Below w.heap.size w w') : Du w' base m b most L h mi g F v := ⟨q.p.below s, q.r.below s⟩
/-- the program's memo goes a step -/
theorem Du.stepP (q : Du w base m b most L h mi g F v) {F' : List Nat} (s : St w w' F F') : Rm w' base b v most L h mi g := q.r.fr s.1 q.out q.row
theorem ds_mk {w1 w2 : World} {F' : List Nat} (s : St w w1 F F') (r : Fr w1 w2 [b]) : Ds w w2 b F F' :=
  ⟨(s.1.mono (G := b :: F) (fun k hk => Or.inl (by simp [hk]))).trans r (by simp), s.2⟩
theorem Du.low {F' : List Nat} (q : Du w base m b most L h mi g F v) (s : Ds w w' b F F') : Below base w w' := s.1.below q.p.base_le (fun k hk => by
  rcases List.mem_cons.1 hk with rfl | hk
  · exact q.r.lo
  · exact q.p.lo k hk)

set_option maxRecDepth 100000 in
set_option maxHeartbeats 4000000 in
theorem does_any (q : Du w base m b most L h mi g F v) (d k x : Int) (vp : Value) (ks : List Int) (hk : iKok k) (hv : ∀ W, Below base w W → Ints W vp ks) :
    Calls Try.prog 13 #[pt m, pt b, .agg #[.int .i64 d, .int .i64 k, .int .i64 x, vp]] w fun e w' => e = .returned (.bool true) ∧
      ∃ most' L' h' mi' g' F' v', Du w' base m b most' L' h' mi' g' F' v' ∧ Ds w w' b F F' := by
  have HQ0 := hid q
  have HK := hid hk
  have HV := hid hv
  obtain ⟨an, cn, hvp⟩ := (hv w (Below.refl _ _)).shape
  subst hvp
  have hb1 := below_walk w (.cells #[.int .i64 d, .int .i64 k, .int .i64 x, .slice an ks.length cn] 37)
  have HQ := hid (q.below hb1)
  have HB1 := hid hb1
  have hnw := hp_new w (.cells #[.int .i64 d, .int .i64 k, .int .i64 x, .slice an ks.length cn] 37)
  have HNW := hid hnw
  clear q hk hv hb1 hnw
  go_enter Try.func13, Try.ntmps13
  go_upto_region 1 with (first | (refine bx_row rfl 37 (.tmp 2) rfl #[.int .i64 d, .int .i64 k, .int .i64 x, .slice an ks.length cn] rfl ?_))
  try simp only [Act.put, List.setIfInBounds_toArray, List.set_cons_succ, List.set_cons_zero]
  have HSZ : Hid (base ≤ w.heap.size) := hid HQ0.out.p.base_le
  have d0 : (w.alloc (.cells #[.int .i64 d, .int .i64 k, .int .i64 x, .slice an ks.length cn] 37)).cell? ⟨w.heap.size, 0, none⟩ = some (.int .i64 d) := (cell_of_row _ _ 0 _ _ _ HNW.out).trans rfl
  have d1 : (w.alloc (.cells #[.int .i64 d, .int .i64 k, .int .i64 x, .slice an ks.length cn] 37)).cell? ⟨w.heap.size, 1, none⟩ = some (.int .i64 k) := (cell_of_row _ _ 1 _ _ _ HNW.out).trans rfl
  have d2 : (w.alloc (.cells #[.int .i64 d, .int .i64 k, .int .i64 x, .slice an ks.length cn] 37)).cell? ⟨w.heap.size, 2, none⟩ = some (.int .i64 x) := (cell_of_row _ _ 2 _ _ _ HNW.out).trans rfl
  have d3 : (w.alloc (.cells #[.int .i64 d, .int .i64 k, .int .i64 x, .slice an ks.length cn] 37)).cell? ⟨w.heap.size, 3, none⟩ = some (.slice an ks.length cn) := (cell_of_row _ _ 3 _ _ _ HNW.out).trans rfl
  generalize w.alloc (.cells #[.int .i64 d, .int .i64 k, .int .i64 x, .slice an ks.length cn] 37) = w1 at HQ HB1 HNW d0 d1 d2 d3 ⊢
  obtain ⟨ba, HBA⟩ : ∃ ba, Hid (w.heap.size = ba) := ⟨_, rfl⟩
  rw [HBA.out] at HNW d0 d1 d2 d3 ⊢
  have HAF : Hid (ba ∉ F) := hid (fun e => by have := HQ0.out.p.lts _ e; have := HBA.out; omega)
  have HAB : Hid (ba ≠ b) := hid (fun e => by have := HQ0.out.r.lt; have := HBA.out; omega)
  have DS0 : Hid (∀ (W : World) (F' : List Nat), Ds w1 W b F F' → Ds w W b F F') := hid (fun W F' s => ⟨(Fr.of_below HB1.out (b :: F)).trans s.1 (fun y hy => Or.inl hy), fun y hy => by
    rcases s.2 y hy with h | h
    · exact Or.inl h
    · exact Or.inr (Nat.le_trans HB1.out.size h)⟩)
  rcases kind6 d with hK | hK | hK | hK | hK | hK
  · as_aux_lemma =>
      have HG := hid (iget_mo HQ.out.p k HK.out)
      go_wp2_with fail
      refine HG.out.mono ?_
      rintro e w2 ⟨rfl, F2, q2, s2⟩
      have HP2 := hid q2
      have HS2 := hid s2
      have HR2 := hid (HQ.out.stepP s2)
      have HG2 := hid (rget_any HR2.out k)
      have e1 : w2.cell? ⟨ba, 1, none⟩ = some (.int .i64 k) := (World.cell?_of_block (s2.1.block ba (hp_lt HNW.out) HAF.out)).trans d1
      obtain ⟨o, HO⟩ : ∃ o, Hid (lookP L k = o) := ⟨_, rfl⟩
      rw [HO.out] at HG2 HP2 ⊢
      clear q2 s2 d0 d1 d2 d3 HG
      go_wp2_with fail
      refine HG2.out.mono ?_
      rintro e w3 ⟨rfl, v3, r3, f3⟩
      have HD : Hid (∃ most' L' h' mi' g' F' v', Du w3 base m b most' L' h' mi' g' F' v' ∧ Ds w w3 b F F') := hid ⟨_, _, _, _, _, _, _, ⟨HP2.out.fr f3 (fun y hy e => by simp at e; subst e; exact HP2.out.typ HR2.out.blk (by decide) (by decide) hy), r3⟩, DS0.out _ _ (ds_mk HS2.out f3)⟩
      clear r3 f3 HG2 e1
      go_wp2
      go_ret
      exact ⟨rfl, HD.out⟩
  · as_aux_lemma =>
      have HG := hid (ilook_mo HQ.out.p k HK.out)
      go_wp2_with fail
      refine HG.out.mono ?_
      rintro e w2 ⟨rfl, b2⟩
      have HQ2 := hid (HQ.out.below b2)
      have HG2 := hid (rlook_any HQ2.out.r k)
      have e1 : w2.cell? ⟨ba, 1, none⟩ = some (.int .i64 k) := (b2.cell (p := ⟨ba, 1, none⟩) (hp_lt HNW.out)).trans d1
      obtain ⟨o, HO⟩ : ∃ o, Hid (lookP L k = o) := ⟨_, rfl⟩
      rw [HO.out] at HG2 ⊢
      have HD : Hid (∃ most' L' h' mi' g' F' v', Du w2 base m b most' L' h' mi' g' F' v' ∧ Ds w w2 b F F') := hid ⟨_, _, _, _, _, F, _, HQ2.out, DS0.out _ _ ⟨Fr.of_below b2 _, fun y hy => Or.inl hy⟩⟩
      clear b2 d0 d1 d2 d3 HG
      go_wp2_with fail
      refine HG2.out.mono ?_
      rintro e w3 ⟨rfl, hw3⟩
      subst hw3
      go_wp2
      go_ret
      exact ⟨rfl, HD.out⟩
  · as_aux_lemma =>
      have HG := hid (iput_mo HQ.out.p k HK.out x)
      have h1 := HQ.out.p.one
      have h2 := HQ.out.p.big
      have h3 := HQ.out.p.le
      go_wp2_with fail
      refine HG.out.mono ?_
      rintro e w2 ⟨rfl, F2, q2, s2⟩
      have HP2 := hid q2
      have HS2 := hid s2
      have HR2 := hid (HQ.out.stepP s2)
      have HG2 := hid (rput_any HR2.out k x h1 h2 h3)
      have e1 : w2.cell? ⟨ba, 1, none⟩ = some (.int .i64 k) := (World.cell?_of_block (s2.1.block ba (hp_lt HNW.out) HAF.out)).trans d1
      have e2 : w2.cell? ⟨ba, 2, none⟩ = some (.int .i64 x) := (World.cell?_of_block (s2.1.block ba (hp_lt HNW.out) HAF.out)).trans d2
      obtain ⟨o, HO⟩ : ∃ o, Hid (wentP most L k = o) := ⟨_, rfl⟩
      rw [HO.out] at HG2 HP2 ⊢
      rw [show ikV (o.getD ik0) = .int .i64 (o.getD 0) from rfl]
      clear q2 s2 d0 d1 d2 d3 HG h1 h2 h3
      go_wp2_with fail
      refine HG2.out.mono ?_
      rintro e w3 ⟨rfl, v3, r3, f3⟩
      have HD : Hid (∃ most' L' h' mi' g' F' v', Du w3 base m b most' L' h' mi' g' F' v' ∧ Ds w w3 b F F') := hid ⟨_, _, _, _, _, _, _, ⟨HP2.out.fr f3 (fun y hy e => by simp at e; subst e; exact HP2.out.typ HR2.out.blk (by decide) (by decide) hy), r3⟩, DS0.out _ _ (ds_mk HS2.out f3)⟩
      clear r3 f3 HG2 e1 e2
      go_wp2
      go_ret
      exact ⟨rfl, HD.out⟩
  · as_aux_lemma =>
      have bd : Below w1.heap.size w1 w1.drew := ⟨rfl, rfl, rfl, Nat.le_refl _, fun _ _ => rfl⟩
      have bdb : Below base w1 w1.drew := ⟨rfl, rfl, rfl, Nat.le_refl _, fun _ _ => rfl⟩
      have HQD := hid (HQ.out.below bd)
      have HVD : Hid (∀ W, Below base w1.drew W → Ints W (.slice an ks.length cn) ks) := hid (fun W hW => HV.out W ((HB1.out.mono HSZ.out).trans (bdb.trans hW)))
      have HG := hid (idrop_mo HQD.out.p (.slice an ks.length cn) ks HVD.out)
      obtain ⟨C, HC⟩ : ∃ C : Nat, Hid (L.length - (dropP L ks).length = C) := ⟨_, rfl⟩
      rw [HC.out] at HG
      have n1 : w1.drew.cell? ⟨ba, 3, none⟩ = some (.slice an ks.length cn) := d3
      have HLT := hid (hp_lt HNW.out)
      have HBD := hid bd
      clear bd bdb d1 d2
      go_upto_region 15 with fail
      go_region_held_law (fun W => W.cell? ⟨ba, 3, none⟩ = some (.slice an ks.length cn)) (first | go_keep | exact n1 | exact n2 | exact n3) (first
        | (go_at_call 19; refine HG.out.mono ?_; rintro e w2 ⟨rfl, F2, q2, s2⟩; have HP2 := hid q2; have HS2 := hid s2; have HR2 := hid (HQD.out.stepP s2); have HG2 := hid (rdrop_any HR2.out (.slice an ks.length cn) ks (fun W hW => HVD.out W ((HQD.out.p.low s2).trans hW))); rw [HC.out] at HG2; have n2 : w2.cell? ⟨ba, 3, none⟩ = some (.slice an ks.length cn) := (World.cell?_of_block (s2.1.block ba HLT.out HAF.out)).trans n1; clear q2 s2)
        | (go_at_call 35; refine HG2.out.mono ?_; rintro e w3 ⟨rfl, v3, r3, f3⟩; have HD : Hid (∃ most' L' h' mi' g' F' v', Du w3 base m b most' L' h' mi' g' F' v' ∧ Ds w w3 b F F') := hid ⟨_, _, _, _, _, _, _, ⟨HP2.out.fr f3 (fun y hy e => by simp at e; subst e; exact HP2.out.typ HR2.out.blk (by decide) (by decide) hy), r3⟩, DS0.out _ _ (ds_mk (St.trans (St.of_below HBD.out F) HS2.out) f3)⟩; have n3 : w3.cell? ⟨ba, 3, none⟩ = some (.slice an ks.length cn) := (World.cell?_of_block (f3.block ba (Nat.lt_of_lt_of_le HLT.out HS2.out.1.size) (by simpa using HAB.out))).trans n2; clear r3 f3))
      all_goals
        go_wp2
        go_ret
        exact ⟨rfl, HD.out⟩
  · as_aux_lemma =>
      by_cases hxr : x < 1 ∨ 4096 < x
      · have HG := hid (iresize_bad HQ.out.p x hxr)
        have HG2 := hid (rresize_bad w1 b x hxr)
        have HSI := hid (sameInts_any w1 0 0 (.slice none 0 0) (.slice none 0 0) [] (OwnI.nil _ _) (OwnI.nil _ _) (by simp))
        clear hxr
        go_wp2_with fail
        refine HG.out.mono ?_
        rintro e w2 ⟨rfl, hw2⟩
        have hws := hw2.symm
        subst hws
        go_wp2_with fail
        refine HG2.out.mono ?_
        rintro e w3 ⟨rfl, hw3⟩
        have hws := hw3.symm
        subst hws
        go_wp2_with fail
        refine HSI.out.mono ?_
        rintro e w4 ⟨rfl, b4⟩
        have HD : Hid (∃ most' L' h' mi' g' F' v', Du w4 base m b most' L' h' mi' g' F' v' ∧ Ds w w4 b F F') := hid ⟨_, _, _, _, _, F, _, HQ.out.below b4, DS0.out _ _ ⟨Fr.of_below b4 _, fun y hy => Or.inl hy⟩⟩
        clear b4
        go_wp2
        go_ret
        exact ⟨rfl, HD.out⟩
      · obtain ⟨P, rfl⟩ : ∃ M : Nat, x = (M : Int) := ⟨x.toNat, by omega⟩
        have p1 : 1 ≤ P := by omega
        have p2 : P ≤ 4096 := by omega
        have HG := hid (iresize_mo HQ.out.p P p1 p2)
        have HLE : Hid ((wentL L P).length ≤ 1000000) := hid (by have := HQ.out.r.le; unfold wentL; simp; omega)
        clear hxr
        go_wp2_with fail
        refine HG.out.mono ?_
        rintro e w2 ⟨vg, rfl, og, F2, q2, s2⟩
        have HP2 := hid q2
        have HS2 := hid s2
        have HR2 := hid (HQ.out.stepP s2)
        have HOG := hid og
        have HG2 := hid (rresize_any HR2.out P p1 p2)
        have e2 : w2.cell? ⟨ba, 2, none⟩ = some (.int .i64 P) := (World.cell?_of_block (s2.1.block ba (hp_lt HNW.out) HAF.out)).trans d2
        clear q2 s2 og d0 d1 d2 d3 HG
        go_wp2_with fail
        refine HG2.out.mono ?_
        rintro e w3 ⟨vr, rfl, or3, v3, r3, f3⟩
        have HO3 := hid (HOG.out.fr f3 (fun y hy e => by simp at e; exact (HR2.out.farI HOG.out).1 y hy e))
        have HSI := hid (sameInts_any w3 _ _ vg vr (wentL L P) HO3.out or3 HLE.out)
        have HD3 : Hid (Du w3 base m b P (L.take P) h mi (incN g (L.length - P)) F2 v3) := hid ⟨HP2.out.fr f3 (fun y hy e => by simp at e; subst e; exact HP2.out.typ HR2.out.blk (by decide) (by decide) hy), r3⟩
        have HDS := hid (DS0.out _ _ (ds_mk HS2.out f3))
        clear r3 f3 HG2 e2 or3
        go_wp2_with fail
        refine HSI.out.mono ?_
        rintro e w4 ⟨rfl, b4⟩
        have HD : Hid (∃ most' L' h' mi' g' F' v', Du w4 base m b most' L' h' mi' g' F' v' ∧ Ds w w4 b F F') := hid ⟨_, _, _, _, _, F2, _, HD3.out.below b4, ⟨HDS.out.1.trans (Fr.of_below b4 []) (by simp), HDS.out.2⟩⟩
        clear b4
        go_wp2
        go_ret
        exact ⟨rfl, HD.out⟩
  · as_aux_lemma =>
      go_wp2
      go_ret
      exact ⟨rfl, _, _, _, _, _, F, _, HQ.out, DS0.out _ _ ⟨Fr.refl _ _, fun y hy => Or.inl hy⟩⟩
end

end Go.Proofs.Ytnbbebapfiocpaa

/- A region that draws its order, whose operations read, and whose callees may make memory: walked once. -/
namespace Go.Proofs.Ytnbbebapfiocpaa
open Go.RowKit

/-- a world in which all that was there is as it was -/
structure Bel (w : World) where
  out : World
  bel : Below w.heap.size w out
theorem bel_some (w : World) : Nonempty (Bel w) := ⟨⟨w, Below.refl _ _⟩⟩
theorem wp_region_quiet_bel {P : Program} {id : Nat} {Q : Exit → Act → World → Prop} {a : Act} {w : World} {l : List Oper} (hm : P.follows .mixedOrders = true) (hB : Region.lexB .any l.toArray = true)
    (h : wpQuiet P l.toArray (fun w' => ∃ p : Bel w, w' = p.out) (fun a' => ∀ w', (∃ p : Bel w, w' = p.out) → Q .normal a' w') l a) : (Code.region id l.toArray true).wp P Q a w :=
  wp_region_quiet (C := fun w' => ∃ p : Bel w, w' = p.out) hm hB ⟨⟨{ w with drawn := w.drawn + 1 }, ⟨rfl, rfl, rfl, Nat.le_refl _, fun _ _ => rfl⟩⟩, rfl⟩ (by simpa using h)
theorem Bel.cell {w : World} (p : Bel w) {b o : Nat} {v : Value} (h : w.cell? ⟨b, o, none⟩ = some v) (hb : b < w.heap.size) : p.out.cell? ⟨b, o, none⟩ = some v := (p.bel.cell (p := ⟨b, o, none⟩) hb).trans h
/-- a callee's contract, met in a world of the class -/
theorem bel_of {P : Program} {f : FuncId} {args : Array Value} {w : World} {p : Bel w} {v : Value}
    (h : Calls P f args p.out fun e w' => e = .returned v ∧ Below p.out.heap.size p.out w') : Calls P f args p.out fun e w'' => e = .returned v ∧ ∃ p' : Bel w, w'' = p'.out :=
  h.mono fun _ w' ⟨he, hb⟩ => ⟨he, ⟨w', p.bel.trans (hb.mono p.bel.size)⟩, rfl⟩
theorem bel_drew {P : Program} {f : FuncId} {args : Array Value} {w : World} {p : Bel w} {v : Value}
    (h : Calls P f args p.out fun e w' => e = .returned v ∧ ∃ n, w' = p.out.drewN n) : Calls P f args p.out fun e w'' => e = .returned v ∧ ∃ p' : Bel w, w'' = p'.out :=
  h.mono fun _ w' ⟨he, n, hw⟩ => ⟨he, ⟨w', by rw [hw]; exact ⟨p.bel.os, p.bel.tape, p.bel.output, p.bel.size, p.bel.block⟩⟩, rfl⟩
theorem bel_same {P : Program} {f : FuncId} {args : Array Value} {w : World} {p : Bel w} {v : Value}
    (h : Calls P f args p.out fun e w' => e = .returned v ∧ w' = p.out) : Calls P f args p.out fun e w'' => e = .returned v ∧ ∃ p' : Bel w, w'' = p'.out :=
  h.mono fun _ _ ⟨he, hw⟩ => ⟨he, p, hw⟩

theorem quiet_ld {P : Program} {a : Act} {o : Oper} {C : World → Prop} {K : Act → Prop} (ty : TypeId) (x : Operand) (ho : o.op = .load ty x) (b off : Nat) (hx : a.eval x = .pointer (some ⟨b, off, none⟩)) (cs : List Value) (d : TypeDesc) (hc : ∀ w, C w → w.rangeAt b off cs)
    (hu : P.underlying ty = some d) (hd : d.isRow = true) (hi : (P.info? ty).map (·.size) = some cs.length) (hk : K (a.put o.dst (.agg cs.toArray))) : o.quiet P a C K :=
  ⟨_, fun w hw => by
    unfold Oper.quietAt execOp
    simp only [ho, hx, Instr.loadAt, Instr.sureAddr, Sem.run_bind, Sem.run_pure, Result.andThen_ok, run_loadVar_mid w b off ty cs d (hc w hw) hu hd hi]
    exact ⟨rfl, rfl⟩, hk⟩
theorem Bel.range {w : World} {b off : Nat} {cs : List Value} (h : w.rangeAt b off cs) (hb : b < w.heap.size) : ∀ w', (∃ p : Bel w, w' = p.out) → w'.rangeAt b off cs := by
  rintro w' ⟨p, rfl⟩ j v hv
  exact p.cell (h j v hv) hb
theorem range_row {w : World} {b : Nat} {cs : List Value} {t : TypeId} (h : w.heap[b]? = some (.cells cs.toArray t (0, 0))) : w.rangeAt b 0 cs := fun j v hv => by
  rw [Nat.zero_add, cell_of_row w b j cs.toArray t (0, 0) h]
  simpa using hv

end Go.Proofs.Ytnbbebapfiocpaa

/- A region that draws its order: a head whose operations read and whose callees may make memory, in whatever order; then a tail in its one order. -/
namespace Go.Proofs.Ytnbbebapfiocpaa
open Go.RowKit
variable {P : Program} {ops : Array Oper} {md : Region.Mode} {C : World → Prop}

/-- so many operations of the head, whichever come up, each quiet in the class; behind them L -/
def HeadQ (P : Program) (md : Region.Mode) (ops : Array Oper) (C : World → Prop) (n : Nat) (L : Array Bool → Act → Prop) : Nat → Array Bool → Act → Prop
  | 0, s, a => L s a
  | f + 1, s, a => Region.ready md ops s ≠ [] ∧ ∀ i ∈ Region.ready md ops s, i < n ∧ qOp P ops C i (HeadQ P md ops C n L f (s.setIfInBounds i true)) a

theorem headQ_any {n g : Nat} {L : Array Bool → Act → Prop} {Q : Exit → Act → World → Prop} (hL : ∀ s a w, C w → L s a → wpAny P md ops Q g s a w) (f : Nat) :
    ∀ (s : Array Bool) (a : Act) (w : World), C w → HeadQ P md ops C n L f s a → wpAny P md ops Q (f + g) s a w := by
  induction f with
  | zero => intro s a w hw h; rw [Nat.zero_add]; exact hL s a w hw h
  | succ f ih =>
    intro s a w hw h
    rw [Nat.add_right_comm]
    refine ⟨fun e => absurd e h.1, fun i hi => ?_⟩
    exact wpOp_of_qOp hw (fun a' w' hw' h' => ih _ a' w' hw' h') (h.2 i hi).2

/-- what may come up may be taken first -/
theorem headQ_first {n i : Nat} {oi : Oper} {v : Value} {L : Array Bool → Act → Prop} (hi : ops[i]? = some oi) (hns : Region.noSelect ops = true)
    (hs : Region.sinkB md ops n = true) (hc : Region.chainB md ops n = true) (hn : n < ops.size) (hin : i < n) (hL : ∀ s a, L s a → ∀ j ∈ Region.ready md ops s, n ≤ j) (f : Nat) :
    ∀ (s : Array Bool) (a : Act), HeadInv md ops n s → (∀ j oj, ops[j]? = some oj → j ≠ i → s.getD j true = false → (∀ e ∈ oj.after, Region.binds md e = true → e.on ≠ i) → oi.apart ops oj = true) →
      i ∈ Region.ready md ops s → YieldsIn P ops C oi v a → HeadQ P md ops C n L f (s.setIfInBounds i true) (a.put oi.dst v) → HeadQ P md ops C n L (f + 1) s a := by
  have sel := Region.noSelect_spec hns
  induction f with
  | zero =>
    intro s a inv _ hr hy H
    refine ⟨fun e => (by rw [e] at hr; cases hr), fun j hj => ?_⟩
    have hjn : j < n := Nat.lt_of_not_le (fun h => tail_waits hs hc hn inv _ i rfl hin (mem_ready.1 hr).1 j h hj)
    refine ⟨hjn, ?_⟩
    by_cases e : j = i
    · subst e; exact hy.qOp hi H
    · exact absurd (hL _ _ H j (ready_mono hj e)) (by omega)
  | succ f ih =>
    intro s a inv hf hr hy H
    have hun := (mem_ready.1 hr).1
    refine ⟨fun e => (by rw [e] at hr; cases hr), fun j hj => ?_⟩
    have hjn : j < n := Nat.lt_of_not_le (fun h => tail_waits hs hc hn inv _ i rfl hin hun j h hj)
    refine ⟨hjn, ?_⟩
    by_cases e : j = i
    · subst e; exact hy.qOp hi H
    · obtain ⟨hju, oj, hoj, hall⟩ := mem_ready.1 hj
      have hno : ∀ x ∈ oj.after, Region.binds md x = true → x.on ≠ i := by
        intro x hx hb he
        have := hall x hx hb
        rw [he, getD_both hun] at this
        cases this
      refine qOp_mono (fun a' h => ih _ a' (inv.set hj hjn) ?_ (ready_mono hr (Ne.symm e)) h.1 ?_) (qOp_put hoj (hf j oj hoj e hju hno) (fun cs b => sel i oi cs b hi) (fun cs b => sel j oj cs b hoj) hy (H.2 j (ready_mono hj e)).2)
      · intro k ok hk hki hu hn'
        refine hf k ok hk hki ?_ hn'
        by_cases hjk : j = k
        · subst hjk; exact hju
        · rwa [getD_set_ne true hjk] at hu
      · rw [Array.setIfInBounds_comm _ _ e]; exact h.2

theorem headQ_lex {n g : Nat} {K : Act → Prop} (hns : Region.noSelect ops = true) (hs : Region.sinkB md ops n = true) (hc : Region.chainB md ops n = true) (hn : n < ops.size) (l : List Oper) :
    ∀ (k : Nat) (s : Array Bool) (a : Act), (∀ j, j < l.length → l[j]? = ops[k + j]?) → k + l.length = n → HeadInv md ops n s → Region.lexHead md ops g l.length k s = true → wpQuiet P ops C K l a →
      HeadQ P md ops C n (fun s' a' => Region.seqB md ops g n s' = true ∧ K a') l.length s a := by
  induction l with
  | nil =>
    intro k s a _ hk _ hB h
    obtain rfl : k = n := by simpa using hk
    exact ⟨hB, h⟩
  | cons o l ih =>
    intro k s a hl hk inv hB h
    have h0 : ops[k]? = some o := by simpa using (hl 0 (by simp)).symm
    simp only [List.length_cons] at hk
    simp only [List.length_cons, Region.lexHead, Bool.and_eq_true] at hB
    have hr : k ∈ Region.ready md ops s := by simpa using hB.1.1
    obtain ⟨v, hy, hK⟩ := yieldsIn_of_qOp (K := wpQuiet P ops C K l) h0 (by unfold qOp; simp only [h0]; exact h)
    refine headQ_first h0 hns hs hc hn (by omega) (fun s' a' hL => seqB_ready hL.1) l.length s a inv (Region.free_spec h0 hB.1.2) hr hy ?_
    refine ih (k + 1) _ _ (fun j hj => ?_) (by omega) (inv.set hr (by omega)) hB.2 hK
    have := hl (j + 1) (by simpa using hj)
    simpa [Nat.add_assoc, Nat.add_comm 1 j] using this

/-- the head quiet in the class 'all that was there is as it was', the tail one by one -/
theorem wp_region_bel_tail {id : Nat} {Q : Exit → Act → World → Prop} {a : Act} {w : World} {l : List Oper} (n : Nat) (hm : P.follows .mixedOrders = true) (hB : Region.lexTailB .any l.toArray n = true)
    (h : wpQuiet P l.toArray (fun w' => ∃ p : Bel w, w' = p.out) (fun a' => ∀ w', (∃ p : Bel w, w' = p.out) → wpList P l.toArray Q (l.drop n) a' w') (l.take n) a) : (Code.region id l.toArray true).wp P Q a w := by
  simp only [Region.lexTailB, Bool.and_eq_true, decide_eq_true_eq] at hB
  obtain ⟨⟨⟨⟨hns, hn⟩, hs⟩, hc⟩, hlex⟩ := hB
  have hn' : n < l.length := by simpa using hn
  have e1 : (l.take n).length = n := by rw [List.length_take]; omega
  have e2 : (l.drop n).length = l.toArray.size - n := by simp
  have inv : HeadInv .any l.toArray n (Array.replicate l.toArray.size false) :=
    ⟨by simp, fun j oj _ hl => (by rw [getD_replicate_false] at hl; cases hl), fun t _ ht => getD_in (by simpa using ht) (getD_replicate_false _ _)⟩
  have H := headQ_lex (md := .any) (g := l.toArray.size - n) hns hs hc hn (l.take n) 0 _ a (fun j hj => by
    rw [e1] at hj
    simp [hj]) (by simpa using e1) inv (by rw [e1]; exact hlex) h
  refine wp_region_any hm ?_
  have := headQ_any (Q := Q) (g := l.toArray.size - n) (fun s a' w' hw' hL => by
    have := wpAny_of_seq (md := .any) (Q' := Q) (l.drop n) n s a' w' (fun j => by simp [List.getElem?_drop]) (by rw [e2]; exact hL.1) (hL.2 w' hw')
    rwa [e2] at this) _ _ _ _ (show ∃ p : Bel w, { w with drawn := w.drawn + 1 } = p.out from ⟨⟨{ w with drawn := w.drawn + 1 }, ⟨rfl, rfl, rfl, Nat.le_refl _, fun _ _ => rfl⟩⟩, rfl⟩) H
  rw [e1, show n + (l.toArray.size - n) = l.toArray.size by omega] at this
  exact this

end Go.Proofs.Ytnbbebapfiocpaa

/- stands: both memos hold the same. -/
namespace Go.Proofs.Ytnbbebapfiocpaa
open Go.RowKit Go.Shelf

attribute [local go_sem] Oper.semAt_some

theorem wide_fn (f : FuncId) : Fence.wide.fn f = True := eq_true trivial

theorem OwnQ.lt_of {w : World} {base : Nat} {v : Value} {L : List (Int × Int)} (h : OwnQ w base v L) {k : Nat} (hk : v.ownBlock = some k) : k < w.heap.size := by
  rcases h.2 with ⟨rfl, _⟩ | ⟨g, cap, cur, rfl, _, h2, _⟩
  · simp [Value.ownBlock] at hk
  · simp [Value.ownBlock] at hk
    subst hk
    exact hp_lt h2

/-- the three cells of stands: the document's memo, the answer, how many were seen -/
structure Sx (s b : Nat) (k : Nat) (r : Bool) (W : World) : Prop where
  cq : W.cell? ⟨s, 0, none⟩ = some (pt b)
  cr : W.cell? ⟨s + 1, 0, none⟩ = some (.bool r)
  fr : W.frozen? ⟨s + 1, 0, none⟩ = false
  cn : W.cell? ⟨s + 1 + 1, 0, none⟩ = some (.int .i64 k)
  fn : W.frozen? ⟨s + 1 + 1, 0, none⟩ = false
theorem Sx.kept {s b k : Nat} {r : Bool} {W W' : World} {row : Option Nat} (h : Sx s b k r W) (hg : W.grownBy W' row) (hr : ∀ r, row = some r → ∃ o : Obj, W.heap[r]? = some o ∧ o.isCells = false) : Sx s b k r W' :=
  ⟨cell_kept h.cq hg hr, cell_kept h.cr hg hr, (frozen_kept h.cr hg hr).trans h.fr, cell_kept h.cn hg hr, (frozen_kept h.cn hg hr).trans h.fn⟩
theorem Sx.drew {s b k : Nat} {r : Bool} {W : World} (h : Sx s b k r W) (n : Nat) : Sx s b k r (W.drewN n) := ⟨h.cq, h.cr, h.fr, h.cn, h.fn⟩
theorem Sx.same {s b k : Nat} {r : Bool} {W W' : World} (h : Sx s b k r W) (hb : Below (s + 3) W W') : Sx s b k r W' :=
  ⟨(hb.cell (p := ⟨s, 0, none⟩) (by show s < _; omega)).trans h.cq, (hb.cell (p := ⟨s + 1, 0, none⟩) (by show s + 1 < _; omega)).trans h.cr, (World.frozen?_of_block (hb.block _ (by show s + 1 < _; omega))).trans h.fr,
   (hb.cell (p := ⟨s + 1 + 1, 0, none⟩) (by show s + 1 + 1 < _; omega)).trans h.cn, (World.frozen?_of_block (hb.block _ (by show s + 1 + 1 < _; omega))).trans h.fn⟩
theorem sx_new (w : World) (b : Nat) : Sx w.heap.size b 0 false (((w.alloc (.cells #[pt b] 40)).alloc (.cells #[.bool false] 4)).alloc (.cells #[.int .i64 0] 3)) := by
  have b1 := Boxed.new w 40 (pt b)
  have b2 := Boxed.new (w.alloc (.cells #[pt b] 40)) 4 (.bool false)
  have b3 := Boxed.new ((w.alloc (.cells #[pt b] 40)).alloc (.cells #[.bool false] 4)) 3 (.int .i64 0)
  rw [World.size_alloc] at b2
  rw [World.size_alloc, World.size_alloc] at b3
  exact ⟨((b1.alloc _).alloc _).cell, (b2.alloc _).cell, (b2.alloc _).frozen, b3.cell, b3.frozen⟩

set_option maxRecDepth 100000 in
set_option maxHeartbeats 4000000 in
theorem stands_any {w : World} {base m b most : Nat} {L : List (Int × Int)} {h mi g : Int} {F : List Nat} {v : Value} (q : Du w base m b most L h mi g F v) :
    Calls Try.prog 14 #[pt m, pt b] w fun e w' => e = .returned (.bool true) ∧ Below w.heap.size w w' := by
  have HQ := hid q
  clear q
  have hb3 : Below w.heap.size w (((w.alloc (.cells #[pt b] 40)).alloc (.cells #[.bool false] 4)).alloc (.cells #[.int .i64 0] 3)) := (((Below.refl _ w).alloc (Nat.le_refl _) _).alloc (by simp) _).alloc (by simp; omega) _
  have HB3 := hid hb3
  have HS3 := hid (sx_new w b)
  have HA := hid (iall_mo (HQ.out.p.below hb3))
  have HZ : Hid ((((w.alloc (.cells #[pt b] 40)).alloc (.cells #[.bool false] 4)).alloc (.cells #[.int .i64 0] 3)).heap.size = w.heap.size + 3) := hid (by simp)
  clear hb3
  refine (callsIn_wide (n := 9)).1 ?_
  refine callsIn_of_wp_marks Try.func14 rfl trivial ?_ rfl
  simp only [Try.ntmps14, List.size_toArray, List.length_cons, List.length_nil, Nat.reduceAdd, Nat.reduceSub, Array.replicate_succ, Array.replicate_zero, List.push_toArray, List.append_toArray, List.nil_append, List.cons_append]
  gi_wp2_with fail
  refine ⟨trivial, (callsIn_wide.2 HA.out).mono ?_⟩
  rintro e w4 ⟨sv, bb, rfl, h1, h2, h3, h4⟩
  rw [HZ.out] at h1 h3 h4
  have HS4 := hid (HS3.out.same h4)
  have HB4 := hid (HB3.out.trans (h4.mono (by omega)))
  have HO4 := hid h3
  have HC4 := hid h2
  have HL4 : Hid (bb < w4.heap.size) := hid (by obtain ⟨o, ho, _⟩ := cells_of_cell h2; exact hp_lt ho)
  have HBB := hid h1
  have HZ4 : Hid (w.heap.size + 3 ≤ w4.heap.size) := hid (by have := h4.size; rw [HZ.out] at this; exact this)
  clear h1 h2 h3 h4 HA HS3 HB3 HZ
  gi_wp2_with fail
  have HQL : Hid (∀ W, Below w.heap.size w W → Du W base m b most L h mi g F v) := hid (fun W hW => HQ.out.below hW)
  obtain ⟨bp, HBP⟩ : ∃ bp, Hid ((∀ k, sv.ownBlock = some k → k = bp) ∧ bp < w4.heap.size ∧ w.heap.size + 3 ≤ bp) := by
    cases hsv : sv.ownBlock with
    | none => exact ⟨bb, ⟨fun k e => by simp at e, HL4.out, HBB.out⟩⟩
    | some k =>
      have ho := HO4.out
      refine ⟨k, ⟨fun j e => by simpa using e.symm, ?_, ?_⟩⟩
      · exact OwnQ.lt_of ho hsv
      · exact ho.low k (by simp [ownL, hsv])
  refine wpIn_rangeFunc_ownG rfl (by omega) (gf := 46) (lb := #[pt bb]) rfl trivial (enters_of Try.func46 (by kernel_rfl) rfl)
    (all2_stops Fence.wide _ trivial rfl (by omega) bb (w.heap.size + 3) sv bp L HQ.out.r.le w4 HC4.out HL4.out HO4.out HBP.out.1) kpB_t (kpB_b HBP.out.2.1) (Below.refl _ _) (fun _ => rfl)
    (fun pre W => (Sx w.heap.size b pre.length false W ∧ Hid (pre = L.take pre.length)) ∧ Below w.heap.size w W)
    (fun _ pre _ => Hid (pre ≠ L.take pre.length))
    (OwnFrom.and (Own.from (fun s A B row hs hg hr => ⟨hs.1.kept hg hr, hs.2⟩) _) (ownFrom_below (Nat.le_refl _) (by have := HZ4.out; omega)))
    (fun _ _ _ _ _ hs _ _ => hs)
    ⟨⟨HS4.out, hid rfl⟩, HB4.out⟩
    (fun x => { tmps := #[pt m, pt b, undef, .pointer (some ⟨w.heap.size, 0, none⟩), .pointer (some ⟨w.heap.size + 1, 0, none⟩), .pointer (some ⟨w.heap.size + 1 + 1, 0, none⟩), .int .i64 x.1, .int .i64 x.2, pt m, .func (.func 46) #[] #[pt bb], .int .i64 x.1, .int .i64 x.2, undef, undef, undef, undef, undef, undef, undef, undef, undef, undef, undef, undef, undef, undef, undef, undef, undef, undef, undef, undef, undef, undef, undef, undef, undef, undef, undef, undef, undef, undef, undef, undef, undef, undef, undef, undef, undef, undef, undef, undef, undef, undef, undef, undef, undef, undef, undef, undef, undef, undef, undef, undef, undef, undef, undef, undef, undef, undef, undef, undef, undef, undef, undef, undef], defers := [] }) ?assign ?body ?done ?stop
  case assign =>
    intro l x W K hK
    gi_wp2
    exact hK
  case body =>
    rintro l pre ⟨xk, xv⟩ W ⟨⟨S, hpre⟩, hB⟩ hlt
    have q := HQL.out W hB
    have c1 := q.r.c1
    have hle := q.r.le
    have hget := pv_get L pre.length hlt
    rcases q.r.own.src with ⟨_, e0⟩ | ⟨gg, o, c, hv, hl, hlt2, hc⟩
    · rw [e0] at hlt; simp at hlt
    have HY : Hid (L.take (pre.length + 1) = pre ++ [L.getD pre.length (0, 0)]) := hid (by
      rw [List.take_add_one, ← hpre.out, List.getElem?_eq_getElem hlt, List.getD_eq_getElem?_getD, List.getElem?_eq_getElem hlt]; rfl)
    have y0 := hc (2 * pre.length) _ hget.1
    have y1 := hc (2 * pre.length + 1) _ hget.2
    rw [hv] at c1
    rw [show o + 2 * pre.length = o + pre.length * 2 by omega] at y0
    rw [show o + (2 * pre.length + 1) = o + pre.length * 2 + 1 by omega] at y1
    clear q hc hget hv
    obtain ⟨cq, cr, fr, cn, fn⟩ := S
    have HS := hid (Sx.mk cq cr fr cn fn)
    have HPB := hid hB
    generalize hyy : L.getD pre.length (0, 0) = y at y0 y1 HY
    obtain ⟨yk, yv⟩ := y
    have HTK : Hid (∀ k, pre ++ [k] = L.take (pre ++ [k]).length → k = (yk, yv)) := hid (fun k e => by
      rw [List.length_append, List.length_singleton, HY.out] at e
      simpa using e)
    obtain ⟨n, HN⟩ : ∃ n, Hid (pre.length = n) := ⟨_, rfl⟩
    obtain ⟨N, HNN⟩ : ∃ N, Hid (L.length = N) := ⟨_, rfl⟩
    rw [HN.out] at hlt cn y0 y1 HY
    rw [HNN.out] at hlt c1 hle hl
    clear hyy hpre hB
    dsimp only at y0 y1 ⊢
    have hge : ¬ (N ≤ n) := by omega
    have hgi : ¬ ((N : Int) ≤ (n : Int)) := by omega
    by_cases hk : yk = xk
    · by_cases hx : yv = xv
      · subst hk hx
        gi_wp2_with fail
        refine region_round (by kernel_rfl) (by kernel_rfl) (by kernel_rfl) ?_
        repeat (gi_big_quiet_step (fail))
        refine wpQuietIn_nil ?_
        intro _ hw'
        obtain ⟨nq, hw''⟩ := hw'
        subst hw''
        gi_wp2
        clear y0 y1 c1
        refine ⟨(KeepsOthers.trans (show KeepsOthers W (W.drewN nq) from ⟨Nat.le_refl _, fun _ _ h _ => h⟩) (KeepsOthers.setCell (W.drewN nq) _ _)).from _, ⟨heap_setCell_other (W.drewN nq) _ _ _ ?_, ?_⟩, ⟨?_, hid ?_⟩, ?_⟩
        · have := HBP.out.2.2
          show bp ≠ w.heap.size + 1 + 1
          omega
        · simp [World.setCell]
        · rw [List.length_append, List.length_singleton, HN.out]
          exact ⟨(World.cell?_setCell_far (W.drewN nq) _ _ _ (by show w.heap.size + 1 + 1 ≠ w.heap.size; omega)).trans cq, (World.cell?_setCell_far (W.drewN nq) _ _ _ (by show w.heap.size + 1 + 1 ≠ w.heap.size + 1; omega)).trans cr,
            (World.frozen?_setCell _ _ _ _).trans fr, World.cell?_setCell_same' (W.drewN nq) _ _ (by show (W.cell? _).isSome = true; rw [cn]; rfl), (World.frozen?_setCell _ _ _ _).trans fn⟩
        · rw [List.length_append, List.length_singleton, HN.out]
          exact HY.out.symm
        · exact Below.setCell (p := ⟨w.heap.size + 1 + 1, 0, none⟩) (show Below w.heap.size w (W.drewN nq) from ⟨HPB.out.os, HPB.out.tape, HPB.out.output, HPB.out.size, HPB.out.block⟩) (by show w.heap.size ≤ w.heap.size + 1 + 1; omega) _
      · subst hk
        have hx2 : ¬ xv = yv := fun e => hx e.symm
        gi_wp2_with fail
        refine region_round (by kernel_rfl) (by kernel_rfl) (by kernel_rfl) ?_
        repeat (gi_big_quiet_step (fail))
        refine wpQuietIn_nil ?_
        intro _ hw'
        obtain ⟨nq, hw''⟩ := hw'
        subst hw''
        gi_wp2
        exact ⟨(KeepsOthers.trans (show KeepsOthers W (W.drewN nq) from ⟨Nat.le_refl _, fun _ _ h _ => h⟩) (KeepsOthers.setCell (W.drewN nq) _ _)).from _, hid (fun e => hx2 (congrArg Prod.snd (HTK.out _ e)))⟩
    · have hk2 : ¬ xk = yk := fun e => hk e.symm
      have hk3 : (yk != xk) = true := by simp [hk]
      gi_wp2_with fail
      refine region_round (by kernel_rfl) (by kernel_rfl) (by kernel_rfl) ?_
      repeat (gi_big_quiet_step (fail))
      refine wpQuietIn_nil ?_
      intro _ hw'
      obtain ⟨nq, hw''⟩ := hw'
      subst hw''
      gi_wp2
      exact ⟨(KeepsOthers.trans (show KeepsOthers W (W.drewN nq) from ⟨Nat.le_refl _, fun _ _ h _ => h⟩) (KeepsOthers.setCell (W.drewN nq) _ _)).from _, hid (fun e => hk2 (congrArg Prod.fst (HTK.out _ e)))⟩
  case done =>
    rintro D ys W hD rfl ⟨⟨S, _⟩, hB⟩ hK
    gi_wp2_with fail
    refine wpIn_wide.2 ?_
    have q := HQL.out W hB
    have hbl := hp_lt hK
    obtain ⟨cq, cr, fr, cn, fn⟩ := S
    have h3 := HZ4.out
    have lq : w.heap.size < W.heap.size := by omega
    have HLN : Hid (∀ p : Bel W, Calls Try.prog 18 #[pt m] p.out fun e w' => e = .returned (.int .i64 ys.length) ∧ w' = p.out) := hid (fun p => ilen_mo (q.p.below p.bel))
    have HMO : Hid (∀ p : Bel W, Calls Try.prog 38 #[pt m] p.out fun e w' => e = .returned (.int .i64 most) ∧ w' = p.out) := hid (fun p => imost_mo (q.p.below p.bel))
    have HUS : Hid (∀ p : Bel W, Calls Try.prog 21 #[pt m] p.out fun e w' => e = .returned (.agg #[.int .i64 h, .int .i64 mi, .int .i64 g]) ∧ Below p.out.heap.size p.out w') := hid (fun p => iuses_mo (q.p.below p.bel))
    obtain ⟨av, cv, hv⟩ := q.r.own.shape
    have pq : ∀ p : Bel W, p.out.cell? ⟨w.heap.size, 0, none⟩ = some (pt b) := fun p => p.cell cq lq
    have pn : ∀ p : Bel W, p.out.cell? ⟨w.heap.size + 1 + 1, 0, none⟩ = some (.int .i64 ys.length) := fun p => p.cell cn (by omega)
    have p0 : ∀ p : Bel W, p.out.cell? ⟨b, 0, none⟩ = some (.int .i64 most) := fun p => p.cell q.r.c0 q.r.lt
    have p1 : ∀ p : Bel W, p.out.cell? ⟨b, 1, none⟩ = some (.slice av ys.length cv) := fun p => p.cell (hv ▸ q.r.c1) q.r.lt
    have HU : Hid (∀ w', (∃ p : Bel W, w' = p.out) → w'.rangeAt b 2 [.int .i64 h, .int .i64 mi, .int .i64 g]) := hid (Bel.range (fun j u hu => by
      match j, hu with
      | 0, hu => cases hu; exact q.r.c2
      | 1, hu => cases hu; exact q.r.c3
      | 2, hu => cases hu; exact q.r.c4) q.r.lt)
    obtain ⟨N, HNN⟩ : ∃ N, Hid (ys.length = N) := ⟨_, rfl⟩
    have hle := q.r.le
    rw [HNN.out] at HLN pn p1 hle
    clear q hv
    refine wp_region_bel_tail 31 (by kernel_rfl) (by kernel_rfl) ?_
    simp only [List.take, List.drop]
    have ib : Nonempty (Bel W) := bel_some W
    repeat go_big_quiet_step (first | (go_at_call 18; exact bel_same (HLN.out _)) | (go_at_call 38; exact bel_same (HMO.out _)) | (go_at_call 21; exact bel_of (HUS.out _)))
    go_big_quiet_want
    refine quiet_ld 29 (.tmp 72) rfl b 2 rfl [.int .i64 h, .int .i64 mi, .int .i64 g] _ HU.out rfl rfl rfl ?_
    simp only [Act.put, List.setIfInBounds_toArray, List.set_cons_succ, List.set_cons_zero]
    go_big_quiet_on
    go_big_quiet_want
    go_big_quiet_op
    go_big_quiet_on
    repeat go_big_quiet_step (fail)
    refine wpQuiet_nil ?_
    rintro w5 ⟨⟨w5', hb5⟩, hw5⟩
    obtain rfl : w5 = w5' := hw5
    have cr5 : w5.cell? ⟨w.heap.size + 1, 0, none⟩ = some (.bool false) := (hb5.cell (p := ⟨w.heap.size + 1, 0, none⟩) (by show w.heap.size + 1 < _; omega)).trans cr
    have fr5 : w5.frozen? ⟨w.heap.size + 1, 0, none⟩ = false := (World.frozen?_of_block (hb5.block _ (by show w.heap.size + 1 < _; omega))).trans fr
    have hK5 : w5.heap[D]? = some (.deferred (some [])) := (hb5.block D hbl).trans hK
    have hK6 := (KeepsOthers.setCell w5 ⟨w.heap.size + 1, 0, none⟩ (.bool true)).same D _ hK5 rfl
    have hc6 := cell_kept (World.cell?_setCell_same' w5 ⟨w.heap.size + 1, 0, none⟩ (.bool true) (by rw [cr5]; rfl)) (grownBy_putObj' _ D (.deferred none)) (fun r e => by cases e; exact ⟨_, hK6, rfl⟩)
    have hb6 : Below w.heap.size w (w5.setCell ⟨w.heap.size + 1, 0, none⟩ (.bool true)) := (hB.trans (hb5.mono (by omega))).setCell (p := ⟨w.heap.size + 1, 0, none⟩) (by show w.heap.size ≤ w.heap.size + 1; omega) _
    have HB7 := hid (hb6.grown (grownBy_putObj' _ D (.deferred none)) hb6.size (fun k e => by cases e; omega))
    have HC6 := hid hc6
    have HK6 := hid hK6
    clear hb6 hK6 hc6 pq pn p0 p1 HU HUS HMO HLN
    go_wp2
    gi_wp2
    refine ⟨by simp, .inl ⟨_, _, rfl, run_takeDeferred HK6.out, ?_⟩⟩
    refine ⟨.bool true, ?_, rfl, HB7.out⟩
    have hc6 := HC6.out
    simp [results, Try.f14, go_sem, hc6]
  case stop =>
    rintro D c pre W hD ⟨k, hk, rfl⟩ h _
    exact absurd (by rw [List.length_take, Nat.min_eq_left hk]) h.out

end Go.Proofs.Ytnbbebapfiocpaa

/- The marks that ranges over functions leave behind. -/
namespace Go.Proofs.Ytnbbebapfiocpaa
open Go.RowKit

/-- the marks that ranges left behind, the latest first -/
def Marks (B : Nat) (w : World) : List Deferred → Nat → Prop
  | [], _ => True
  | d :: ds, top => ∃ D, d = { target := .collected D, args := #[] } ∧ B ≤ D ∧ D < top ∧ w.heap[D]? = some (.deferred (some [])) ∧ Marks B w ds D
theorem Marks.keep {B : Nat} {w w' : World} : ∀ {ds : List Deferred} {top : Nat}, Marks B w ds top → (∀ k, B ≤ k → k < top → w'.heap[k]? = w.heap[k]?) → Marks B w' ds top
  | [], _, _, _ => trivial
  | _ :: _, _, ⟨D, h1, h2, h3, h4, h5⟩, hk => ⟨D, h1, h2, h3, (hk D h2 h3).trans h4, h5.keep (fun k hk1 hk2 => hk k hk1 (by omega))⟩
theorem Marks.up {B : Nat} {w : World} {ds : List Deferred} {top top' : Nat} (h : Marks B w ds top) (ht : top ≤ top') : Marks B w ds top' := by
  cases ds with
  | nil => trivial
  | cons d ds =>
    obtain ⟨D, h1, h2, h3, r⟩ := h
    exact ⟨D, h1, h2, by omega, r⟩
/-- a function leaves, its marks taken one by one -/
theorem leaves_marks {F : Fence} {n : Nat} {P : Program} {fn : Func} {tmps : Array Value} {R : Ending → World → Prop} {B : Nat} (v : Value) : ∀ (ds : List Deferred) (top : Nat) (w : World), Marks B w ds top → B ≤ w.heap.size →
    (∀ w', Below B w w' → (∀ k, (∀ D, B ≤ D → w.heap[D]? = some (.deferred (some [])) → k ≠ D) → w'.heap[k]? = w.heap[k]?) → (results fn tmps).run P w' = .ok v w' ∧ R (.returned v) w') → LeavesInM F n P fn tmps R ds .returning w
  | [], top, w, _, hB, hR => by
    obtain ⟨h1, h2⟩ := hR w (Below.refl _ _) (fun _ _ => rfl)
    exact ⟨v, h1, h2⟩
  | d :: ds, top, w, ⟨D, h1, h2, h3, h4, h5⟩, hB, hR => by
    subst h1
    have hb : Below B w (w.putObj D (.deferred none)) := (Below.refl _ _).grown (grownBy_putObj' _ D (.deferred none)) hB (fun k e => by cases e; exact h2)
    refine ⟨by simp, .inl ⟨D, _, rfl, run_takeDeferred h4, leaves_marks v ds D _ (h5.keep (fun k _ hk => World.putObj_heap_other (by omega))) (Nat.le_trans hB hb.size) (fun w' hb' hk => ?_)⟩⟩
    refine hR w' (hb.trans hb') (fun k hk2 => ?_)
    have hkD : k ≠ D := hk2 D h2 h4
    rw [hk k (fun D' h1' h2' => ?_)]
    · exact World.putObj_heap_other (by omega)
    · by_cases e : D' = D
      · rw [e]; exact hkD
      · rw [World.putObj_heap_other (Ne.symm (Ne.symm e))] at h2'
        exact hk2 D' h1' h2'

end Go.Proofs.Ytnbbebapfiocpaa

/- The row of a memo's entries (keys of type string): newest, oldest, lift, lay, renew, newRow. -/
namespace Go.Proofs.Ytnbbebapfiocpaa
open Go.RowKit

set_option maxHeartbeats 400000 in
theorem snewest_any (w : World) (z h : Nat) (hc : w.cell? ⟨z, 3, none⟩ = some (pt h)) (hz : z < w.heap.size) :
    Calls Try.prog 67 #[.agg #[pt z]] w fun e w' => e = .returned (pt h) ∧ w' = w.alloc (.cells #[pt z] 95) := by
  have hc1 : (w.alloc (.cells #[pt z] 95)).cell? ⟨z, 3, none⟩ = some (pt h) := by rw [World.cell?_alloc_past _ _ _ hz]; exact hc
  go_enter Try.func67, Try.ntmps67
  go_wp2
  go_ret
  exact ⟨rfl, rfl⟩

set_option maxHeartbeats 400000 in
theorem soldest_any (w : World) (z h : Nat) (hc : w.cell? ⟨z, 2, none⟩ = some (pt h)) (hz : z < w.heap.size) :
    Calls Try.prog 65 #[.agg #[pt z]] w fun e w' => e = .returned (pt h) ∧ w' = w.alloc (.cells #[pt z] 95) := by
  have hc1 : (w.alloc (.cells #[pt z] 95)).cell? ⟨z, 2, none⟩ = some (pt h) := by rw [World.cell?_alloc_past _ _ _ hz]; exact hc
  go_enter Try.func65, Try.ntmps65
  go_wp2
  go_ret
  exact ⟨rfl, rfl⟩

set_option maxHeartbeats 1000000 in
theorem slift_any (w : World) (z e a c : Nat) {ke ve ka va kc vc : Value} (he : En 99 w e ke ve) (ha : En 99 w a ka va) (hc : En 99 w c kc vc)
    (h2 : w.cell? ⟨e, 2, none⟩ = some (pt a)) (h3 : w.cell? ⟨e, 3, none⟩ = some (pt c)) :
    Calls Try.prog 63 #[.agg #[pt z], pt e] w fun r w' => r = .returned (.tuple #[]) ∧ Lft 99 w w' a c := by
  have hb := below_walk w (.cells #[pt z] 95)
  have k2 := (hb.cell (p := ⟨e, 2, none⟩) he.lt).trans h2
  have k3 := (hb.cell (p := ⟨e, 3, none⟩) he.lt).trans h3
  have ea := ha.below hb
  have ec := hc.below hb
  have HB := hid hb
  have HA := hid ha
  have HC := hid hc
  clear he ha hc h2 h3 hb
  go_enter Try.func63, Try.ntmps63
  go_upto_region 1 with fail
  try simp only [Act.put, List.setIfInBounds_toArray, List.set_cons_succ, List.set_cons_zero]
  generalize w.alloc (.cells #[pt z] 95) = w1 at HB k2 k3 ea ec ⊢
  obtain ⟨pa, qa, ba⟩ := ea
  obtain ⟨pc, qc, bc⟩ := ec
  have a3 : w1.cell? ⟨a, 3, none⟩ = some (.pointer qa) := by simp [World.cell?, ba]
  have c2 : w1.cell? ⟨c, 2, none⟩ = some (.pointer pc) := by simp [World.cell?, bc]
  have fa : w1.frozen? ⟨a, 3, none⟩ = false := by simp [World.frozen?, ba]
  have fc : w1.frozen? ⟨c, 2, none⟩ = false := by simp [World.frozen?, bc]
  have a3' : ∀ u, (w1.setCell ⟨c, 2, none⟩ u).cell? ⟨a, 3, none⟩ = some (.pointer qa) := fun u => by rw [cell_set_other (by omega)]; exact a3
  have c2' : ∀ u, (w1.setCell ⟨a, 3, none⟩ u).cell? ⟨c, 2, none⟩ = some (.pointer pc) := fun u => by rw [cell_set_other (by omega)]; exact c2
  have fa' : ∀ u, (w1.setCell ⟨c, 2, none⟩ u).frozen? ⟨a, 3, none⟩ = false := fun u => by rw [World.frozen?_setCell]; exact fa
  have fc' : ∀ u, (w1.setCell ⟨a, 3, none⟩ u).frozen? ⟨c, 2, none⟩ = false := fun u => by rw [World.frozen?_setCell]; exact fc
  have HBA := hid ba
  have HBC := hid bc
  clear ba bc
  go_region
  go_end0
  exact ⟨rfl, (lft_mk HB.out HA.out HC.out).drew⟩

set_option maxHeartbeats 1000000 in
theorem slay_any (w : World) (z e h : Nat) {ke ve kz vz kh vh : Value} (he : En 99 w e ke ve) (hz : En 99 w z kz vz) (hh : En 99 w h kh vh)
    (h3 : w.cell? ⟨z, 3, none⟩ = some (pt h)) (n1 : e ≠ z) (n2 : e ≠ h) :
    Calls Try.prog 64 #[.agg #[pt z], pt e] w fun r w' => r = .returned (.tuple #[]) ∧ Lay 99 w w' z e h := by
  have hb := below_walk w (.cells #[pt z] 95)
  have hrow := hp_new w (.cells #[pt z] 95)
  have r0 : (w.alloc (.cells #[pt z] 95)).cell? ⟨w.heap.size, 0, none⟩ = some (pt z) := by unfold World.cell?; rw [hrow]; rfl
  have k3 := (hb.cell (p := ⟨z, 3, none⟩) hz.lt).trans h3
  have HB := hid hb
  have HE := hid he
  have HZ := hid hz
  have HH := hid hh
  have hzs := hz.lt
  clear he hz hh h3 hb hrow
  go_enter Try.func64, Try.ntmps64
  go_upto_region 1 with fail
  try simp only [Act.put, List.setIfInBounds_toArray, List.set_cons_succ, List.set_cons_zero]
  have hz1 : z < (w.alloc (.cells #[pt z] 95)).heap.size := by simp; omega
  have hr1 : w.heap.size < (w.alloc (.cells #[pt z] 95)).heap.size := by simp
  generalize w.alloc (.cells #[pt z] 95) = w1 at HB k3 r0 hz1 hr1 ⊢
  have HN : Hid _ := hid (snewest_any w1.drew z h k3 hz1)
  have hb2 : Below w1.heap.size w1 (w1.drew.alloc (.cells #[pt z] 95)) := by
    have h := below_walk w1.drew (.cells #[pt z] 95)
    exact ⟨h.os, h.tape, h.output, h.size, h.block⟩
  have HB2 : Hid _ := hid (HB.out.trans (hb2.mono HB.out.size))
  obtain ⟨pe, qe, be⟩ := HE.out.below HB2.out
  have rW := (hb2.cell (p := ⟨w.heap.size, 0, none⟩) hr1).trans r0
  have hW : ∃ W, w1.drew.alloc (.cells #[pt z] 95) = W := ⟨_, rfl⟩
  obtain ⟨W, hW⟩ := hW
  rw [hW] at be HB2 rW
  have e2 : W.cell? ⟨e, 2, none⟩ = some (.pointer pe) := by simp [World.cell?, be]
  have e3 : W.cell? ⟨e, 3, none⟩ = some (.pointer qe) := by simp [World.cell?, be]
  have f2 : W.frozen? ⟨e, 2, none⟩ = false := by simp [World.frozen?, be]
  have f3 : W.frozen? ⟨e, 3, none⟩ = false := by simp [World.frozen?, be]
  have e3' : ∀ u, (W.setCell ⟨e, 2, none⟩ u).cell? ⟨e, 3, none⟩ = some (.pointer qe) := fun u => by rw [cell_set_other (by omega)]; exact e3
  have f3' : ∀ u, (W.setCell ⟨e, 2, none⟩ u).frozen? ⟨e, 3, none⟩ = false := fun u => by rw [World.frozen?_setCell]; exact f3
  have HW : Hid _ := hid hW
  clear hW be hb2
  go_region_with (go_at_call 67; refine HN.out.mono ?_; rintro r w2 ⟨rfl, h2⟩; rw [HW.out] at h2; subst h2)
  all_goals
    (obtain ⟨W3, HW3⟩ : ∃ W3, Hid ((w2.setCell ⟨e, 2, none⟩ (pt z)).setCell ⟨e, 3, none⟩ (pt h) = W3) := ⟨_, rfl⟩
     rw [HW3.out]
     have q1 : Rp 99 w2 W3 [e] := by rw [← HW3.out]; exact (Rp.set2 _ w2 e _).trans (Rp.set3 _ _ e _) (by simp)
     have g2 : W3.cell? ⟨e, 2, none⟩ = some (pt z) := by rw [← HW3.out, cell_set_other (by omega)]; exact cell_set_same (by rw [e2]; rfl)
     have g3 : W3.cell? ⟨e, 3, none⟩ = some (pt h) := by rw [← HW3.out]; exact cell_set_same (by rw [e3']; rfl)
     obtain ⟨pz, qz, bz⟩ := q1.en (HZ.out.below HB2.out)
     obtain ⟨ph, qh, bh⟩ := q1.en (HH.out.below HB2.out)
     have z3 : W3.cell? ⟨z, 3, none⟩ = some (.pointer qz) := by simp [World.cell?, bz]
     have y2 : W3.cell? ⟨h, 2, none⟩ = some (.pointer ph) := by simp [World.cell?, bh]
     have fz : W3.frozen? ⟨z, 3, none⟩ = false := by simp [World.frozen?, bz]
     have fh : W3.frozen? ⟨h, 2, none⟩ = false := by simp [World.frozen?, bh]
     have y2' : ∀ u, (W3.setCell ⟨z, 3, none⟩ u).cell? ⟨h, 2, none⟩ = some (.pointer ph) := fun u => by rw [cell_set_other (by omega)]; exact y2
     have fh' : ∀ u, (W3.setCell ⟨z, 3, none⟩ u).frozen? ⟨h, 2, none⟩ = false := fun u => by rw [World.frozen?_setCell]; exact fh
     clear q1 bz bh e2 e3 f2 f3 e3' f3' rW HW HN
     go_upto_region 2 with fail
     go_region
     go_end0
     refine ⟨rfl, ?_⟩
     rw [← HW3.out]
     exact (lay_mk HB2.out HE.out HZ.out HH.out n1 n2).drew)

end Go.Proofs.Ytnbbebapfiocpaa

/- renew, newRow, isItself, made (keys of type string). -/
namespace Go.Proofs.Ytnbbebapfiocpaa
open Go.RowKit

set_option maxHeartbeats 1000000 in
theorem srenew_any (w : World) (z e : Nat) (A B : List Nat) (h : Rg 99 w z (A ++ e :: B)) :
    Calls Try.prog 51 #[.agg #[pt z], pt e] w fun r w' => r = .returned (.tuple #[]) ∧ Rg 99 w' z (e :: (A ++ B)) ∧ Rp 99 w w' (z :: (A ++ e :: B)) := by
  have hb := below_walk w (.cells #[pt z] 95)
  have h1 := h.below hb
  have hrow := hp_new w (.cells #[pt z] 95)
  have r0 : (w.alloc (.cells #[pt z] 95)).cell? ⟨w.heap.size, 0, none⟩ = some (pt z) := by unfold World.cell?; rw [hrow]; rfl
  have hr1 : w.heap.size < (w.alloc (.cells #[pt z] 95)).heap.size := by simp
  have hout : w.heap.size ∉ z :: (A ++ e :: B) := fun hx => by have := h.lt _ hx; omega
  have HO := hid hout
  have HB := hid hb
  have HR := hid h1
  have HND := hid h.nd
  clear hb h1 hrow h hout
  go_enter Try.func51, Try.ntmps51
  go_upto_region 1 with fail
  try simp only [Act.put, List.setIfInBounds_toArray, List.set_cons_succ, List.set_cons_zero]
  generalize w.alloc (.cells #[pt z] 95) = w1 at HB HR r0 hr1 ⊢
  obtain ⟨a, c, ia, ic, h2, h3, hnext⟩ := HR.out.lift
  obtain ⟨ke, ve, ee⟩ := HR.out.en e (by simp)
  obtain ⟨ka, va, ea⟩ := HR.out.en a ia
  obtain ⟨kc, vc, ec⟩ := HR.out.en c ic
  have HL := hid (slift_any w1 z e a c ee ea ec h2 h3)
  have HNX := hid hnext
  have HE := hid ee
  have HIA := hid ia
  have HIC := hid ic
  clear ea ec h2 h3 hnext ia ic ee
  go_wp2_with fail
  refine HL.out.mono ?_
  rintro r w2 ⟨rfl, hl2⟩
  have HR2 := hid (HNX.out w2 hl2)
  have HRP2 := hid hl2.rp
  have r2 : w2.cell? ⟨w.heap.size, 0, none⟩ = some (pt z) := by
    rw [hl2.cs _ 0 hr1 (by omega) (by omega)]; exact r0
  have he2 : Hid (En 99 w2 e ke ve) := hl2.rp.en HE.out
  have hne : e ∉ z :: (A ++ B) := by
    have := HND.out
    rw [List.nodup_cons, List.nodup_append] at this
    intro hx
    rcases List.mem_cons.1 hx with rfl | hx
    · exact this.1 (by simp)
    · rcases List.mem_append.1 hx with hx | hx
      · exact this.2.2.2 e hx e (by simp) rfl
      · exact (List.nodup_cons.1 this.2.2.1).1 hx
  obtain ⟨d, id, hz3, hnext⟩ := HR2.out.lay he2.out hne
  obtain ⟨kz, vz, ez⟩ := HR2.out.en z (by simp)
  obtain ⟨kd, vd, ed⟩ := HR2.out.en d id
  have HY := hid (slay_any w2 z e d he2.out ez ed hz3 (fun q => hne (by simp [q])) (fun q => hne (q ▸ id)))
  have HNX2 := hid hnext
  have HID := hid id
  have HNE := hid hne
  clear hl2 ez ed hz3 hnext id HL HNX hne
  go_wp2_with fail
  refine HY.out.mono ?_
  rintro r w3 ⟨rfl, hy3⟩
  go_wp2_with fail
  go_end0
  refine ⟨rfl, HNX2.out w3 hy3, ((Rp.of_below HB.out (z :: (A ++ e :: B))).trans HRP2.out (fun k hk => Or.inl ?_)).trans hy3.rp (fun k hk => Or.inl ?_)⟩
  · simp only [List.mem_cons, List.not_mem_nil, or_false] at hk
    rcases hk with rfl | rfl
    · exact HIA.out
    · exact HIC.out
  · have hid := HID.out
    simp only [List.mem_cons, List.mem_append, List.not_mem_nil, or_false] at hk hid ⊢
    rcases hk with rfl | rfl | rfl
    · simp
    · simp
    · rcases hid with h | h | h <;> simp [h]

set_option maxHeartbeats 1000000 in
theorem snewRow_any (w : World) :
    Calls Try.prog 61 #[] w fun r w' => r = .returned (.agg #[pt (w.heap.size + 1)]) ∧ Rg 99 w' (w.heap.size + 1) [] ∧ Below w.heap.size w w' := by
  go_enter Try.func61, Try.ntmps61
  go_wp2
  have hb1 := hp_new (w.alloc (.cells #[pt (w.heap.size + 1)] 95)) (.cells #[ .string { data := #[] }, .int .i64 0, pt (w.heap.size + 1), pt (w.heap.size + 1)] 99)
  rw [World.size_alloc] at hb1
  refine ret_row 0 95 rfl w.heap.size rfl [pt (w.heap.size + 1)] 95 ?_ _ Try.underlying95 rfl (by kernel_rfl) rfl ?_
  · exact (hp_old _ _ _ (by simp)).trans (hp_new w _)
  refine ⟨rfl, ⟨?_, ⟨⟨?_, ?_⟩, trivial⟩, by simp⟩, ((Below.refl _ _).alloc (Nat.le_refl _) _).alloc (by simp) _⟩
  · intro x hx
    obtain rfl : x = w.heap.size + 1 := by simpa using hx
    exact ⟨_, _, _, _, hb1⟩
  · exact (cell_of_row _ _ 3 _ _ _ hb1).trans rfl
  · exact (cell_of_row _ _ 2 _ _ _ hb1).trans rfl

theorem scatch_idle (p : Addr) (w : World) :
    CallsD Try.prog 62 #[.pointer (some p)] .returning w fun e u' w' => e = .returned (.tuple #[]) ∧ u' = .returning ∧ w' = w := by
  refine callsD_of_wpS Try.func62 rfl fun c₀ cs hu => ?_
  apply wpS_seq
  apply wpS_region
  simp [wpOpsS, go_sem, recoverD, hu, Try.ntmps62, Exit.thenS]
  refine wpS_cond (t := false) (by simp [Act.eval, Array.replicate]) ?_
  simp only [Bool.false_eq_true, if_false]
  refine wpS_of_wp (wp_skip ?_)
  cases c₀
  simp_all [bodyPostS, results, Try.results62]

set_option maxHeartbeats 1000000 in
theorem sisItself_any (w : World) (k : ByteArray) :
    Calls Try.prog 50 #[ .string k ] w fun e w' => e = .returned (.bool true) ∧ Below w.heap.size w w' := by
  have hmf : ∀ (fn : Fn) (first cap : Array Value) (w : World), (Instr.makeFunc fn first cap).run Try.prog w = .ok (.func fn first cap) w := fun _ _ _ _ => rfl
  go_enter_defers Try.func50, Try.ntmps50
  go_wp2
  refine leaves_cons (f := 62) (args := #[.pointer (some ⟨w.heap.size, 0, none⟩)]) (by simp) (by simp [go_sem]) ?_
  refine (scatch_idle ⟨w.heap.size, 0, none⟩ _).mono ?_
  rintro e u' w'' ⟨rfl, rfl, rfl⟩
  simp [Leaves, settle, results, Try.results50, go_sem]
  exact below_walk w _

end Go.Proofs.Ytnbbebapfiocpaa

/- A memo's blocks (keys of type string). -/
namespace Go.Proofs.Ytnbbebapfiocpaa
open Go.RowKit

/-- an entry: its block, key and value -/
structure sNd where
  b : Nat
  k : ByteArray
  v : Int

def skV (k : ByteArray) : Value := .string k
def skL (k : ByteArray) : Lit := .string k.data.toList
def sKok (k : ByteArray) : Prop := k.size ≤ maxLen
theorem skL_inj (a b : ByteArray) (h : skL a = skL b) : a = b := by
  unfold skL at h
  have h : a.data.toList = b.data.toList := by simpa using h
  exact ByteArray.ext (Array.toList_inj.1 h)
theorem skey {k : ByteArray} (h : sKok k) : keyOf Try.prog 9 (skV k) = some (skL k) :=
  WideMaps.keyOf_string_mk Try.underlying9 h
theorem skeyed : Maps.Keyed Try.prog 9 := Maps.string_keyed Try.underlying9
theorem szeroE (w : World) : (zeroValue 92).run Try.prog w = .ok (.pointer none) w := by kernel_rfl

def sbs (N : List sNd) : List Nat := N.map (·.b)
def sat (N : List sNd) (k : ByteArray) : Option Nat := (N.find? (fun n => decide (n.k = k))).map (·.b)

theorem sat_some {N : List sNd} (hd : (N.map (·.k)).Nodup) {n : sNd} (hn : n ∈ N) : sat N n.k = some n.b := by
  induction N with
  | nil => cases hn
  | cons x r ih =>
    simp only [List.map_cons, List.nodup_cons] at hd
    rcases List.mem_cons.1 hn with rfl | hn
    · simp [sat]
    · have hne : ¬ x.k = n.k := fun e => hd.1 (by rw [e]; exact List.mem_map.2 ⟨n, hn, rfl⟩)
      have := ih hd.2 hn
      unfold sat at this ⊢
      rw [List.find?_cons_of_neg (by simpa using hne)]
      exact this
theorem sat_none {N : List sNd} {k : ByteArray} (h : ∀ n ∈ N, n.k ≠ k) : sat N k = none := by
  unfold sat
  rw [List.find?_eq_none.2 (fun n hn => by simpa using h n hn)]
  rfl
theorem sat_eq {N N' : List sNd} (hd : (N.map (·.k)).Nodup) (hd' : (N'.map (·.k)).Nodup) (h : ∀ n, n ∈ N ↔ n ∈ N') : sat N = sat N' := by
  funext k
  by_cases hk : ∃ n ∈ N, n.k = k
  · obtain ⟨n, hn, rfl⟩ := hk
    rw [sat_some hd hn, sat_some hd' ((h n).1 hn)]
  · rw [sat_none (fun n hn e => hk ⟨n, hn, e⟩), sat_none (fun n hn e => hk ⟨n, (h n).2 hn, e⟩)]
theorem sat_split {N : List sNd} {k : ByteArray} {b : Nat} (h : sat N k = some b) : ∃ A n B, N = A ++ n :: B ∧ n.k = k ∧ n.b = b := by
  unfold sat at h
  cases hf : N.find? (fun n => decide (n.k = k)) with
  | none => rw [hf] at h; cases h
  | some n =>
    rw [hf] at h
    obtain ⟨A, B, hN⟩ := List.append_of_mem (List.mem_of_find?_eq_some hf)
    exact ⟨A, n, B, hN, by simpa using List.find?_some hf, by simpa using h⟩
theorem sat_not {N : List sNd} {k : ByteArray} (h : sat N k = none) : ∀ n ∈ N, n.k ≠ k := by
  unfold sat at h
  intro n hn e
  have := List.find?_eq_none.1 (Option.map_eq_none_iff.1 h) n hn
  simp [e] at this

/-- block m is a memo that New or Copy gave -/
structure sMm (w : World) (base m mb z most : Nat) (N : List sNd) (h mi g : Int) : Prop where
  lo : ∀ x ∈ m :: mb :: z :: sbs N, base ≤ x
  blk : w.heap[m]? = some (.cells #[.int .i64 most, .map (some mb), pt z, .int .i64 h, .int .i64 mi, .int .i64 g] 97 (0, 0))
  map : Mp Try.prog 9 skL w mb (sat N) N.length
  ring : Rg 99 w z (sbs N)
  ents : ∀ n ∈ N, En 99 w n.b (skV n.k) (.int .i64 n.v)
  kd : (N.map (·.k)).Nodup
  kok : ∀ n ∈ N, sKok n.k
  one : 1 ≤ most
  big : most ≤ 4096
  le : N.length ≤ 4096

section
variable {w w' : World} {base m mb z most : Nat} {N : List sNd} {h mi g : Int}
theorem sMm.lt (q : sMm w base m mb z most N h mi g) : m < w.heap.size := hp_lt q.blk
theorem sMm.lts (q : sMm w base m mb z most N h mi g) : ∀ x ∈ m :: mb :: z :: sbs N, x < w.heap.size := by
  intro x hx
  rcases List.mem_cons.1 hx with rfl | hx
  · exact q.lt
  · rcases List.mem_cons.1 hx with rfl | hx
    · exact q.map.lt
    · exact q.ring.lt x hx
theorem sMm.c0 (q : sMm w base m mb z most N h mi g) : w.cell? ⟨m, 0, none⟩ = some (.int .i64 most) := by simp [World.cell?, q.blk]
theorem sMm.c1 (q : sMm w base m mb z most N h mi g) : w.cell? ⟨m, 1, none⟩ = some (.map (some mb)) := by simp [World.cell?, q.blk]
theorem sMm.c2 (q : sMm w base m mb z most N h mi g) : w.cell? ⟨m, 2, none⟩ = some (pt z) := by simp [World.cell?, q.blk]
theorem sMm.c3 (q : sMm w base m mb z most N h mi g) : w.cell? ⟨m, 3, none⟩ = some (.int .i64 h) := by simp [World.cell?, q.blk]
theorem sMm.c4 (q : sMm w base m mb z most N h mi g) : w.cell? ⟨m, 4, none⟩ = some (.int .i64 mi) := by simp [World.cell?, q.blk]
theorem sMm.c5 (q : sMm w base m mb z most N h mi g) : w.cell? ⟨m, 5, none⟩ = some (.int .i64 g) := by simp [World.cell?, q.blk]
theorem sMm.fz (q : sMm w base m mb z most N h mi g) (i : Nat) : w.frozen? ⟨m, i, none⟩ = false := by simp [World.frozen?, q.blk]
theorem sMm.mOut (q : sMm w base m mb z most N h mi g) : m ∉ z :: sbs N := fun hx => by
  obtain ⟨k, v, e⟩ := q.ring.en m hx
  obtain ⟨cs, he⟩ := e.typ q.blk
  simp at he
theorem sMm.mMap (q : sMm w base m mb z most N h mi g) : m ≠ mb := q.map.notRow q.blk
theorem sMm.mapOut (q : sMm w base m mb z most N h mi g) : mb ∉ z :: sbs N := fun hx => by
  obtain ⟨k, v, p, q', e⟩ := q.ring.en mb hx
  exact q.map.notRow e rfl
theorem sMm.fr {F : List Nat} (q : sMm w base m mb z most N h mi g) (r : Fr w w' F) (hF : ∀ x ∈ m :: mb :: z :: sbs N, x ∉ F) : sMm w' base m mb z most N h mi g :=
  ⟨q.lo, r.blk q.blk (hF m (by simp)), q.map.fr r (hF mb (by simp)), q.ring.fr r (fun x hx => hF x (List.mem_cons_of_mem _ (List.mem_cons_of_mem _ hx))),
    fun n hn => (q.ents n hn).fr r (hF _ (by simp only [List.mem_cons]; exact Or.inr (Or.inr (Or.inr (List.mem_map.2 ⟨n, hn, rfl⟩))))), q.kd, q.kok, q.one, q.big, q.le⟩
theorem sMm.below (q : sMm w base m mb z most N h mi g) (r : Below w.heap.size w w') : sMm w' base m mb z most N h mi g := q.fr (Fr.of_below r []) (by simp)
theorem sMm.drewN (q : sMm w base m mb z most N h mi g) (n : Nat) : sMm (w.drewN n) base m mb z most N h mi g := q.below (below_drewN w n)
theorem sMm.base_le (q : sMm w base m mb z most N h mi g) : base ≤ w.heap.size := by have := q.lo m (by simp); have := q.lt; omega
theorem sMm.set (q : sMm w base m mb z most N h mi g) (i : Nat) (u : Value) {most' : Nat} {h' mi' g' : Int} (h1 : 1 ≤ most') (h2 : most' ≤ 4096)
    (hu : (#[.int .i64 most, .map (some mb), pt z, .int .i64 h, .int .i64 mi, .int .i64 g] : Array Value).setIfInBounds i u = #[.int .i64 most', .map (some mb), pt z, .int .i64 h', .int .i64 mi', .int .i64 g']) :
    sMm (w.setCell ⟨m, i, none⟩ u) base m mb z most' N h' mi' g' := by
  have r := Fr.set w m i u
  have o := q.mOut
  refine ⟨q.lo, by rw [blk_set q.blk, hu], q.map.fr r (by simpa using fun e => q.mMap e.symm), q.ring.fr r (fun x hx e => o (by simp at e; exact e ▸ hx)),
    fun n hn => (q.ents n hn).fr r (fun e => o ?_), q.kd, q.kok, h1, h2, q.le⟩
  simp at e
  rw [← e]
  exact List.mem_cons_of_mem _ (List.mem_map.2 ⟨n, hn, rfl⟩)
theorem sMm.setH (q : sMm w base m mb z most N h mi g) (x : Int) : sMm (w.setCell ⟨m, 3, none⟩ (.int .i64 x)) base m mb z most N x mi g := q.set 3 _ q.one q.big rfl
theorem sMm.setM (q : sMm w base m mb z most N h mi g) (x : Int) : sMm (w.setCell ⟨m, 4, none⟩ (.int .i64 x)) base m mb z most N h x g := q.set 4 _ q.one q.big rfl
theorem sMm.setG (q : sMm w base m mb z most N h mi g) (x : Int) : sMm (w.setCell ⟨m, 5, none⟩ (.int .i64 x)) base m mb z most N h mi x := q.set 5 _ q.one q.big rfl
/-- the entries stand in another order -/
theorem sMm.turn {N' : List sNd} (q : sMm w base m mb z most N h mi g) (hm : ∀ n, n ∈ N ↔ n ∈ N') (hd : (N'.map (·.k)).Nodup) (hl : N'.length = N.length) (r : Rg 99 w' z (sbs N')) (p : Rp 99 w w' (z :: sbs N)) : sMm w' base m mb z most N' h mi g := by
  have e0 : ∀ x, x ∈ sbs N' ↔ x ∈ sbs N := fun x => by
    simp only [sbs, List.mem_map]
    exact ⟨fun ⟨n, h1, h2⟩ => ⟨n, (hm n).2 h1, h2⟩, fun ⟨n, h1, h2⟩ => ⟨n, (hm n).1 h1, h2⟩⟩
  refine ⟨fun x hx => q.lo x ?_, p.fr.blk q.blk q.mOut, ?_, r, fun n hn => p.en (q.ents n ((hm n).2 hn)), hd, fun n hn => q.kok n ((hm n).2 hn), q.one, q.big, by rw [hl]; exact q.le⟩
  · simp only [List.mem_cons, e0] at hx ⊢
    exact hx
  · rw [← sat_eq q.kd hd hm, hl]
    exact q.map.fr p.fr q.mapOut
end

end Go.Proofs.Ytnbbebapfiocpaa

/- made, find, Get, Look, Len (keys of type string). -/
namespace Go.Proofs.Ytnbbebapfiocpaa
open Go.RowKit

section

variable {w : World} {base m mb z most : Nat} {N : List sNd} {h mi g : Int}


set_option maxHeartbeats 400000 in
theorem smade_any (q : sMm w base m mb z most N h mi g) :
    Calls Try.prog 49 #[pt m] w fun e w' => e = .returned (.bool true) ∧ w' = w := by
  have c0 := q.c0
  have h1 : 0 < most := q.one
  clear q
  go_enter Try.func49, Try.ntmps49
  go_wp2
  go_ret
  exact ⟨rfl, rfl⟩

set_option maxHeartbeats 400000 in
theorem slen_any (q : sMm w base m mb z most N h mi g) :
    Calls Try.prog 28 #[pt m] w fun e w' => e = .returned (.int .i64 N.length) ∧ w' = w := by
  have c1 := q.c1
  have hl := q.map.len Try.underlying93
  have HM := hid (smade_any q)
  clear q
  go_enter Try.func28, Try.ntmps28
  go_wp2_with fail
  refine HM.out.mono ?_
  rintro e w1 ⟨rfl, hw⟩
  subst hw
  go_wp2
  go_ret
  exact ⟨rfl, rfl⟩

set_option maxHeartbeats 400000 in
theorem sfind_any (q : sMm w base m mb z most N h mi g) (k : ByteArray) (hk : sKok k) :
    Calls Try.prog 54 #[pt m, skV k] w fun e w' => e = .returned (ptO (sat N k)) ∧ Below w.heap.size w w' := by
  have HI := hid (sisItself_any w k)
  have HQ := hid q
  have HK := hid hk
  clear q hk
  obtain ⟨κ, hκ⟩ : ∃ κ, skV k = κ := ⟨_, rfl⟩
  have HI2 : Hid (Calls Try.prog 50 #[κ] w fun e w' => e = .returned (.bool true) ∧ Below w.heap.size w w') := by rw [← hκ]; exact HI
  have HE := hid hκ
  rw [hκ]
  clear HI hκ
  go_enter Try.func54, Try.ntmps54
  go_wp2_with fail
  refine HI2.out.mono ?_
  rintro e w1 ⟨rfl, hb1⟩
  have HB1 := hid hb1
  have q1 := HQ.out.below hb1
  have c1 := q1.c1
  have hlook := q1.map.look skeyed Try.underlying93 (szeroE w1) (skey HK.out)
  rw [HE.out] at hlook
  clear q1 hb1
  obtain ⟨v, HV⟩ : ∃ v, Hid (ptO (sat N k) = v) := ⟨_, rfl⟩
  rw [HV.out] at hlook
  go_wp2
  go_ret
  exact ⟨by rw [HV.out]; rfl, HB1.out⟩


set_option maxHeartbeats 1000000 in
theorem sget_miss (q : sMm w base m mb z most N h mi g) (k : ByteArray) (hk : sKok k) (hn : sat N k = none) :
    Calls Try.prog 27 #[pt m, skV k] w fun e w' => e = .returned (.tuple #[.int .i64 0, .bool false]) ∧ sMm w' base m mb z most N h (wrap64 (mi + 1)) g ∧ Fr w w' [m] := by
  have HM := hid (smade_any q)
  have HF := hid (sfind_any q k hk)
  rw [hn, ptO_none] at HF
  have HQ := hid q
  clear q hn hk
  generalize skV k = κ at HF ⊢
  go_enter Try.func27, Try.ntmps27
  go_wp2_with fail
  refine HM.out.mono ?_
  rintro e w1 ⟨rfl, hw⟩
  subst hw
  go_wp2_with fail
  refine HF.out.mono ?_
  rintro e w2 ⟨rfl, hb2⟩
  have HB2 := hid hb2
  have HQ2 := hid (HQ.out.below hb2)
  have c4 := HQ2.out.c4
  have f4 := HQ2.out.fz 4
  clear hb2
  go_wp2
  go_ret2
  exact ⟨rfl, HQ2.out.setM _, (Fr.of_below HB2.out [m]).trans (Fr.set _ _ _ _) (by simp)⟩

set_option maxHeartbeats 1000000 in
theorem sget_hit (A B : List sNd) (n : sNd) (q : sMm w base m mb z most (A ++ n :: B) h mi g) :
    Calls Try.prog 27 #[pt m, skV n.k] w fun e w' => e = .returned (.tuple #[.int .i64 n.v, .bool true]) ∧ sMm w' base m mb z most (n :: (A ++ B)) (wrap64 (h + 1)) mi g ∧ Fr w w' (m :: z :: sbs (A ++ n :: B)) := by
  have hn : n ∈ A ++ n :: B := by simp
  have HM := hid (smade_any q)
  have HF := hid (sfind_any q n.k (q.kok n hn))
  rw [sat_some q.kd hn, ptO_some] at HF
  have HQ := hid q
  clear q hn
  obtain ⟨κ, HK⟩ : ∃ κ, Hid (skV n.k = κ) := ⟨_, rfl⟩
  rw [HK.out] at HF ⊢
  obtain ⟨b, HBb⟩ : ∃ b, Hid (n.b = b) := ⟨_, rfl⟩
  rw [HBb.out] at HF
  obtain ⟨v, HV⟩ : ∃ v, Hid (n.v = v) := ⟨_, rfl⟩
  rw [HV.out]
  go_enter Try.func27, Try.ntmps27
  go_wp2_with fail
  refine HM.out.mono ?_
  rintro e w1 ⟨rfl, hw⟩
  subst hw
  go_wp2_with fail
  refine HF.out.mono ?_
  rintro e w2 ⟨rfl, hb2⟩
  have HB2 := hid hb2
  have HQ2 := hid (HQ.out.below hb2)
  have c3 := HQ2.out.c3
  have f3 := HQ2.out.fz 3
  have HQ3 := hid (HQ2.out.setH (wrap64 (h + 1)))
  have d2 := HQ3.out.c2
  have HR : Hid (Rg 99 (w2.setCell ⟨m, 3, none⟩ (.int .i64 (wrap64 (h + 1)))) z (sbs A ++ b :: sbs B)) := by
    have := HQ3.out.ring
    rw [show sbs (A ++ n :: B) = sbs A ++ b :: sbs B by simp [sbs, HBb.out]] at this
    exact this
  have HRN := hid (srenew_any _ z b (sbs A) (sbs B) HR.out)
  clear hb2 HR
  go_wp2_with fail
  refine HRN.out.mono ?_
  rintro e w3 ⟨rfl, hr3, hp3⟩
  have HQ4 : Hid (sMm w3 base m mb z most (n :: (A ++ B)) (wrap64 (h + 1)) mi g) := by
    refine HQ3.out.turn (fun x => ?_) ?_ (by simp; omega) ?_ ?_
    · simp only [List.mem_append, List.mem_cons]
      exact ⟨fun h => by rcases h with h | h | h <;> simp [h], fun h => by rcases h with h | h | h <;> simp [h]⟩
    · have := HQ3.out.kd
      exact (List.Perm.nodup_iff (by simp)).1 this
    · rw [show sbs (n :: (A ++ B)) = b :: (sbs A ++ sbs B) by simp [sbs, HBb.out]]; exact hr3
    · rw [show sbs (A ++ n :: B) = sbs A ++ b :: sbs B by simp [sbs, HBb.out]]; exact hp3
  have HFR : Hid (Fr w1 w3 (m :: z :: sbs (A ++ n :: B))) := by
    refine ((Fr.of_below HB2.out _).trans (Fr.set w2 m 3 (.int .i64 (wrap64 (h + 1)))) (by simp)).trans hp3.fr (fun k hk => Or.inl ?_)
    rw [show sbs (A ++ n :: B) = sbs A ++ b :: sbs B by simp [sbs, HBb.out]]
    exact List.mem_cons_of_mem _ hk
  have e1 : w3.cell? ⟨b, 1, none⟩ = some (.int .i64 v) := by
    have := (HQ4.out.ents n (by simp)).c1
    rw [HBb.out, HV.out] at this
    exact this
  clear hr3 hp3
  go_wp2
  go_ret2
  exact ⟨rfl, HQ4.out, HFR.out⟩

end

end Go.Proofs.Ytnbbebapfiocpaa

/- empty, New, add, remove, forget, Put (keys of type string). -/
namespace Go.Proofs.Ytnbbebapfiocpaa
open Go.RowKit

theorem sbs_app (A B : List sNd) : sbs (A ++ B) = sbs A ++ sbs B := by simp [sbs]

theorem sbs_cons (n : sNd) (B : List sNd) : sbs (n :: B) = n.b :: sbs B := rfl

set_option maxHeartbeats 1000000 in
theorem sempty_any (w : World) (most : Nat) (h1 : 1 ≤ most) (h2 : most ≤ 4096) :
    Calls Try.prog 48 #[.int .i64 most] w fun e w' => ∃ m mb z, e = .returned (pt m) ∧ sMm w' w.heap.size m mb z most [] 0 0 0 ∧ Below w.heap.size w w' := by
  have HN := hid (snewRow_any (w.alloc (.map #[] 0)))
  have hmm := @run_makeMap Try.prog 93
  have HMP := hid (Mp.made w Try.prog 9 skL)
  go_enter Try.func48, Try.ntmps48
  go_wp2_with fail
  refine HN.out.mono ?_
  rintro e w2 ⟨rfl, hr2, hb2⟩
  have HR2 := hid hr2
  have HB2 := hid hb2
  have HMP2 : Hid (Mp Try.prog 9 skL w2 w.heap.size (fun _ => none) 0) := HMP.out.fr (Fr.of_below hb2 []) (by simp)
  have hs2 : w.heap.size + 1 ≤ w2.heap.size := by have := hb2.size; simpa using this
  have hz2 : w.heap.size + 1 + 1 < w2.heap.size := by have := hr2.lt (w.heap.size + 1 + 1) (by simp); simpa using this
  rw [World.size_alloc] at HR2
  clear hr2 hb2 hmm HMP HN
  go_wp2
  go_ret
  obtain ⟨M, hM⟩ : ∃ M : Obj, M = .cells #[.int .i64 most, .map (some w.heap.size), pt (w.heap.size + 1 + 1), .int .i64 0, .int .i64 0, .int .i64 0] 97 (0, 0) := ⟨_, rfl⟩
  refine ⟨w2.heap.size, w.heap.size, w.heap.size + 1 + 1, rfl, ⟨?_, hp_new w2 _, ?_, HR2.out.below (below_walk w2 _), by simp, by simp, by simp, h1, h2, by simp⟩, ?_⟩
  · intro x hx
    simp [sbs] at hx
    omega
  · exact HMP2.out.fr (Fr.of_below (below_walk w2 _) []) (by simp)
  · exact ((below_walk w _).trans (HB2.out.mono (by simp))).trans ((below_walk w2 _).mono (by omega))

set_option maxHeartbeats 1000000 in
theorem snew_ok (w : World) (most : Nat) (h1 : 1 ≤ most) (h2 : most ≤ 4096) :
    Calls Try.prog 25 #[.int .i64 most] w fun e w' => ∃ m mb z, e = .returned (.tuple #[pt m, .int .i64 0]) ∧ sMm w' w.heap.size m mb z most [] 0 0 0 ∧ Below w.heap.size w w' := by
  have HE := hid (sempty_any w most h1 h2)
  have k1 : (1 : Int) ≤ most := by omega
  have k2 : (most : Int) ≤ 4096 := by omega
  go_enter Try.func25, Try.ntmps25
  go_wp2_with (first | (go_at_call 23; go_in) | (go_at_call 48; refine HE.out.mono ?_; rintro e w2 ⟨m, mb, z, rfl, hq⟩))
  go_ret2
  exact ⟨m, mb, z, rfl, hq⟩

set_option maxHeartbeats 1000000 in
theorem snew_bad (w : World) (most : Int) (h : most < 1 ∨ 4096 < most) :
    Calls Try.prog 25 #[.int .i64 most] w fun e w' => e = .returned (.tuple #[.pointer none, .int .i64 1]) ∧ w' = w := by
  by_cases h1 : most < 1
  · have h1' : ¬ 1 ≤ most := by omega
    clear h
    go_enter Try.func25, Try.ntmps25
    go_wp2_with (go_at_call 23; go_in)
    go_ret2
    exact ⟨rfl, rfl⟩
  · have h1' : 1 ≤ most := by omega
    have h2' : ¬ most ≤ 4096 := by omega
    clear h h1
    go_enter Try.func25, Try.ntmps25
    go_wp2_with (go_at_call 23; go_in)
    go_ret2
    exact ⟨rfl, rfl⟩

section
variable {w : World} {base m mb z most : Nat} {N : List sNd} {h mi g : Int}

set_option maxHeartbeats 2000000 in
theorem sadd_any (q : sMm w base m mb z most N h mi g) (k : ByteArray) (hk : sKok k) (hn : sat N k = none) (hl : N.length < most) (v : Int) :
    Calls Try.prog 53 #[pt m, skV k, .int .i64 v] w fun e w' => e = .returned (.tuple #[]) ∧ sMm w' base m mb z most (⟨w.heap.size, k, v⟩ :: N) h mi g ∧ Fr w w' (m :: mb :: z :: sbs N) := by
  have HK : Hid (skV k = (.string k)) := rfl
  rw [HK.out]
  have hb1 := below_walk w (.cells #[(.string k), .int .i64 v, .pointer none, .pointer none] 99)
  have HQ1 := hid (q.below hb1)
  have hnew := hp_new w (.cells #[(.string k), .int .i64 v, .pointer none, .pointer none] 99)
  have c1 := HQ1.out.c1
  have hkey := skey hk
  rw [HK.out] at hkey
  obtain ⟨w2, hup, hmp2, hg2⟩ := HQ1.out.map.put skeyed skL_inj Try.underlying93 (by have := q.big; unfold maxLen; omega) hkey w.heap.size hn
  have HQ := hid q
  have HB1 := hid hb1
  have HMP := hid hmp2
  have HN := hid hn
  have HF2 := hid (Fr.of_grown hg2)
  have HNew := hid (En.fr (T := 99) ⟨none, none, hnew⟩ (Fr.of_grown hg2) (by simp only [List.mem_cons, List.not_mem_nil, or_false]; exact fun e => by have := q.map.lt; omega))
  have HR2 := hid (HQ1.out.ring.fr HF2.out (fun x hx e => by simp at e; exact HQ1.out.mapOut (e ▸ hx)))
  have c2 : w2.cell? ⟨m, 2, none⟩ = some (pt z) := by
    rw [World.cell?_of_block (HF2.out.block m HQ1.out.lt (by simpa using HQ1.out.mMap))]; exact HQ1.out.c2
  have hout : w.heap.size ∉ z :: sbs N := fun hx => by have := q.ring.lt _ hx; omega
  obtain ⟨d, id, hz3, hnext⟩ := HR2.out.lay HNew.out hout
  obtain ⟨kz, vz, ez⟩ := HR2.out.en z (by simp)
  obtain ⟨kd, vd, ed⟩ := HR2.out.en d id
  have HY := hid (slay_any w2 z w.heap.size d HNew.out ez ed hz3 (fun q => hout (by simp [q])) (fun q => hout (q ▸ id)))
  have HNX := hid hnext
  have HID := hid id
  have HO := hid hout
  have HKK := hid hk
  have HL := hid hl
  clear hkey hmp2 hg2 hn q hb1 hnew hnext id hout ez ed hz3 hk hl
  go_enter Try.func53, Try.ntmps53
  go_wp2_with fail
  refine HY.out.mono ?_
  rintro e w3 ⟨rfl, hy⟩
  go_wp2_with fail
  go_end0
  have hfr : Fr w w3 (m :: mb :: z :: sbs N) := by
    refine ((Fr.of_below HB1.out _).trans HF2.out (by simp)).trans hy.rp.fr (fun x hx => ?_)
    simp only [List.mem_cons, List.not_mem_nil, or_false] at hx
    rcases hx with rfl | rfl | rfl
    · exact Or.inr (Nat.le_refl _)
    · exact Or.inl (by simp)
    · exact Or.inl (List.mem_cons_of_mem _ (List.mem_cons_of_mem _ HID.out))
  have hq := HQ.out
  have hat : sat (⟨w.heap.size, k, v⟩ :: N) = fun x => if x = k then some w.heap.size else sat N x := by
    funext x
    unfold sat
    by_cases hx : x = k
    · subst hx; simp
    · rw [if_neg hx, List.find?_cons_of_neg (by simpa using fun e => hx e.symm)]
  refine ⟨rfl, ⟨?_, ?_, ?_, HNX.out w3 hy, ?_, ?_, ?_, hq.one, hq.big, ?_⟩, hfr⟩
  · intro x hx
    simp only [sbs_cons, List.mem_cons] at hx
    rcases hx with rfl | rfl | rfl | rfl | hx
    · exact hq.lo _ (by simp)
    · exact hq.lo _ (by simp)
    · exact hq.lo _ (by simp)
    · exact hq.base_le
    · exact hq.lo _ (by simp [hx])
  · have hm := HQ1.out.mOut
    refine hy.rp.fr.blk (HF2.out.blk HQ1.out.blk (by simpa using HQ1.out.mMap)) (fun hx => ?_)
    simp only [List.mem_cons, List.not_mem_nil, or_false] at hx
    rcases hx with e | e | e
    · have := hq.lt; omega
    · exact hm (by simp [e])
    · exact hm (e ▸ HID.out)
  · rw [hat]
    refine HMP.out.fr hy.rp.fr (fun hx => ?_)
    have hm := HQ1.out.mapOut
    simp only [List.mem_cons, List.not_mem_nil, or_false] at hx
    rcases hx with e | e | e
    · have := hq.map.lt; omega
    · exact hm (by simp [e])
    · exact hm (e ▸ HID.out)
  · intro n hn
    rcases List.mem_cons.1 hn with rfl | hn
    · have := hy.rp.en HNew.out
      show En _ w3 w.heap.size (skV k) (.int .i64 v)
      rw [HK.out]; exact this
    · exact hy.rp.en (((HQ1.out.ents n hn)).fr HF2.out (fun e => HQ1.out.mapOut (by
        simp at e; rw [← e]; exact List.mem_cons_of_mem _ (List.mem_map.2 ⟨n, hn, rfl⟩))))
  · simp only [List.map_cons, List.nodup_cons]
    exact ⟨fun hx => by obtain ⟨n, hn, e⟩ := List.mem_map.1 hx; exact sat_not HN.out n hn e, hq.kd⟩
  · intro n hn
    rcases List.mem_cons.1 hn with rfl | hn
    · exact HKK.out
    · exact hq.kok n hn
  · have := HL.out; have := hq.big; simp; omega

set_option maxHeartbeats 2000000 in
theorem sremove_any (A B : List sNd) (n : sNd) (q : sMm w base m mb z most (A ++ n :: B) h mi g) :
    Calls Try.prog 66 #[pt m, pt n.b] w fun e w' => e = .returned (.tuple #[]) ∧ sMm w' base m mb z most (A ++ B) h mi g ∧ Fr w w' (m :: mb :: z :: sbs (A ++ n :: B)) ∧ En 99 w' n.b (skV n.k) (.int .i64 n.v) := by
  have hn : n ∈ A ++ n :: B := by simp
  obtain ⟨κ, HK⟩ : ∃ κ, Hid (skV n.k = κ) := ⟨_, rfl⟩
  obtain ⟨b, HBb⟩ : ∃ b, Hid (n.b = b) := ⟨_, rfl⟩
  rw [HBb.out]
  have bd : Below w.heap.size w w.drew := ⟨rfl, rfl, rfl, Nat.le_refl _, fun _ _ => rfl⟩
  have HQ1 := hid (q.below bd)
  have c1 := HQ1.out.c1
  have ee := HQ1.out.ents n hn
  rw [HBb.out, HK.out] at ee
  have e0 := ee.c0
  have hkey := skey (q.kok n hn)
  rw [HK.out] at hkey
  obtain ⟨w2, hdel, hmp2, hg2⟩ := HQ1.out.map.del skeyed skL_inj Try.underlying93 hkey (sat_some q.kd hn) 0
  have HQ := hid q
  have HMP := hid hmp2
  have HF2 := hid (Fr.of_grown hg2)
  have hbs : sbs (A ++ n :: B) = sbs A ++ b :: sbs B := by simp [sbs, HBb.out]
  have HR2 := hid (HQ1.out.ring.fr HF2.out (fun x hx e => by simp at e; exact HQ1.out.mapOut (e ▸ hx)))
  rw [hbs] at HR2
  have c2 : w2.cell? ⟨m, 2, none⟩ = some (pt z) := by
    rw [World.cell?_of_block (HF2.out.block m HQ1.out.lt (by simpa using HQ1.out.mMap))]; exact HQ1.out.c2
  obtain ⟨a, c, ia, ic, h2, h3, hnext⟩ := HR2.out.lift
  obtain ⟨ke, ve, e2⟩ := HR2.out.en b (by simp)
  obtain ⟨ka, va, ea⟩ := HR2.out.en a ia
  obtain ⟨kc, vc, ec⟩ := HR2.out.en c ic
  have HL := hid (slift_any w2 z b a c e2 ea ec h2 h3)
  have HNX := hid hnext
  have HIA := hid ia
  have HIC := hid ic
  have HBS := hid hbs
  have HNN := hid hn
  clear hkey hmp2 hg2 q bd hnext ia ic e2 ea ec h2 h3 ee hbs hn
  go_enter Try.func66, Try.ntmps66
  go_upto_region 0 with fail
  go_region
  go_wp2_with fail
  refine HL.out.mono ?_
  rintro e w3 ⟨rfl, hy⟩
  go_wp2_with fail
  go_end0
  have hq := HQ.out
  have hbs := HBS.out
  have hfr : Fr w w3 (m :: mb :: z :: sbs (A ++ n :: B)) := by
    have f1 : Fr w w2 [mb] := ⟨HF2.out.os, HF2.out.tape, HF2.out.output, HF2.out.size, HF2.out.block⟩
    refine (f1.mono (G := m :: mb :: z :: sbs (A ++ n :: B)) (by simp)).trans hy.rp.fr (fun x hx => Or.inl ?_)
    simp only [List.mem_cons, List.not_mem_nil, or_false] at hx
    rw [hbs]
    rcases hx with rfl | rfl
    · exact List.mem_cons_of_mem _ (List.mem_cons_of_mem _ HIA.out)
    · exact List.mem_cons_of_mem _ (List.mem_cons_of_mem _ HIC.out)
  have hkd := hq.kd
  have hkd2 : ((A ++ B).map (·.k)).Nodup := hkd.sublist (by simp)
  have hne : ∀ x ∈ A ++ B, x.k ≠ n.k := by
    intro x hx e
    have hp : ((n :: (A ++ B)).map (·.k)).Nodup := (List.Perm.nodup_iff (by simp)).1 hkd
    simp only [List.map_cons, List.nodup_cons] at hp
    exact hp.1 (e ▸ List.mem_map.2 ⟨x, hx, rfl⟩)
  have hsub : ∀ x ∈ A ++ B, x ∈ A ++ n :: B := fun x hx => by
    rcases List.mem_append.1 hx with hx | hx <;> simp [hx]
  have hat : sat (A ++ B) = fun x => if x = n.k then none else sat (A ++ n :: B) x := by
    funext x
    by_cases hx : x = n.k
    · subst hx; rw [if_pos rfl]; exact sat_none hne
    · rw [if_neg hx]
      by_cases hk : ∃ y ∈ A ++ B, y.k = x
      · obtain ⟨y, hy, rfl⟩ := hk
        rw [sat_some hkd2 hy, sat_some hkd (hsub y hy)]
      · rw [sat_none (fun y hy e => hk ⟨y, hy, e⟩), sat_none (fun y hy e => ?_)]
        rcases List.mem_append.1 hy with hy | hy
        · exact hk ⟨y, by simp [hy], e⟩
        · rcases List.mem_cons.1 hy with rfl | hy
          · exact hx e.symm
          · exact hk ⟨y, by simp [hy], e⟩
  have hmo : ∀ x ∈ [a, c], x ∈ z :: sbs (A ++ n :: B) := by
    intro x hx
    simp only [List.mem_cons, List.not_mem_nil, or_false] at hx
    rw [hbs]
    rcases hx with rfl | rfl
    · exact HIA.out
    · exact HIC.out
  have hen : ∀ x ∈ A ++ n :: B, En 99 w3 x.b (skV x.k) (.int .i64 x.v) := fun x hx =>
    hy.rp.en ((HQ1.out.ents x hx).fr HF2.out (fun e => HQ1.out.mapOut (by
        simp at e; rw [← e]; exact List.mem_cons_of_mem _ (List.mem_map.2 ⟨x, hx, rfl⟩))))
  refine ⟨rfl, ⟨?_, ?_, ?_, ?_, fun x hx => hen x (hsub x hx), hkd2, fun x hx => hq.kok x (hsub x hx), hq.one, hq.big, ?_⟩, hfr, ?_⟩
  · intro x hx
    refine hq.lo x ?_
    simp only [List.mem_cons, sbs_app, sbs_cons, List.mem_append] at hx ⊢
    rcases hx with h | h | h | h | h <;> simp [h]
  · exact hy.rp.fr.blk (HF2.out.blk HQ1.out.blk (by simpa using HQ1.out.mMap)) (fun hx => HQ1.out.mOut (hmo m hx))
  · rw [hat, show (A ++ B).length = (A ++ n :: B).length - 1 by simp]
    exact HMP.out.fr hy.rp.fr (fun hx => HQ1.out.mapOut (hmo mb hx))
  · rw [sbs_app]; exact HNX.out w3 hy
  · have := hq.le; simp at this ⊢; omega
  · have := hen n (by simp)
    rw [HBb.out] at this
    exact this

set_option maxHeartbeats 2000000 in
theorem sforget_any (A : List sNd) (n : sNd) (q : sMm w base m mb z most (A ++ [n]) h mi g) :
    Calls Try.prog 52 #[pt m] w fun e w' => e = .returned (skV n.k) ∧ sMm w' base m mb z most A h mi (wrap64 (g + 1)) ∧ Fr w w' (m :: mb :: z :: sbs (A ++ [n])) := by
  have hb1 := below_walk w (.cells #[pt z] 95)
  have c2 := q.c2
  have hold := q.ring
  rw [sbs_app] at hold
  have HOL := hid (soldest_any w z n.b hold.oldest (q.ring.lt z (by simp)))
  have HQ := hid q
  have HR := hid (sremove_any A [] n (q.below hb1))
  rw [List.append_nil] at HR
  have HB1 := hid hb1
  clear q hold hb1
  obtain ⟨b, HBb⟩ : ∃ b, Hid (n.b = b) := ⟨_, rfl⟩
  rw [HBb.out] at HOL HR
  go_enter Try.func52, Try.ntmps52
  go_wp2_with fail
  refine HOL.out.mono ?_
  rintro e w1 ⟨rfl, hw1⟩
  rw [← hw1] at HR HB1
  clear hw1 HOL
  go_wp2_with fail
  refine HR.out.mono ?_
  rintro e w2 ⟨rfl, hq2, hf2, he2⟩
  have c5 := hq2.c5
  have f5 := hq2.fz 5
  have HQ3 := hid (hq2.setG (wrap64 (g + 1)))
  have hmb : b ≠ m := by
    intro e
    subst e
    obtain ⟨cs, he⟩ := he2.typ hq2.blk
    simp at he
  have HE3 := hid (he2.fr (Fr.set w2 m 5 (.int .i64 (wrap64 (g + 1)))) (by simpa using hmb))
  have e0 := HE3.out.c0
  have HF3 : Hid (Fr w (w2.setCell ⟨m, 5, none⟩ (.int .i64 (wrap64 (g + 1)))) (m :: mb :: z :: sbs (A ++ [n]))) := ((Fr.of_below HB1.out _).trans hf2 (fun x hx => Or.inl hx)).trans (Fr.set _ _ _ _) (by simp)
  obtain ⟨κ, HK⟩ : ∃ κ, Hid (skV n.k = κ) := ⟨_, rfl⟩
  rw [HK.out] at e0
  clear hq2 hf2 he2 HR
  go_wp2
  go_ret
  exact ⟨by rw [HK.out]; rfl, HQ3.out, HF3.out⟩
end

end Go.Proofs.Ytnbbebapfiocpaa

/- Put, and the calls by the list of keys and values (keys of type string). -/
namespace Go.Proofs.Ytnbbebapfiocpaa
open Go.RowKit

theorem sMm.nodes {w : World} {base m mb z most : Nat} {A B : List sNd} {n : sNd} {h mi g : Int} (q : sMm w base m mb z most (A ++ n :: B) h mi g) : (∀ x ∈ A ++ B, x.b ≠ n.b) ∧ (∀ x ∈ A, x.k ≠ n.k) ∧ (∀ x ∈ B, x.k ≠ n.k) := by
  have h1 : (sbs (n :: (A ++ B))).Nodup := (List.Perm.nodup_iff (by simp [sbs])).1 (List.nodup_cons.1 q.ring.nd).2
  have h2 : ((n :: (A ++ B)).map (·.k)).Nodup := (List.Perm.nodup_iff (by simp)).1 q.kd
  simp only [sbs_cons, List.nodup_cons] at h1
  simp only [List.map_cons, List.nodup_cons] at h2
  refine ⟨fun x hx e => h1.1 (e ▸ List.mem_map.2 ⟨x, hx, rfl⟩), fun x hx e => h2.1 (e ▸ List.mem_map.2 ⟨x, by simp [hx], rfl⟩), fun x hx e => h2.1 (e ▸ List.mem_map.2 ⟨x, by simp [hx], rfl⟩)⟩

theorem sMm.setV {w : World} {base m mb z most : Nat} {A B : List sNd} {n : sNd} {h mi g : Int} (q : sMm w base m mb z most (A ++ n :: B) h mi g) (v : Int) :
    sMm (w.setCell ⟨n.b, 1, none⟩ (.int .i64 v)) base m mb z most (A ++ ⟨n.b, n.k, v⟩ :: B) h mi g := by
  have hbs : sbs (A ++ ⟨n.b, n.k, v⟩ :: B) = sbs (A ++ n :: B) := by simp [sbs]
  have hks : (A ++ ⟨n.b, n.k, v⟩ :: B).map (·.k) = (A ++ n :: B).map (·.k) := by simp
  have hmem : n.b ∈ z :: sbs (A ++ n :: B) := by simp [sbs]
  have r := Fr.set w n.b 1 (.int .i64 v)
  have nd := q.nodes
  have hat : sat (A ++ ⟨n.b, n.k, v⟩ :: B) = sat (A ++ n :: B) := by
    funext k
    simp only [sat, List.find?_append, List.find?_cons]
    by_cases hk : n.k = k
    · cases hA : A.find? (fun n => decide (n.k = k)) <;> simp [hk]
    · simp [hk]
  refine ⟨by rw [hbs]; exact q.lo, r.blk q.blk (fun e => q.mOut (by simp at e; rw [e]; exact hmem)), ?_, ?_, fun x hx => ?_, by rw [hks]; exact q.kd, fun x hx => ?_, q.one, q.big, by simpa using q.le⟩
  · rw [hat, show (A ++ ⟨n.b, n.k, v⟩ :: B).length = (A ++ n :: B).length by simp]
    exact q.map.fr r (fun e => q.mapOut (by simp at e; rw [e]; exact hmem))
  · rw [hbs]
    refine ⟨fun x hx => ?_, q.ring.lk.keep (fun x _ => cell_set_other (by omega)) (fun x _ => cell_set_other (by omega)), q.ring.nd⟩
    obtain ⟨k, u, e⟩ := q.ring.en x hx
    by_cases hxb : x = n.b
    · subst hxb; exact ⟨k, _, e.setV _⟩
    · exact ⟨k, u, e.fr r (by simpa using hxb)⟩
  · rcases List.mem_append.1 hx with hx | hx
    · exact (q.ents x (by simp [hx])).fr r (by simpa using nd.1 x (by simp [hx]))
    · rcases List.mem_cons.1 hx with rfl | hx
      · exact (q.ents n (by simp)).setV _
      · exact (q.ents x (by simp [hx])).fr r (by simpa using nd.1 x (by simp [hx]))
  · rcases List.mem_append.1 hx with hx | hx
    · exact q.kok x (by simp [hx])
    · rcases List.mem_cons.1 hx with rfl | hx
      · exact q.kok n (by simp)
      · exact q.kok x (by simp [hx])

section
variable {w : World} {base m mb z most : Nat} {N : List sNd} {h mi g : Int}

def sk0 : ByteArray := { data := #[] }

set_option maxHeartbeats 2000000 in
theorem sput_hit (A B : List sNd) (n : sNd) (q : sMm w base m mb z most (A ++ n :: B) h mi g) (v : Int) :
    Calls Try.prog 26 #[pt m, skV n.k, .int .i64 v] w fun e w' => e = .returned (.tuple #[skV sk0, .bool false]) ∧ sMm w' base m mb z most (⟨n.b, n.k, v⟩ :: (A ++ B)) h mi g ∧ Fr w w' (m :: mb :: z :: sbs (A ++ n :: B)) := by
  have hn : n ∈ A ++ n :: B := by simp
  have HM := hid (smade_any q)
  have HI := hid (sisItself_any w n.k)
  have HQ := hid q
  have HKK := hid (q.kok n hn)
  clear q hn
  have HI2 : Hid (Calls Try.prog 50 #[skV n.k] w fun e w' => e = .returned (.bool true) ∧ Below w.heap.size w w') := HI
  clear HI
  obtain ⟨κ, HK⟩ : ∃ κ, Hid (skV n.k = κ) := ⟨_, rfl⟩
  rw [HK.out] at HI2 ⊢
  obtain ⟨b, HBb⟩ : ∃ b, Hid (n.b = b) := ⟨_, rfl⟩
  go_enter Try.func26, Try.ntmps26
  go_wp2_with fail
  refine HM.out.mono ?_
  rintro e w1 ⟨rfl, hw⟩
  subst hw
  go_wp2_with fail
  refine HI2.out.mono ?_
  rintro e w2 ⟨rfl, hb2⟩
  have HB2 := hid hb2
  have HQ2 := hid (HQ.out.below hb2)
  have c1 := HQ2.out.c1
  have hlook := HQ2.out.map.look skeyed Try.underlying93 (szeroE w2) (skey HKK.out)
  rw [sat_some HQ2.out.kd (by simp), ptO_some, HK.out, HBb.out] at hlook
  have ee := HQ2.out.ents n (by simp)
  rw [HBb.out] at ee
  have e1 := ee.c1
  have f1 := ee.fz 1
  have HQ3 := hid (HQ2.out.setV v)
  rw [HBb.out] at HQ3
  have d2 := HQ3.out.c2
  have hbs : sbs (A ++ n :: B) = sbs A ++ b :: sbs B := by simp [sbs, HBb.out]
  have hbs2 : sbs (A ++ ⟨b, n.k, v⟩ :: B) = sbs A ++ b :: sbs B := by simp [sbs]
  have HR : Hid (Rg 99 (w2.setCell ⟨b, 1, none⟩ (.int .i64 v)) z (sbs A ++ b :: sbs B)) := by
    have := HQ3.out.ring
    rw [hbs2] at this
    exact this
  have HRN := hid (srenew_any _ z b (sbs A) (sbs B) HR.out)
  have HBS := hid hbs
  have HBS2 := hid hbs2
  clear hb2 HR ee hbs hbs2 HI2 HM
  go_wp2_with fail
  refine HRN.out.mono ?_
  rintro e w3 ⟨rfl, hr3, hp3⟩
  have HQ4 : Hid (sMm w3 base m mb z most (⟨b, n.k, v⟩ :: (A ++ B)) h mi g) := by
    refine HQ3.out.turn (fun x => ?_) ?_ (by simp; omega) ?_ ?_
    · simp only [List.mem_append, List.mem_cons]
      exact ⟨fun h => by rcases h with h | h | h <;> simp [h], fun h => by rcases h with h | h | h <;> simp [h]⟩
    · have := HQ3.out.kd
      exact (List.Perm.nodup_iff (by simp)).1 this
    · rw [sbs_cons, sbs_app]; exact hr3
    · rw [HBS2.out]; exact hp3
  have HFR : Hid (Fr w1 w3 (m :: mb :: z :: sbs (A ++ n :: B))) := by
    refine ((Fr.of_below HB2.out _).trans (Fr.set w2 b 1 (.int .i64 v)) (fun x hx => Or.inl ?_)).trans hp3.fr (fun k hk => Or.inl ?_)
    · simp at hx; subst hx; rw [HBS.out]; simp
    · rw [HBS.out]
      exact List.mem_cons_of_mem _ (List.mem_cons_of_mem _ hk)
  clear hr3 hp3 HRN
  go_wp2
  go_ret2
  exact ⟨rfl, by rw [HBb.out]; exact HQ4.out, HFR.out⟩

set_option maxHeartbeats 2000000 in
theorem sput_room (q : sMm w base m mb z most N h mi g) (k : ByteArray) (hk : sKok k) (hn : sat N k = none) (hl : N.length < most) (v : Int) :
    Calls Try.prog 26 #[pt m, skV k, .int .i64 v] w fun e w' => ∃ b, e = .returned (.tuple #[skV sk0, .bool false]) ∧ sMm w' base m mb z most (⟨b, k, v⟩ :: N) h mi g ∧ Fr w w' (m :: mb :: z :: sbs N) ∧ w.heap.size ≤ b := by
  have HM := hid (smade_any q)
  have HI := hid (sisItself_any w k)
  have HQ := hid q
  have HKK := hid hk
  have HN := hid hn
  have HL := hid hl
  have hne : ((N.length : Int) == (most : Int)) = false := by simp; omega
  have hne2 : ¬ (N.length : Int) = (most : Int) := by omega
  clear q hn hk hl
  have HI2 : Hid (Calls Try.prog 50 #[skV k] w fun e w' => e = .returned (.bool true) ∧ Below w.heap.size w w') := HI
  clear HI
  obtain ⟨κ, HK⟩ : ∃ κ, Hid (skV k = κ) := ⟨_, rfl⟩
  rw [HK.out] at HI2 ⊢
  go_enter Try.func26, Try.ntmps26
  go_wp2_with fail
  refine HM.out.mono ?_
  rintro e w1 ⟨rfl, hw⟩
  subst hw
  go_wp2_with fail
  refine HI2.out.mono ?_
  rintro e w2 ⟨rfl, hb2⟩
  have HB2 := hid hb2
  have HQ2 := hid (HQ.out.below hb2)
  have c1 := HQ2.out.c1
  have hlook := HQ2.out.map.look skeyed Try.underlying93 (szeroE w2) (skey HKK.out)
  rw [HN.out, ptO_none, HK.out] at hlook
  have bd : Below w2.heap.size w2 w2.drew := ⟨rfl, rfl, rfl, Nat.le_refl _, fun _ _ => rfl⟩
  have HQ3 := hid (HQ2.out.below bd)
  have d1 := HQ3.out.c1
  have d0 := HQ3.out.c0
  have hlen := HQ3.out.map.len Try.underlying93
  have HA := hid (sadd_any HQ3.out k HKK.out HN.out HL.out v)
  rw [HK.out] at HA
  have HS := hid hb2.size
  clear hb2 HI2 HM bd
  go_upto_region 9 with fail
  go_region
  go_wp2_with fail
  refine HA.out.mono ?_
  rintro e w4 ⟨rfl, hq4, hf4⟩
  have HQ4 := hid hq4
  have HF4 := hid ((Fr.of_below HB2.out _).trans (⟨hf4.os, hf4.tape, hf4.output, hf4.size, hf4.block⟩ : Fr w2 w4 _) (fun x hx => Or.inl hx))
  clear hq4 hf4
  go_wp2
  go_ret2
  exact ⟨_, rfl, HQ4.out, HF4.out, HS.out⟩

set_option maxHeartbeats 2000000 in
theorem sput_full (A : List sNd) (o : sNd) (q : sMm w base m mb z most (A ++ [o]) h mi g) (k : ByteArray) (hk : sKok k) (hn : sat (A ++ [o]) k = none) (hl : (A ++ [o]).length = most) (v : Int) :
    Calls Try.prog 26 #[pt m, skV k, .int .i64 v] w fun e w' => ∃ b, e = .returned (.tuple #[skV o.k, .bool true]) ∧ sMm w' base m mb z most (⟨b, k, v⟩ :: A) h mi (wrap64 (g + 1)) ∧ Fr w w' (m :: mb :: z :: sbs (A ++ [o])) ∧ w.heap.size ≤ b := by
  have HM := hid (smade_any q)
  have HI := hid (sisItself_any w k)
  have HQ := hid q
  have HKK := hid hk
  have HN := hid hn
  have HNA : Hid (sat A k = none) := sat_none (fun n hx => sat_not hn n (by simp [hx]))
  have HLA : Hid (A.length < most) := hid (by rw [← hl]; simp)
  obtain ⟨len, HLN⟩ : ∃ len, Hid ((A ++ [o]).length = len) := ⟨_, rfl⟩
  have heq : ((len : Int) == (most : Int)) = true := by rw [← HLN.out, hl]; simp
  have heq2 : (len : Int) = (most : Int) := by rw [← HLN.out, hl]
  have HHE := hid heq2
  clear q hn hk hl heq2
  have HI2 : Hid (Calls Try.prog 50 #[skV k] w fun e w' => e = .returned (.bool true) ∧ Below w.heap.size w w') := HI
  clear HI
  obtain ⟨κ, HK⟩ : ∃ κ, Hid (skV k = κ) := ⟨_, rfl⟩
  rw [HK.out] at HI2 ⊢
  go_enter Try.func26, Try.ntmps26
  go_wp2_with fail
  refine HM.out.mono ?_
  rintro e w1 ⟨rfl, hw⟩
  subst hw
  go_wp2_with fail
  refine HI2.out.mono ?_
  rintro e w2 ⟨rfl, hb2⟩
  have HB2 := hid hb2
  have HQ2 := hid (HQ.out.below hb2)
  have c1 := HQ2.out.c1
  have hlook := HQ2.out.map.look skeyed Try.underlying93 (szeroE w2) (skey HKK.out)
  rw [HN.out, ptO_none, HK.out] at hlook
  have bd : Below w2.heap.size w2 w2.drew := ⟨rfl, rfl, rfl, Nat.le_refl _, fun _ _ => rfl⟩
  have HQ3 := hid (HQ2.out.below bd)
  have d1 := HQ3.out.c1
  have d0 := HQ3.out.c0
  have hlen := HQ3.out.map.len Try.underlying93
  rw [HLN.out] at hlen
  have HFG := hid (sforget_any A o HQ3.out)
  obtain ⟨κo, HKO⟩ : ∃ κo, Hid (skV o.k = κo) := ⟨_, rfl⟩
  rw [HKO.out] at HFG
  have HS := hid hb2.size
  clear hb2 HI2 HM bd
  go_upto_region 9 with fail
  go_region
  go_wp2_with fail
  refine HFG.out.mono ?_
  rintro e w3 ⟨rfl, hq3, hf3⟩
  have HF3 := hid ((Fr.of_below HB2.out _).trans (⟨hf3.os, hf3.tape, hf3.output, hf3.size, hf3.block⟩ : Fr w2 w3 _) (fun x hx => Or.inl hx))
  have HA := hid (sadd_any hq3 k HKK.out HNA.out HLA.out v)
  rw [HK.out] at HA
  have HS3 := hid (Nat.le_trans HS.out hf3.size)
  clear hq3 hf3
  go_wp2_with fail
  refine HA.out.mono ?_
  rintro e w4 ⟨rfl, hq4, hf4⟩
  have HQ4 := hid hq4
  have HF4 := hid (HF3.out.trans hf4 (fun x hx => Or.inl (by
    rw [sbs_app]
    simp only [List.mem_cons, List.mem_append] at hx ⊢
    rcases hx with h | h | h | h <;> simp [h])))
  clear hq4 hf4
  go_wp2
  go_ret2
  exact ⟨_, by rw [HKO.out]; rfl, HQ4.out, HF4.out, HS3.out⟩
end

end Go.Proofs.Ytnbbebapfiocpaa

/- The calls of a memo by the list of its keys and values (keys of type string). -/
namespace Go.Proofs.Ytnbbebapfiocpaa
open Go.RowKit

def skv (n : sNd) : ByteArray × Int := (n.k, n.v)

/-- block m is a memo with these keys and values, the newest first; its blocks are F -/
def sMo (w : World) (base m most : Nat) (L : List (ByteArray × Int)) (h mi g : Int) (F : List Nat) : Prop :=
  ∃ mb z N, (sMm w base m mb z most N h mi g ∧ N.length ≤ most) ∧ L = N.map skv ∧ F = m :: mb :: z :: sbs N

section

variable {w w' : World} {base m most : Nat} {L : List (ByteArray × Int)} {h mi g : Int} {F : List Nat}

theorem sMo.fr {G : List Nat} (q : sMo w base m most L h mi g F) (r : Fr w w' G) (hF : ∀ x ∈ F, x ∉ G) : sMo w' base m most L h mi g F := by
  obtain ⟨mb, z, N, ⟨q, hle⟩, rfl, rfl⟩ := q
  exact ⟨mb, z, N, ⟨q.fr r hF, hle⟩, rfl, rfl⟩
theorem sMo.below (q : sMo w base m most L h mi g F) (r : Below w.heap.size w w') : sMo w' base m most L h mi g F := q.fr (Fr.of_below r []) (by simp)
theorem sMo.lo (q : sMo w base m most L h mi g F) : ∀ x ∈ F, base ≤ x := by obtain ⟨mb, z, N, ⟨q, hle⟩, rfl, rfl⟩ := q; exact q.lo
theorem sMo.lts (q : sMo w base m most L h mi g F) : ∀ x ∈ F, x < w.heap.size := by obtain ⟨mb, z, N, ⟨q, hle⟩, rfl, rfl⟩ := q; exact q.lts
theorem sMo.base_le (q : sMo w base m most L h mi g F) : base ≤ w.heap.size := by obtain ⟨mb, z, N, ⟨q, hle⟩, rfl, rfl⟩ := q; exact q.base_le
theorem sMo.lw {base' : Nat} (q : sMo w base m most L h mi g F) (hb : base' ≤ base) : sMo w base' m most L h mi g F := by
  obtain ⟨mb, z, N, ⟨q, hle⟩, rfl, rfl⟩ := q
  exact ⟨mb, z, N, ⟨⟨fun x hx => Nat.le_trans hb (q.lo x hx), q.blk, q.map, q.ring, q.ents, q.kd, q.kok, q.one, q.big, q.le⟩, hle⟩, rfl, rfl⟩
theorem sMo.one (q : sMo w base m most L h mi g F) : 1 ≤ most := by obtain ⟨mb, z, N, ⟨q, hle⟩, rfl, rfl⟩ := q; exact q.one
theorem sMo.big (q : sMo w base m most L h mi g F) : most ≤ 4096 := by obtain ⟨mb, z, N, ⟨q, hle⟩, rfl, rfl⟩ := q; exact q.big
theorem sMo.le (q : sMo w base m most L h mi g F) : L.length ≤ most := by obtain ⟨mb, z, N, ⟨q, hle⟩, rfl, rfl⟩ := q; simpa using hle
theorem sMo.kd (q : sMo w base m most L h mi g F) : (L.map (·.1)).Nodup := by
  obtain ⟨mb, z, N, ⟨q, hle⟩, rfl, rfl⟩ := q
  have := q.kd
  rw [List.map_map]
  exact this
theorem sMo.kok (q : sMo w base m most L h mi g F) : ∀ x ∈ L, sKok x.1 := by
  obtain ⟨mb, z, N, ⟨q, hle⟩, rfl, rfl⟩ := q
  intro x hx
  obtain ⟨n, hn, rfl⟩ := List.mem_map.1 hx
  exact q.kok n hn
theorem sMo.low {F' : List Nat} (q : sMo w base m most L h mi g F) (s : St w w' F F') : Below base w w' := s.1.below q.base_le q.lo

theorem slen_mo (q : sMo w base m most L h mi g F) :
    Calls Try.prog 28 #[pt m] w fun e w' => e = .returned (.int .i64 L.length) ∧ w' = w := by
  obtain ⟨mb, z, N, ⟨q, hle⟩, rfl, rfl⟩ := q
  rw [List.length_map]
  exact slen_any q

theorem sget_mo (q : sMo w base m most L h mi g F) (k : ByteArray) (hk : sKok k) :
    Calls Try.prog 27 #[pt m, skV k] w fun e w' => e = .returned (.tuple #[.int .i64 ((lookP L k).getD 0), .bool (lookP L k).isSome]) ∧
      ∃ F', sMo w' base m most (getP L k) (if (lookP L k).isSome then wrap64 (h + 1) else h) (if (lookP L k).isSome then mi else wrap64 (mi + 1)) g F' ∧ St w w' F F' := by
  obtain ⟨mb, z, N, ⟨q, hle⟩, rfl, rfl⟩ := q
  cases hat : sat N k with
  | none =>
    have h0 : findP (N.map skv) k = none := findP_none (fun x hx => by obtain ⟨n, hn, rfl⟩ := List.mem_map.1 hx; exact sat_not hat n hn)
    have h1 : lookP (N.map skv) k = none := by unfold lookP; rw [h0]; rfl
    have h2 : getP (N.map skv) k = N.map skv := by unfold getP; rw [h0]
    rw [h1, h2]
    refine (sget_miss q k hk hat).mono ?_
    rintro e w' ⟨rfl, q', r⟩
    exact ⟨rfl, _, ⟨mb, z, N, ⟨q', hle⟩, rfl, rfl⟩, r.mono (by simp), fun x hx => Or.inl hx⟩
  | some b =>
    obtain ⟨A, n, B, rfl, rfl, rfl⟩ := sat_split hat
    have nd := q.nodes
    have nA : ∀ x ∈ A.map skv, x.1 ≠ n.k := fun x hx => by obtain ⟨y, hy, rfl⟩ := List.mem_map.1 hx; exact nd.2.1 y hy
    have nB : ∀ x ∈ B.map skv, x.1 ≠ n.k := fun x hx => by obtain ⟨y, hy, rfl⟩ := List.mem_map.1 hx; exact nd.2.2 y hy
    have h0 : findP ((A ++ n :: B).map skv) n.k = some (n.k, n.v) := by
      rw [List.map_append, List.map_cons, show skv n = (n.k, n.v) from rfl, findP_split nA]
    have h1 : lookP ((A ++ n :: B).map skv) n.k = some n.v := by unfold lookP; rw [h0]; rfl
    have h2 : getP ((A ++ n :: B).map skv) n.k = (n :: (A ++ B)).map skv := by
      unfold getP
      rw [h0]
      show (n.k, n.v) :: outP _ _ = _
      rw [List.map_append, List.map_cons, show skv n = (n.k, n.v) from rfl, outP_split nA nB, List.map_cons, List.map_append]
      rfl
    rw [h1, h2]
    refine (sget_hit A B n q).mono ?_
    rintro e w' ⟨rfl, q', r⟩
    refine ⟨rfl, _, ⟨mb, z, _, ⟨q', by simp at hle ⊢; omega⟩, rfl, rfl⟩, r.mono (fun x hx => Or.inl ?_), fun x hx => Or.inl ?_⟩
    · simp only [List.mem_cons] at hx ⊢
      rcases hx with h | h | h <;> simp [h]
    · simp only [sbs_cons, sbs_app, List.mem_cons, List.mem_append] at hx ⊢
      rcases hx with h | h | h | h | h | h <;> simp [h]

theorem sput_mo (q : sMo w base m most L h mi g F) (k : ByteArray) (hk : sKok k) (v : Int) :
    Calls Try.prog 26 #[pt m, skV k, .int .i64 v] w fun e w' => e = .returned (.tuple #[skV ((wentP most L k).getD sk0), .bool (wentP most L k).isSome]) ∧
      ∃ F', sMo w' base m most (putP most L k v) h mi (if (wentP most L k).isSome then wrap64 (g + 1) else g) F' ∧ St w w' F F' := by
  obtain ⟨mb, z, N, ⟨q, hle⟩, rfl, rfl⟩ := q
  cases hat : sat N k with
  | none =>
    have h0 : outP (N.map skv) k = N.map skv := outP_none (fun x hx => by obtain ⟨n, hn, rfl⟩ := List.mem_map.1 hx; exact sat_not hat n hn)
    by_cases hl : N.length < most
    · have h1 : wentP most (N.map skv) k = none := by unfold wentP; rw [h0, List.length_map, if_neg (by omega)]
      rw [h1]
      refine (sput_room q k hk hat hl v).mono ?_
      rintro e w' ⟨b, rfl, q', r, hb⟩
      refine ⟨rfl, _, ⟨mb, z, _, ⟨q', by simp; omega⟩, ?_, rfl⟩, r, fun x hx => ?_⟩
      · unfold putP
        rw [h0, List.take_of_length_le (by simp; omega)]
        rfl
      · simp only [sbs_cons, List.mem_cons] at hx ⊢
        rcases hx with h | h | h | h | h
        · simp [h]
        · simp [h]
        · simp [h]
        · exact Or.inr (by rw [h]; exact hb)
        · simp [h]
    · rcases List.eq_nil_or_concat N with rfl | ⟨A, o, hN⟩
      · have := q.one; simp at hl; omega
      rw [List.concat_eq_append] at hN
      subst hN
      have hlm : (A ++ [o]).length = most := by omega
      have h1 : wentP most ((A ++ [o]).map skv) k = some o.k := by
        unfold wentP; rw [h0, List.length_map, if_pos (by omega), List.map_append, List.map_cons, List.map_nil, List.getLast?_concat]; rfl
      rw [h1]
      refine (sput_full A o q k hk hat hlm v).mono ?_
      rintro e w' ⟨b, rfl, q', r, hb⟩
      refine ⟨rfl, _, ⟨mb, z, _, ⟨q', by simp at hlm ⊢; omega⟩, ?_, rfl⟩, r, fun x hx => ?_⟩
      · unfold putP
        have : most = (A.map skv).length + 1 := by simp at hlm ⊢; omega
        rw [h0, this, List.take_succ_cons, List.map_append, List.take_left, List.map_cons]
        rfl
      · simp only [sbs_cons, sbs_app, List.mem_cons, List.mem_append] at hx ⊢
        rcases hx with h | h | h | h | h
        · simp [h]
        · simp [h]
        · simp [h]
        · exact Or.inr (by rw [h]; exact hb)
        · simp [h]
  | some b =>
    obtain ⟨A, n, B, rfl, rfl, rfl⟩ := sat_split hat
    have nd := q.nodes
    have nA : ∀ x ∈ A.map skv, x.1 ≠ n.k := fun x hx => by obtain ⟨y, hy, rfl⟩ := List.mem_map.1 hx; exact nd.2.1 y hy
    have nB : ∀ x ∈ B.map skv, x.1 ≠ n.k := fun x hx => by obtain ⟨y, hy, rfl⟩ := List.mem_map.1 hx; exact nd.2.2 y hy
    have h0 : outP ((A ++ n :: B).map skv) n.k = (A ++ B).map skv := by
      rw [List.map_append, List.map_cons, show skv n = (n.k, n.v) from rfl, outP_split nA nB, List.map_append]
    have hle' : (A ++ B).length + 1 ≤ most := by simp at hle ⊢; omega
    have h1 : wentP most ((A ++ n :: B).map skv) n.k = none := by unfold wentP; rw [h0, List.length_map, if_neg (by omega)]
    rw [h1]
    refine (sput_hit A B n q v).mono ?_
    rintro e w' ⟨rfl, q', r⟩
    refine ⟨rfl, _, ⟨mb, z, _, ⟨q', by simp at hle' ⊢; omega⟩, ?_, rfl⟩, r, fun x hx => Or.inl ?_⟩
    · unfold putP
      rw [h0, List.take_of_length_le (by rw [List.length_cons, List.length_map]; exact hle')]
      rfl
    · simp only [sbs_cons, sbs_app, List.mem_cons, List.mem_append] at hx ⊢
      rcases hx with h | h | h | h | h | h <;> simp [h]

theorem snew_mo (w : World) (most : Nat) (h1 : 1 ≤ most) (h2 : most ≤ 4096) :
    Calls Try.prog 25 #[.int .i64 most] w fun e w' => ∃ m F, e = .returned (.tuple #[pt m, .int .i64 0]) ∧ sMo w' w.heap.size m most [] 0 0 0 F ∧ Below w.heap.size w w' := by
  refine (snew_ok w most h1 h2).mono ?_
  rintro e w' ⟨m, mb, z, rfl, q, r⟩
  exact ⟨m, _, rfl, ⟨mb, z, [], ⟨q, by simp⟩, rfl, rfl⟩, r⟩

end

end Go.Proofs.Ytnbbebapfiocpaa

/- alive. -/
namespace Go.Proofs.Ytnbbebapfiocpaa
open Go.RowKit

theorem al_ok (b : UInt8) : sKok { data := #[b] } := by unfold sKok maxLen; show 1 ≤ _; omega
theorem al_w1 : wentP 2 ([] : List (ByteArray × Int)) { data := #[97] } = none := by decide
theorem al_p1 : putP 2 ([] : List (ByteArray × Int)) { data := #[97] } 1 = [({ data := #[97] }, 1)] := by decide
theorem al_w2 : wentP 2 ([({ data := #[97] }, 1)] : List (ByteArray × Int)) { data := #[98] } = none := by decide
theorem al_p2 : putP 2 ([({ data := #[97] }, 1)] : List (ByteArray × Int)) { data := #[98] } 2 = [({ data := #[98] }, 2), ({ data := #[97] }, 1)] := by decide
theorem al_l3 : lookP ([({ data := #[98] }, 2), ({ data := #[97] }, 1)] : List (ByteArray × Int)) { data := #[97] } = some 1 := by decide
theorem al_g3 : getP ([({ data := #[98] }, 2), ({ data := #[97] }, 1)] : List (ByteArray × Int)) { data := #[97] } = [({ data := #[97] }, 1), ({ data := #[98] }, 2)] := by decide
theorem al_w4 : wentP 2 ([({ data := #[97] }, 1), ({ data := #[98] }, 2)] : List (ByteArray × Int)) { data := #[99] } = some { data := #[98] } := by decide
theorem al_p4 : putP 2 ([({ data := #[97] }, 1), ({ data := #[98] }, 2)] : List (ByteArray × Int)) { data := #[99] } 3 = [({ data := #[99] }, 3), ({ data := #[97] }, 1)] := by decide
theorem al_l5 : lookP ([({ data := #[99] }, 3), ({ data := #[97] }, 1)] : List (ByteArray × Int)) { data := #[97] } = some 1 := by decide
theorem al_g5 : getP ([({ data := #[99] }, 3), ({ data := #[97] }, 1)] : List (ByteArray × Int)) { data := #[97] } = [({ data := #[97] }, 1), ({ data := #[99] }, 3)] := by decide

set_option maxRecDepth 10000 in
set_option maxHeartbeats 2000000 in
theorem alive_any (w : World) : Calls Try.prog 11 #[] w fun e w' => e = .returned (.bool true) ∧ Below w.heap.size w w' := by
  go_enter Try.func11, Try.ntmps11
  go_wp2_with fail
  refine (snew_mo w 2 (by omega) (by omega)).mono ?_
  rintro e w1 ⟨m, F1, rfl, q1, b1⟩
  have H1 := hid (sput_mo q1 { data := #[97] } (al_ok 97) 1)
  rw [al_w1, al_p1] at H1
  have HQ1 := hid q1
  have HB1 := hid b1
  clear q1 b1
  go_wp2_with fail
  refine H1.out.mono ?_
  rintro e w2 ⟨rfl, F2, q2, s2⟩
  have H2 := hid (sput_mo q2 { data := #[98] } (al_ok 98) 2)
  rw [al_w2, al_p2] at H2
  have HB2 := hid (HB1.out.trans (HQ1.out.low s2))
  have HQ2 := hid q2
  clear q2 s2 HB1 HQ1 H1
  go_wp2_with fail
  refine H2.out.mono ?_
  rintro e w3 ⟨rfl, F3, q3, s3⟩
  have H3 := hid (sget_mo q3 { data := #[97] } (al_ok 97))
  rw [al_l3, al_g3] at H3
  have HB3 := hid (HB2.out.trans (HQ2.out.low s3))
  have HQ3 := hid q3
  clear q3 s3 HB2 HQ2 H2
  go_wp2_with fail
  refine H3.out.mono ?_
  rintro e w4 ⟨rfl, F4, q4, s4⟩
  have H4 := hid (sput_mo q4 { data := #[99] } (al_ok 99) 3)
  rw [al_w4, al_p4] at H4
  have HB4 := hid (HB3.out.trans (HQ3.out.low s4))
  have HQ4 := hid q4
  clear q4 s4 HB3 HQ3 H3
  go_wp2_with fail
  refine H4.out.mono ?_
  rintro e w5 ⟨rfl, F5, q5, s5⟩
  have H5 := hid (sget_mo q5 { data := #[97] } (al_ok 97))
  rw [al_l5, al_g5] at H5
  have HB5 := hid (HB4.out.trans (HQ4.out.low s5))
  have HQ5 := hid q5
  clear q5 s5 HB4 HQ4 H4
  go_wp2_with fail
  refine H5.out.mono ?_
  rintro e w6 ⟨rfl, F6, q6, s6⟩
  have H6 := hid (slen_mo q6)
  have HB6 := hid (HB5.out.trans (HQ5.out.low s6))
  clear q6 s6 HB5 HQ5 H5
  simp only [Option.getD_some, Option.isSome_some, skV]
  go_wp2_with fail
  refine H6.out.mono ?_
  rintro e w7 ⟨rfl, hw7⟩
  subst hw7
  go_wp2
  go_ret
  exact ⟨rfl, HB6.out⟩

end Go.Proofs.Ytnbbebapfiocpaa

/- A walk that was asked for, and what it goes over. -/
namespace Go.Proofs.Ytnbbebapfiocpaa
open Go.RowKit Go.Shelf

attribute [local go_sem] Oper.semAt_some

set_option maxHeartbeats 1000000 in
/-- All boxes the pairs, in a block of its own -/
theorem iall_blk {w : World} {base m most : Nat} {L : List (Int × Int)} {hh mi g : Int} {F : List Nat} (q : iMo w base m most L hh mi g F) :
    Calls Try.prog 22 #[pt m] w fun e w' => ∃ v b, e = .returned (.func (.func 46) #[] #[pt b]) ∧ w.heap.size ≤ b ∧ w'.heap[b]? = some (.cells #[v] 85 (0, 0)) ∧ OwnQ w' w.heap.size v L ∧ Below w.heap.size w w' := by
  have hmf : ∀ (fn : Fn) (first cap : Array Value) (w : World), (Instr.makeFunc fn first cap).run Try.prog w = .ok (.func fn first cap) w := fun _ _ _ _ => rfl
  have HP := hid (ipairs_mo q)
  obtain ⟨mb, z, N, ⟨q, _⟩, hL, hF⟩ := q
  have HM := hid (imade_any q)
  clear q hL hF
  go_enter Try.func22, Try.ntmps22
  go_wp2_with fail
  refine HM.out.mono ?_
  rintro e w1 ⟨rfl, hw⟩
  have hws := hw.symm
  subst hws
  go_wp2_with fail
  refine HP.out.mono ?_
  rintro e w2 ⟨v, rfl, o2, b2⟩
  obtain ⟨av, cv, hv⟩ := o2.shape
  have HO2 := hid o2
  have HB2 := hid b2
  subst hv
  clear o2 b2
  go_wp2
  go_ret
  exact ⟨_, w2.heap.size, rfl, HB2.out.size, hp_new w2 _, HO2.out.below (below_walk w2 _), HB2.out.alloc HB2.out.size _⟩

theorem eq_nf (b : Nat) (W : World) : (binOp .eql 56 (.func (.func 46) #[] #[pt b]) .nilFunc).run Try.prog W = .ok (.bool false) W := by
  kernel_rfl

/-- append of pairs -/
theorem app_pairsL {w : World} {ops : Array Oper} {rest : List Oper} {o : Oper} {a : Act} {Q : Exit → Act → World → Prop} (hgd : o.guard = none) (s x : Operand)
    (ho : o.op = .call { callee := .builtin .append, args := #[s, x], argTypes := #[27, 27] })
    (base : Nat) (v : Value) (L : List (Int × Int)) (hs : a.eval s = v) (hown : OwnP w base v L) (vx : Value) (M : List (Int × Int)) (hx : a.eval x = vx) (hsrc : SrcP w vx M) (hlen : L.length + M.length ≤ 1000000000000) (hbase : base ≤ w.heap.size)
    (h : ∀ v' w', OwnP w' base v' (L ++ M) → w.grownBy w' v.ownBlock → wpList Try.prog ops Q rest (a.put o.dst v') w') : wpList Try.prog ops Q (o :: rest) a w := by
  refine wpList_plain hgd fun K hK => ?_
  obtain ⟨v', w', hr, h1, h2⟩ := run_app_pairs w o.type base v L hown vx M hsrc hlen hbase
  unfold Oper.wp
  simp [execOp, ho, resolve, invoke, builtin, hs, hx, hr, Result.andThen]
  exact hK _ _ (h v' w' h1 h2)

theorem OwnQ.typ {w : World} {base : Nat} {v : Value} {L : List (Int × Int)} (h : OwnQ w base v L) {k : Nat} (hk : v.ownBlock = some k) : ∃ cur, w.heap[k]? = some (.cells cur 88 (0, 0)) ∧ base ≤ k := by
  rcases h.2 with ⟨rfl, _⟩ | ⟨b, cap, cur, rfl, h1, h2, r⟩
  · cases hk
  · cases hk; exact ⟨cur, h2, h1⟩
theorem OwnQ.lw {w : World} {base base' : Nat} {v : Value} {L : List (Int × Int)} (h : OwnQ w base v L) (hb : base' ≤ base) : OwnQ w base' v L :=
  ⟨h.1, h.2.elim Or.inl (fun ⟨g, cap, cur, hv, hg, r⟩ => Or.inr ⟨g, cap, cur, hv, Nat.le_trans hb hg, r⟩)⟩

/-- the answer's cell, the number -/
structure Wr (W : World) (r b6 : Nat) (x1 : Int) : Prop where
  c2 : W.heap[r]? = some (.cells #[.bool false] 4 (0, 0))
  c6 : W.heap[b6]? = some (.cells #[.int .i64 x1] 3 (0, 0))
theorem Wr.step {W W' : World} {r b6 base m b most : Nat} {v : Value} {x1 h mi g : Int} {L : List (Int × Int)} {F F' : List Nat} (k : Wr W r b6 x1) (q : Du W base m b most L h mi g F v) (s : Ds W W' b F F') : Wr W' r b6 x1 := by
  have far : ∀ {x : Nat} {cs : Array Value} {T : TypeId}, W.heap[x]? = some (.cells cs T (0, 0)) → T ≠ 73 → T ≠ 76 → T ≠ 31 → x ∉ b :: F := fun {x cs T} hx n1 n2 n3 e => by
    rcases List.mem_cons.1 e with rfl | e
    · rw [q.r.blk] at hx; injection hx with hx; injection hx with _ e _; exact n3 e.symm
    · exact q.p.typ hx n1 n2 e
  exact ⟨s.1.blk k.c2 (far k.c2 (by decide) (by decide) (by decide)), s.1.blk k.c6 (far k.c6 (by decide) (by decide) (by decide))⟩
theorem Wr.below {W W' : World} {r b6 : Nat} {x1 : Int} (k : Wr W r b6 x1) (hb : Below W.heap.size W W') : Wr W' r b6 x1 :=
  ⟨(hb.block _ (hp_lt k.c2)).trans k.c2, (hb.block _ (hp_lt k.c6)).trans k.c6⟩

/-- the answer's cell, the number, the walk, what there was -/
structure Wk (W : World) (r b6 b13 b14 bb : Nat) (sv va : Value) (x1 : Int) (base : Nat) (L0 : List (Int × Int)) : Prop where
  c2 : W.heap[r]? = some (.cells #[.bool false] 4 (0, 0))
  c6 : W.heap[b6]? = some (.cells #[.int .i64 x1] 3 (0, 0))
  c13 : W.heap[b13]? = some (.cells #[.func (.func 46) #[] #[pt bb]] 56 (0, 0))
  c14 : W.heap[b14]? = some (.cells #[va] 27 (0, 0))
  cb : W.heap[bb]? = some (.cells #[sv] 85 (0, 0))
  oq : OwnQ W base sv L0
  op : OwnP W base va L0
/-- a call of both memos keeps it -/
theorem Wk.step {W W' : World} {r b6 b13 b14 bb base m b most : Nat} {sv va v : Value} {x1 h mi g : Int} {L0 L : List (Int × Int)} {F F' : List Nat} (k : Wk W r b6 b13 b14 bb sv va x1 base L0) (q : Du W base m b most L h mi g F v) (s : Ds W W' b F F') : Wk W' r b6 b13 b14 bb sv va x1 base L0 := by
  have far : ∀ {x : Nat} {cs : Array Value} {T : TypeId}, W.heap[x]? = some (.cells cs T (0, 0)) → T ≠ 73 → T ≠ 76 → T ≠ 31 → x ∉ b :: F := fun {x cs T} hx n1 n2 n3 e => by
    rcases List.mem_cons.1 e with rfl | e
    · rw [q.r.blk] at hx; injection hx with hx; injection hx with _ e _; exact n3 e.symm
    · exact q.p.typ hx n1 n2 e
  refine ⟨s.1.blk k.c2 (far k.c2 (by decide) (by decide) (by decide)), s.1.blk k.c6 (far k.c6 (by decide) (by decide) (by decide)), s.1.blk k.c13 (far k.c13 (by decide) (by decide) (by decide)), s.1.blk k.c14 (far k.c14 (by decide) (by decide) (by decide)), s.1.blk k.cb (far k.cb (by decide) (by decide) (by decide)),
    k.oq.fr s.1 (fun x hx => ?_), k.op.fr s.1 (fun x hx => ?_)⟩
  · obtain ⟨cur, h1, _⟩ := k.oq.typ hx
    exact far h1 (by decide) (by decide) (by decide)
  · obtain ⟨cur, h1, _⟩ := k.op.typ hx
    exact far h1 (by decide) (by decide) (by decide)
theorem Wk.below {W W' : World} {r b6 b13 b14 bb base : Nat} {sv va : Value} {x1 : Int} {L0 : List (Int × Int)} (k : Wk W r b6 b13 b14 bb sv va x1 base L0) (hb : Below W.heap.size W W') : Wk W' r b6 b13 b14 bb sv va x1 base L0 :=
  ⟨(hb.block _ (hp_lt k.c2)).trans k.c2, (hb.block _ (hp_lt k.c6)).trans k.c6, (hb.block _ (hp_lt k.c13)).trans k.c13, (hb.block _ (hp_lt k.c14)).trans k.c14, (hb.block _ (hp_lt k.cb)).trans k.cb, k.oq.below hb, k.op.below hb⟩

theorem ownFrom_frB {β : Type} {w : World} {F : List Nat} {B : Nat} (hB : w.heap.size ≤ B) : OwnFrom B (fun (_ : β) W => Fr w W F) := fun _ X Y row hs hg hr =>
  ⟨hg.os.trans hs.os, hg.tape.trans hs.tape, hg.output.trans hs.output, Nat.le_trans hs.size hg.size, fun k hk hn => (hg.block k (Nat.lt_of_lt_of_le hk hs.size) (fun e => by have := (hr k e.symm).1; omega)).trans (hs.block k hk hn)⟩
/-- a range over a function that may be left: what follows, once -/
theorem range_cut {P : Program} {g : Operand} {ps : Array Tmp} {assign body : Code} {Q : Exit → Act → World → Prop} {a : Act} {w : World} {id : Nat} (R : Nat → World → Prop)
    (h : (Code.rangeFunc g ps assign body).wp P (fun e a' W => (e = .normal ∨ e = .exit id) ∧ ∃ D, a' = { a with defers := { target := .collected D, args := #[] } :: a.defers } ∧ R D W) a w)
    (hn : ∀ D W, R D W → Q .normal { a with defers := { target := .collected D, args := #[] } :: a.defers } W) (he : ∀ a' W, Q .normal a' W → Q (.exit id) a' W) : (Code.rangeFunc g ps assign body).wp P Q a w :=
  Code.wp_mono (fun e a' W h => by
    obtain ⟨rfl | rfl, D, rfl, hR⟩ := h
    · exact hn D W hR
    · exact he _ _ (hn D W hR)) h
theorem ownFrom_fr {β : Type} {w : World} {F : List Nat} : OwnFrom w.heap.size (fun (_ : β) W => Fr w W F) := fun _ X Y row hs hg hr =>
  ⟨hg.os.trans hs.os, hg.tape.trans hs.tape, hg.output.trans hs.output, Nat.le_trans hs.size hg.size, fun k hk hn => (hg.block k (Nat.lt_of_lt_of_le hk hs.size) (fun e => by have := (hr k e.symm).1; omega)).trans (hs.block k hk hn)⟩
theorem ownFrom_blk {β : Type} {B b : Nat} (hb : b < B) (f : β → Obj) : OwnFrom B (fun (s : β) W => W.heap[b]? = some (f s)) := fun s X Y row hs hg hr =>
  (hg.block b (hp_lt hs) (fun e => by have := (hr b e.symm).1; omega)).trans hs
theorem fr_keeps {W W' : World} {B : Nat} {F : List Nat} (h : Fr W W' F) (hF : ∀ k ∈ F, k < B) : KeepsFrom B W W' :=
  ⟨h.size, fun k o hk h0 _ => (h.block k (hp_lt h0) (fun e => by have := hF k e; omega)).trans h0⟩

/-- a loop's own counter is written: the rest stays -/
theorem Wk.fr {W W' : World} {r b6 b13 b14 bb base b : Nat} {sv va : Value} {x1 : Int} {L0 : List (Int × Int)} {c : Array Value} (k : Wk W r b6 b13 b14 bb sv va x1 base L0) (s : Fr W W' [b]) (hlt : r < b ∧ b6 < b ∧ b13 < b ∧ b14 < b ∧ bb < b) (hb : W.heap[b]? = some (.cells c 3 (0, 0))) : Wk W' r b6 b13 b14 bb sv va x1 base L0 := by
  obtain ⟨l1, l2, l3, l4, l5⟩ := hlt
  have far : ∀ {x : Nat} {cs : Array Value} {T : TypeId}, W.heap[x]? = some (.cells cs T (0, 0)) → T ≠ 3 → x ∉ [b] := fun {x cs T} hx n1 e => by
    obtain rfl := List.mem_singleton.1 e
    rw [hb] at hx; injection hx with hx; injection hx with _ e _; exact n1 e.symm
  have nr : ∀ {x : Nat}, x < b → x ∉ [b] := fun {x} hx e => by obtain rfl := List.mem_singleton.1 e; omega
  refine ⟨s.blk k.c2 (nr l1), s.blk k.c6 (nr l2), s.blk k.c13 (nr l3), s.blk k.c14 (nr l4), s.blk k.cb (nr l5), k.oq.fr s (fun x hx => ?_), k.op.fr s (fun x hx => ?_)⟩
  · obtain ⟨cur, h1, _⟩ := k.oq.typ hx
    exact far h1 (by decide)
  · obtain ⟨cur, h1, _⟩ := k.op.typ hx
    exact far h1 (by decide)
/-- the frame, but for what is asked of it -/
theorem frame_gen {P : Program} {c : Code} {Q : Exit → Act → World → Prop} {ds : List Deferred} {w : World} (f : Array Value → Array Value) (U : Array Value) (h : U = f U) (k : ∀ U, c.wp P Q { tmps := f U, defers := ds } w) : c.wp P Q { tmps := U, defers := ds } w := by
  have := k U
  rw [← h] at this
  exact this
theorem frame_genN {F : Fence} {n : Nat} {P : Program} {c : Code} {Q : Exit → Act → World → Prop} {ds : List Deferred} {w : World} (f : Array Value → Array Value) (U : Array Value) (h : U = f U) (k : ∀ U, c.wpIn F n P Q { tmps := f U, defers := ds } w) : c.wpIn F n P Q { tmps := U, defers := ds } w := by
  have := k U
  rw [← h] at this
  exact this
def slotOf (U : Array Value) (k : Nat) : Value := U.getD k undef

end Go.Proofs.Ytnbbebapfiocpaa
