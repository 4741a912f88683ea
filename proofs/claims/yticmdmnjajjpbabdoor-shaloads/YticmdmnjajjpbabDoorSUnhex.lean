/- half and Unhex. -/
import Derived.Test.YticmdmnjajjpbabDoorSHex
namespace Go.Proofs.YticmdmnjajjpbabDoor
open Go.RowKit

/-- is it a digit? -/
def okD (c : UInt8) : Bool := decide ((48 ≤ c.toNat ∧ c.toNat ≤ 57) ∨ (97 ≤ c.toNat ∧ c.toNat ≤ 102))
/-- which one -/
def valD (c : UInt8) : Nat := if 48 ≤ c.toNat ∧ c.toNat ≤ 57 then c.toNat - 48 else if 97 ≤ c.toNat ∧ c.toNat ≤ 102 then c.toNat - 87 else 0
theorem valD_lt (c : UInt8) : valD c < 16 := by unfold valD; split <;> (try split) <;> omega

theorem ret_pair {a b : Int} {t u : Bool} (h1 : a = b) (h2 : t = u) : Ending.returned (.tuple #[.int .u8 a, .bool t]) = .returned (.tuple #[.int .u8 b, .bool u]) := by rw [h1, h2]

set_option maxHeartbeats 1000000 in
theorem half_any (c : UInt8) (w : World) :
    Calls Tryd.prog 46 #[.int .u8 ((c.toNat : Nat) : Int)] w fun e w' => e = .returned (.tuple #[.int .u8 ((valD c : Nat) : Int), .bool (okD c)]) ∧ w' = w := by
  obtain ⟨n, hn⟩ : ∃ n, n = c.toNat := ⟨_, rfl⟩
  have hc := c.toNat_lt
  rw [← hn] at hc
  have HV : Hid (valD c = if 48 ≤ n ∧ n ≤ 57 then n - 48 else if 97 ≤ n ∧ n ≤ 102 then n - 87 else 0) := by rw [hn]; rfl
  have HK : Hid (okD c = decide ((48 ≤ n ∧ n ≤ 57) ∨ (97 ≤ n ∧ n ≤ 102))) := by rw [hn]; rfl
  rw [← hn]
  clear hn
  by_cases h1 : 48 ≤ n ∧ n ≤ 57
  · have g1 : (48 : Int) ≤ (n : Int) := by omega
    have g2 : (n : Int) ≤ 57 := by omega
    have HV2 := hid (show valD c = n - 48 by rw [HV.out, if_pos h1])
    have HK2 := hid (show okD c = true by rw [HK.out]; exact decide_eq_true (Or.inl h1))
    clear h1 HV HK
    go_enter Tryd.func46, Tryd.ntmps46
    go_wp2
    refine bodyPost_ret (results_tmp2 rfl _ _ _) rfl ⟨?_, rfl⟩
    show Ending.returned (.tuple #[.int .u8 ((n : Int) - 48), .bool true]) = _
    exact ret_pair (by rw [HV2.out]; omega) HK2.out.symm
  · by_cases h2 : 97 ≤ n ∧ n ≤ 102
    · have g0 : ¬ (n : Int) ≤ 57 := by omega
      have g1 : (97 : Int) ≤ (n : Int) := by omega
      have g2 : (n : Int) ≤ 102 := by omega
      have g3 : (48 : Int) ≤ (n : Int) := by omega
      have HV2 := hid (show valD c = n - 87 by rw [HV.out, if_neg h1, if_pos h2])
      have HK2 := hid (show okD c = true by rw [HK.out]; exact decide_eq_true (Or.inr h2))
      clear h1 h2 HV HK
      go_enter Tryd.func46, Tryd.ntmps46
      go_wp2
      refine bodyPost_ret (results_tmp2 rfl _ _ _) rfl ⟨?_, rfl⟩
      show Ending.returned (.tuple #[.int .u8 ((n : Int) - 97 + 10), .bool true]) = _
      exact ret_pair (by rw [HV2.out]; omega) HK2.out.symm
    · have HV2 := hid (show valD c = 0 by rw [HV.out, if_neg h1, if_neg h2])
      have HK2 := hid (show okD c = false by rw [HK.out]; exact decide_eq_false (by omega))
      have hsp : n < 48 ∨ (57 < n ∧ n < 97) ∨ 102 < n := by omega
      clear h1 h2 HV HK
      rcases hsp with h | ⟨h, h'⟩ | h
      · have g1 : ¬ (48 : Int) ≤ (n : Int) := by omega
        have g2 : ¬ (97 : Int) ≤ (n : Int) := by omega
        go_enter Tryd.func46, Tryd.ntmps46
        go_wp2
        refine bodyPost_ret (results_tmp2 rfl _ _ _) rfl ⟨?_, rfl⟩
        rw [HV2.out, HK2.out]
        rfl
      · have g1 : (48 : Int) ≤ (n : Int) := by omega
        have g2 : ¬ (n : Int) ≤ 57 := by omega
        have g3 : ¬ (97 : Int) ≤ (n : Int) := by omega
        go_enter Tryd.func46, Tryd.ntmps46
        go_wp2
        refine bodyPost_ret (results_tmp2 rfl _ _ _) rfl ⟨?_, rfl⟩
        rw [HV2.out, HK2.out]
        rfl
      · have g1 : (48 : Int) ≤ (n : Int) := by omega
        have g2 : ¬ (n : Int) ≤ 57 := by omega
        have g3 : (97 : Int) ≤ (n : Int) := by omega
        have g4 : ¬ (n : Int) ≤ 102 := by omega
        go_enter Tryd.func46, Tryd.ntmps46
        go_wp2
        refine bodyPost_ret (results_tmp2 rfl _ _ _) rfl ⟨?_, rfl⟩
        rw [HV2.out, HK2.out]
        rfl

/-- text as bytes -/
def unh : List UInt8 → List UInt8
  | a :: b :: r => (16 * valD a + valD b).toUInt8 :: unh r
  | _ => []
/-- are all of them digits? -/
def okT (l : List UInt8) : Bool := l.all okD
theorem unh_hexT (bs : List UInt8) : unh (hexT bs) = bs ∧ okT (hexT bs) = true := by
  have key : ∀ q : Fin 16, okD (hexd q.val) = true ∧ valD (hexd q.val) = q.val := by decide
  induction bs with
  | nil => exact ⟨rfl, rfl⟩
  | cons b r ih =>
    have hb := b.toNat_lt
    have k1 := key ⟨b.toNat / 16, by omega⟩
    have k2 := key ⟨b.toNat % 16, by omega⟩
    refine ⟨?_, ?_⟩
    · simp only [hexT, unh]
      rw [k1.2, k2.2, ih.1]
      congr 1
      refine UInt8.toNat_inj.1 ?_
      simp only [Nat.toUInt8_eq, UInt8.toNat_ofNat']
      omega
    · simp only [okT, hexT, List.all_cons]
      rw [k1.1, k2.1]
      exact ih.2
theorem hexd_val (c : UInt8) (h : okD c = true) : hexd (valD c) = c := by
  have key : ∀ n : Fin 256, okD n.val.toUInt8 = true → hexd (valD n.val.toUInt8) = n.val.toUInt8 := by decide +kernel
  have := key ⟨c.toNat, c.toNat_lt⟩
  rw [show ((⟨c.toNat, c.toNat_lt⟩ : Fin 256).val.toUInt8) = c from UInt8.toNat_inj.1 (by simp)] at this
  exact this h
theorem hexT_unh : ∀ (l : List UInt8) (n : Nat), l.length = 2 * n → okT l = true → hexT (unh l) = l
  | [], _, _, _ => rfl
  | [a], n, h, _ => by simp at h; omega
  | a :: b :: r, n, h, hk => by
    simp only [okT, List.all_cons, Bool.and_eq_true] at hk
    have ih := hexT_unh r (n - 1) (by simp at h; omega) hk.2.2
    have ha := valD_lt a
    have hb := valD_lt b
    simp only [unh, hexT]
    have e : ((16 * valD a + valD b).toUInt8).toNat = 16 * valD a + valD b := by
      simp only [Nat.toUInt8_eq, UInt8.toNat_ofNat']
      omega
    rw [e, ih, show (16 * valD a + valD b) / 16 = valD a by omega, show (16 * valD a + valD b) % 16 = valD b by omega, hexd_val a hk.1, hexd_val b hk.2.1]
theorem unh_append (l : List UInt8) (n : Nat) (h : l.length = 2 * n) (a b : UInt8) : unh (l ++ [a, b]) = unh l ++ [(16 * valD a + valD b).toUInt8] := by
  match l, n, h with
  | [], _, _ => rfl
  | [x], n, h => simp at h; omega
  | x :: y :: r, n, h => simp only [List.cons_append, unh]; rw [unh_append r (n - 1) (by simp at h; omega) a b]
theorem unh_length (l : List UInt8) (n : Nat) (h : l.length = 2 * n) : (unh l).length = n := by
  match l, n, h with
  | [], 0, _ => rfl
  | [], n + 1, h => simp at h
  | [x], n, h => simp at h; omega
  | x :: y :: r, n, h => simp only [unh, List.length_cons]; rw [unh_length r (n - 1) (by simp at h; omega)]; simp at h; omega

theorem results_cell2 {fn : Func} {p q : Tmp} {ty : TypeId} (h : fn.results = #[.cell p ty, .tmp q]) (tmps : Array Value) (P : Program) (w : World) :
    (results fn tmps).run P w = ((asAddr (tmps.getD p undef)).run P w).andThen fun a w₁ => ((loadVar ty a).run P w₁).andThen fun v w₂ => .ok (.tuple #[v, tmps.getD q undef]) w₂ := by
  simp only [results, h]
  simp [Sem.run_bind, Result.andThen]
/-- the answer is a whole row that lies in a variable, and a number -/
theorem ret_row2 {P : Program} {fn : Func} {R : Ending → World → Prop} {a : Act} {w : World} (p q : Tmp) (ty : TypeId) (h : fn.results = #[.cell p ty, .tmp q]) (g : Nat) (hp : a.tmps.getD p undef = .pointer (some ⟨g, 0, none⟩))
    (cs : List Value) (t : TypeId) (hb : w.heap[g]? = some (.cells cs.toArray t (0, 0))) (d : TypeDesc) (hu : P.underlying ty = some d) (hd : d.isRow = true) (hi : (P.info? ty).map (·.size) = some cs.length)
    (v : Value) (hq : a.tmps.getD q undef = v) (hdf : a.defers = []) (hR : R (.returned (.tuple #[.agg cs.toArray, v])) w) : bodyPost P fn R .ret a w := by
  refine bodyPost_ret (v := .tuple #[.agg cs.toArray, v]) ?_ hdf hR
  rw [results_cell2 h, hp, hq]
  have := run_loadVar_mid (P := P) w g 0 ty cs d (fun j v hv => by rw [Nat.zero_add, cell_of_row w g j cs.toArray t (0, 0) hb]; simpa using hv) hu hd hi
  simp [asAddr, this]

/-- noughts -/
def z32 : List UInt8 := List.replicate 32 0
theorem z32_length : z32.length = 32 := rfl
theorem hp_two' (w : World) (o p : Obj) : ((w.alloc o).alloc p).heap[w.heap.size]? = some o ∧ ((w.alloc o).alloc p).heap[w.heap.size + 1]? = some p := by
  refine ⟨?_, ?_⟩
  · rw [hp_old _ _ _ (by rw [hp_size]; omega), hp_new]
  · have := hp_new (w.alloc o) p
    rwa [hp_size] at this
/-- the digest, as far as it is read -/
structure Uh (w : World) (D : List UInt8) (wr : World) : Prop where
  b0 : wr.heap[w.heap.size]? = some (.cells (bytesV (z32)).toArray 53 (0, 0))
  b1 : wr.heap[w.heap.size + 1]? = some (.cells (bytesV D).toArray 53 (0, 0))
  bel : Below w.heap.size w wr
theorem Uh.step {w : World} {D : List UInt8} {wr : World} (h : Uh w D wr) (k : Nat) (x : UInt8) : Uh w (D.set k x) (wr.setCell ⟨w.heap.size + 1, k, none⟩ (.int .u8 ((x.toNat : Nat) : Int))) := by
  refine ⟨?_, ?_, ?_⟩
  · exact (hp_set wr _ _ _ _ (by omega)).trans h.b0
  · refine (blk_set (w := wr) (i := k) h.b1 (.int .u8 ((x.toNat : Nat) : Int))).trans ?_
    simp [bytesV, List.map_set]
  · exact h.bel.grown (gb_set wr _ _) h.bel.size (by intro k hk; cases hk; simp only []; omega)
theorem set_next (A : List UInt8) (k n : Nat) (hA : A.length = k) (hk : k < n) (x : UInt8) : (A ++ List.replicate (n - k) 0).set k x = (A ++ [x]) ++ List.replicate (n - (k + 1)) 0 := by
  subst hA
  rw [List.set_append_right _ _ (Nat.le_refl _), Nat.sub_self, show n - A.length = (n - (A.length + 1)) + 1 by omega, List.replicate_succ]
  simp
theorem take_two (l : List UInt8) (k : Nat) (h : 2 * k + 1 < l.length) : l.take (2 * (k + 1)) = l.take (2 * k) ++ [l.getD (2 * k) 0, l.getD (2 * k + 1) 0] := by
  rw [show 2 * (k + 1) = 2 * k + 1 + 1 by omega, List.take_succ_eq_append_getElem h, List.take_succ_eq_append_getElem (by omega), List.append_assoc]
  simp [List.getD_eq_getElem?_getD, List.getElem?_eq_getElem h, List.getElem?_eq_getElem (show 2 * k < l.length by omega)]
theorem okT_take (l : List UInt8) (k : Nat) (h : 2 * k + 1 < l.length) (hk : okT (l.take (2 * k)) = true) : okT (l.take (2 * (k + 1))) = (okD (l.getD (2 * k) 0) && okD (l.getD (2 * k + 1) 0)) := by
  rw [take_two l k h]
  unfold okT at hk ⊢
  rw [List.all_append, hk]
  simp
theorem okT_bad (l : List UInt8) (k : Nat) (h : okT (l.take k) = false) : okT l = false := by
  cases e : okT l with
  | false => rfl
  | true =>
    unfold okT at e h
    rw [List.all_eq_true] at e
    have : (l.take k).all okD = true := List.all_eq_true.2 fun x hx => e x (List.mem_of_mem_take hx)
    rw [this] at h
    cases h
theorem str_at (s : ByteArray) (l : List UInt8) (hs : s.data.toList = l) (k : Nat) (hk : k < l.length) (W : World) : (Instr.index 9 (.string s) (.int .i64 (k : Int))).run Tryd.prog W = .ok (.int .u8 ((l.getD k 0).toNat : Nat)) W := by
  subst hs
  have hsz : s.size = s.data.toList.length := by simp
  rw [run_index_string W 9 s .i64 _ Tryd.underlying9, dif_pos ⟨by omega, by omega⟩]
  congr 3
  simp only [Int.toNat_natCast, List.getD_eq_getElem?_getD, List.getElem?_eq_getElem hk, Option.getD_some]
  rfl

/-- what Unhex says -/
def uhB (l : List UInt8) : List UInt8 := if l.length = 64 ∧ okT l = true then unh l else z32
def uhE (l : List UInt8) : Int := if l.length = 64 ∧ okT l = true then 0 else 23
theorem uhB_length (l : List UInt8) : (uhB l).length = 32 := by
  unfold uhB
  split
  · rename_i h; exact unh_length l 32 (by omega)
  · exact z32_length

theorem uh_bad {l : List UInt8} (h : ¬ (l.length = 64 ∧ okT l = true)) : Ending.returned (.tuple #[.agg (bytesV (uhB l)).toArray, .int .i64 (uhE l)]) = .returned (.tuple #[.agg (bytesV z32).toArray, .int .i64 23]) := by
  unfold uhB uhE
  rw [if_neg h, if_neg h]
theorem bytes_row_cell {w : World} {b : Nat} {xs : List UInt8} {T : TypeId} (h : w.heap[b]? = some (.cells (bytesV xs).toArray T (0, 0))) (i : Nat) (hi : i < xs.length) : w.cell? ⟨b, i, none⟩ = some (.int .u8 ((xs.getD i 0).toNat : Nat)) := by
  rw [row_cell h i (by rw [bytesV_length]; exact hi)]
  simp [bytesV, List.getD_eq_getElem?_getD, hi]
theorem or_digits (a b : Nat) (ha : a < 16) (hb : b < 16) : bits .or .u8 ((a : Int) * 16) (b : Int) = ((((16 * a + b).toUInt8).toNat : Nat) : Int) := by
  have h := u8_or_nat (2 ^ 4 * a) b (by omega) (by omega)
  rw [← Nat.two_pow_add_eq_or_of_lt (i := 4) (b := b) (by omega) a] at h
  rw [show ((a : Int) * 16) = ((2 ^ 4 * a : Nat) : Int) by omega, h]
  simp only [Nat.toUInt8_eq, UInt8.toNat_ofNat']
  omega

set_option maxRecDepth 100000 in
set_option maxHeartbeats 1000000 in
theorem unhex_any (w : World) (s : ByteArray) (l : List UInt8) (hs : s.data.toList = l) :
    Calls Tryd.prog 31 #[.string s] w fun e w' => e = .returned (.tuple #[.agg (bytesV (uhB l)).toArray, .int .i64 (uhE l)]) ∧ Below w.heap.size w w' := by
  obtain ⟨z, sz⟩ := zero_of_info (P := Tryd.prog) (t := 53) (v := .agg (bytesV (z32)).toArray) (n := 32) (by kernel_rfl)
  have HZ := hid sz
  have HBU := hid (show Tryd.prog.built 53 [] = some (bytesV (z32)).toArray by kernel_rfl)
  clear sz
  have hsz : s.size = l.length := by rw [← hs]; simp
  have hzl : (s.size : Int) = (l.length : Int) := by omega
  have HL32 := hid (show (Tryd.prog.info? 53).map (·.size) = some (bytesV (z32)).length by rw [bytesV_length]; exact HZ.out)
  have HS := hid hs
  have HSZ := hid hsz
  clear hs hsz
  by_cases h64 : l.length = 64
  · have hne : (((s.size : Nat) : Int) != 64) = false := by simp; omega
    have H64 := hid h64
    clear h64 hzl
    have HU := hid (⟨(hp_two' w _ _).1, (hp_two' w _ _).2, below_walk2 w _ _⟩ : Uh w z32 ((w.alloc (.cells (bytesV (z32)).toArray 53)).alloc (.cells (bytesV (z32)).toArray 53)))
    go_enter Tryd.func31, Tryd.ntmps31
    go_upto_region 2 with fail
    generalize (w.alloc (.cells (bytesV (z32)).toArray 53)).alloc (.cells (bytesV (z32)).toArray 53) = w2 at HU ⊢
    go_wp2
    go_loopw [14] (fun vi wr => ∃ k : Nat, k ≤ 32 ∧ vi = .int .i64 k ∧ Uh w (unh (l.take (2 * k)) ++ List.replicate (32 - k) 0) wr ∧ Hid (okT (l.take (2 * k)) = true)) (fun vi _ => 32 - (intOf vi).toNat)
    case atStart => exact ⟨0, by omega, rfl, show Uh w (unh (l.take 0) ++ List.replicate 32 0) w2 from HU.out, rfl⟩
    case round =>
      obtain ⟨k, hk, rfl, hu, HOK⟩ := hrel
      clear HU
      have HU := hid hu
      clear hu
      by_cases hlt : k < 32
      · have i1 := str_at s l HS.out (2 * k) (by rw [H64.out]; omega)
        have i2 := str_at s l HS.out (2 * k + 1) (by rw [H64.out]; omega)
        have HTT := hid (take_two l k (by rw [H64.out]; omega))
        have HOT := hid (okT_take l k (by rw [H64.out]; omega) HOK.out)
        obtain ⟨a, HA⟩ : ∃ a : UInt8, Hid (a = l.getD (2 * k) 0) := ⟨_, rfl⟩
        obtain ⟨b, HB⟩ : ∃ b : UInt8, Hid (b = l.getD (2 * k + 1) 0) := ⟨_, rfl⟩
        rw [← HA.out] at i1 HTT HOT
        rw [← HB.out] at i2 HTT HOT
        rw [show ((2 * k : Nat) : Int) = 2 * (k : Int) by omega] at i1
        rw [show ((2 * k + 1 : Nat) : Int) = 2 * (k : Int) + 1 by omega] at i2
        go_wp2_with fail
        refine (half_any a _).mono ?_
        rintro e wa ⟨rfl, rfl⟩
        go_wp2_with fail
        refine (half_any b _).mono ?_
        rintro e wb ⟨rfl, rfl⟩
        cases hoa : okD a with
        | false =>
          have HBAD := hid (show okT l = false by
            refine okT_bad l (2 * (k + 1)) ?_
            rw [HOT.out, hoa]
            rfl)
          clear hoa
          go_upto_region 10 with fail
          refine wp_region_list ?_
          show wpList _ _ _ (_ :: _) _ _
          refine bd_row (by rfl) 53 _ (by rfl) [] (by simp) _ HBU.out ?_
          refine st_row (by rfl) 53 (.tmp 2) (.tmp 40) (by rfl) w.heap.size _ (by rfl) (by rfl) 53 _ HU.out.b0 HL32.out (by rw [List.size_toArray]) (bytesV_one _) ?_
          intro w4 hw4
          have HWW := hid hw4
          clear hw4
          go_wp2
          refine ret_row2 2 3 53 rfl w.heap.size rfl _ 53 HWW.out.blk _ Tryd.underlying53 rfl HL32.out _ rfl rfl ⟨?_, ?_⟩
          · rw [uh_bad (by simp [HBAD.out])]
            rfl
          · exact HU.out.bel.grown HWW.out.grown HU.out.bel.size (by intro k hk; cases hk; exact Nat.le_refl _)
        | true =>
          cases hob : okD b with
          | false =>
            have HBAD := hid (show okT l = false by
              refine okT_bad l (2 * (k + 1)) ?_
              rw [HOT.out, hob, Bool.and_false])
            clear hoa hob
            go_upto_region 10 with fail
            refine wp_region_list ?_
            show wpList _ _ _ (_ :: _) _ _
            refine bd_row (by rfl) 53 _ (by rfl) [] (by simp) _ HBU.out ?_
            refine st_row (by rfl) 53 (.tmp 2) (.tmp 40) (by rfl) w.heap.size _ (by rfl) (by rfl) 53 _ HU.out.b0 HL32.out (by rw [List.size_toArray]) (bytesV_one _) ?_
            intro w4 hw4
            have HWW := hid hw4
            clear hw4
            go_wp2
            refine ret_row2 2 3 53 rfl w.heap.size rfl _ 53 HWW.out.blk _ Tryd.underlying53 rfl HL32.out _ rfl rfl ⟨?_, ?_⟩
            · rw [uh_bad (by simp [HBAD.out])]
              rfl
            · exact HU.out.bel.grown HWW.out.grown HU.out.bel.size (by intro k hk; cases hk; exact Nat.le_refl _)
          | true =>
            have HOK2 := hid (show okT (l.take (2 * (k + 1))) = true by rw [HOT.out, hoa, hob]; rfl)
            have HUL := hid (show (unh (l.take (2 * k))).length = k from unh_length _ k (by rw [List.length_take, H64.out]; omega))
            have HDL := hid (show (unh (l.take (2 * k)) ++ List.replicate (32 - k) 0).length = 32 by rw [List.length_append, HUL.out, List.length_replicate]; omega)
            have c1 := bytes_row_cell HU.out.b1 k (by rw [HDL.out]; exact hlt)
            have f1 := row_fz HU.out.b1 k
            have hva := valD_lt a
            have hvb := valD_lt b
            have hor : bits .or .u8 (((valD a : Nat) : Int) * 16) ((valD b : Nat) : Int) = ((((16 * valD a + valD b).toUInt8).toNat : Nat) : Int) := or_digits _ _ hva hvb
            have hm : ((valD a : Nat) : Int) * 16 % 256 = ((valD a : Nat) : Int) * 16 := by omega
            have HST := hid (HU.out.step k (16 * valD a + valD b).toUInt8)
            rw [set_next _ k 32 HUL.out hlt, ← unh_append _ k (by rw [List.length_take, H64.out]; omega) a b, ← HTT.out] at HST
            clear hoa hob
            go_wp2
            refine ⟨⟨k + 1, by omega, by simp, ?_, HOK2⟩, by simp [intOf]; omega⟩
            first | exact HST.out | (rw [hor]; exact HST.out)
      · have hge : ¬ (k : Int) < 32 := by omega
        obtain rfl : k = 32 := by omega
        have HD : Hid (Uh w (uhB l) wr ∧ uhE l = 0) := by
          have hu := HU.out
          have hk := HOK.out
          rw [List.take_of_length_le (by rw [H64.out]; omega)] at hu hk
          unfold uhB uhE
          rw [if_pos ⟨H64.out, hk⟩, if_pos ⟨H64.out, hk⟩]
          rw [show List.replicate (32 - 32) (0 : UInt8) = [] from rfl, List.append_nil] at hu
          exact hid ⟨hu, rfl⟩
        have HLB : Hid ((Tryd.prog.info? 53).map (·.size) = some (bytesV (uhB l)).length) := by rw [bytesV_length, uhB_length]; exact HZ.out
        clear hlt HU HOK
        go_upto_region 13 with fail
        refine wp_region_list ?_
        show wpList _ _ _ (_ :: _) _ _
        refine ld_row (by rfl) 53 (.tmp 4) (by rfl) (w.heap.size + 1) (by rfl) _ 53 HD.out.1.b1 _ Tryd.underlying53 rfl HLB.out ?_
        refine st_row (by rfl) 53 (.tmp 2) (.tmp 48) (by rfl) w.heap.size _ (by rfl) (by rfl) 53 _ HD.out.1.b0 HLB.out (by rw [List.size_toArray, bytesV_length, bytesV_length, uhB_length]; rfl) (bytesV_one _) ?_
        intro w4 hw4
        have HWW := hid hw4
        clear hw4
        go_wp2
        refine ret_row2 2 3 53 rfl w.heap.size rfl _ 53 HWW.out.blk _ Tryd.underlying53 rfl HLB.out _ rfl rfl ⟨?_, ?_⟩
        · rw [HD.out.2]
          rfl
        · exact HD.out.1.bel.grown HWW.out.grown HD.out.1.bel.size (by intro k hk; cases hk; exact Nat.le_refl _)
  · have hne : (((s.size : Nat) : Int) != 64) = true := by simp only [bne_iff_ne, ne_eq]; omega
    have HNE := hid h64
    clear h64 hzl
    have HU := hid (⟨(hp_two' w _ _).1, (hp_two' w _ _).2, below_walk2 w _ _⟩ : Uh w z32 ((w.alloc (.cells (bytesV z32).toArray 53)).alloc (.cells (bytesV z32).toArray 53)))
    go_enter Tryd.func31, Tryd.ntmps31
    go_upto_region 2 with fail
    generalize (w.alloc (.cells (bytesV z32).toArray 53)).alloc (.cells (bytesV z32).toArray 53) = w2 at HU ⊢
    go_upto_region 3 with fail
    refine wp_region_list ?_
    show wpList _ _ _ (_ :: _) _ _
    refine bd_row (by rfl) 53 _ (by rfl) [] (by simp) _ HBU.out ?_
    refine st_row (by rfl) 53 (.tmp 2) (.tmp 13) (by rfl) w.heap.size _ (by rfl) (by rfl) 53 _ HU.out.b0 HL32.out (by rw [List.size_toArray]) (bytesV_one _) ?_
    intro w4 hw4
    have HWW := hid hw4
    clear hw4
    go_wp2
    refine ret_row2 2 3 53 rfl w.heap.size rfl _ 53 HWW.out.blk _ Tryd.underlying53 rfl HL32.out _ rfl rfl ⟨?_, ?_⟩
    · rw [uh_bad (by simp [HNE.out])]
      rfl
    · exact HU.out.bel.grown HWW.out.grown HU.out.bel.size (by intro k hk; cases hk; exact Nat.le_refl _)

end Go.Proofs.YticmdmnjajjpbabDoor
