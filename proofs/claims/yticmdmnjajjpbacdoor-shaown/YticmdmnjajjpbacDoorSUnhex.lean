/- half and Unhex. -/
import Derived.Test.YticmdmnjajjpbacDoorSHex
namespace Go.Proofs.YticmdmnjajjpbacDoor
open Go.RowKit

/-- is it a digit? -/
def okD (c : UInt8) : Bool := decide ((48 ≤ c.toNat ∧ c.toNat ≤ 57) ∨ (97 ≤ c.toNat ∧ c.toNat ≤ 102))
/-- which one -/
def valD (c : UInt8) : Nat := if 48 ≤ c.toNat ∧ c.toNat ≤ 57 then c.toNat - 48 else if 97 ≤ c.toNat ∧ c.toNat ≤ 102 then c.toNat - 87 else 0
theorem valD_lt (c : UInt8) : valD c < 16 := by unfold valD; split <;> (try split) <;> omega

theorem ret_pair {a b : Int} {t u : Bool} (h1 : a = b) (h2 : t = u) : Ending.returned (.tuple #[.int .u8 a, .bool t]) = .returned (.tuple #[.int .u8 b, .bool u]) := by rw [h1, h2]

/-- text as bytes -/
def unh : List UInt8 → List UInt8
  | a :: b :: r => (16 * valD a + valD b).toUInt8 :: unh r
  | _ => []
/-- are all of them digits? -/
def okT (l : List UInt8) : Bool := l.all okD
theorem unh_hexT (bs : List UInt8) : unh (hexT bs) = bs ∧ okT (hexT bs) = true := by
  have key : ∀ q : Fin 16, okD (hexd q.val) = true ∧ valD (hexd q.val) = q.val := by decide
  induction bs with
  | nil => exact ⟨rfl, rfl⟩
  | cons b r ih =>
    have hb := b.toNat_lt
    have k1 := key ⟨b.toNat / 16, by omega⟩
    have k2 := key ⟨b.toNat % 16, by omega⟩
    refine ⟨?_, ?_⟩
    · simp only [hexT, unh]
      rw [k1.2, k2.2, ih.1]
      congr 1
      refine UInt8.toNat_inj.1 ?_
      simp only [Nat.toUInt8_eq, UInt8.toNat_ofNat']
      omega
    · simp only [okT, hexT, List.all_cons]
      rw [k1.1, k2.1]
      exact ih.2
theorem hexd_val (c : UInt8) (h : okD c = true) : hexd (valD c) = c := by
  have key : ∀ n : Fin 256, okD n.val.toUInt8 = true → hexd (valD n.val.toUInt8) = n.val.toUInt8 := by decide +kernel
  have := key ⟨c.toNat, c.toNat_lt⟩
  rw [show ((⟨c.toNat, c.toNat_lt⟩ : Fin 256).val.toUInt8) = c from UInt8.toNat_inj.1 (by simp)] at this
  exact this h
theorem hexT_unh : ∀ (l : List UInt8) (n : Nat), l.length = 2 * n → okT l = true → hexT (unh l) = l
  | [], _, _, _ => rfl
  | [a], n, h, _ => by simp at h; omega
  | a :: b :: r, n, h, hk => by
    simp only [okT, List.all_cons, Bool.and_eq_true] at hk
    have ih := hexT_unh r (n - 1) (by simp at h; omega) hk.2.2
    have ha := valD_lt a
    have hb := valD_lt b
    simp only [unh, hexT]
    have e : ((16 * valD a + valD b).toUInt8).toNat = 16 * valD a + valD b := by
      simp only [Nat.toUInt8_eq, UInt8.toNat_ofNat']
      omega
    rw [e, ih, show (16 * valD a + valD b) / 16 = valD a by omega, show (16 * valD a + valD b) % 16 = valD b by omega, hexd_val a hk.1, hexd_val b hk.2.1]
theorem unh_append (l : List UInt8) (n : Nat) (h : l.length = 2 * n) (a b : UInt8) : unh (l ++ [a, b]) = unh l ++ [(16 * valD a + valD b).toUInt8] := by
  match l, n, h with
  | [], _, _ => rfl
  | [x], n, h => simp at h; omega
  | x :: y :: r, n, h => simp only [List.cons_append, unh]; rw [unh_append r (n - 1) (by simp at h; omega) a b]
theorem unh_length (l : List UInt8) (n : Nat) (h : l.length = 2 * n) : (unh l).length = n := by
  match l, n, h with
  | [], 0, _ => rfl
  | [], n + 1, h => simp at h
  | [x], n, h => simp at h; omega
  | x :: y :: r, n, h => simp only [unh, List.length_cons]; rw [unh_length r (n - 1) (by simp at h; omega)]; simp at h; omega

theorem results_cell2 {fn : Func} {p q : Tmp} {ty : TypeId} (h : fn.results = #[.cell p ty, .tmp q]) (tmps : Array Value) (P : Program) (w : World) :
    (results fn tmps).run P w = ((asAddr (tmps.getD p undef)).run P w).andThen fun a w₁ => ((loadVar ty a).run P w₁).andThen fun v w₂ => .ok (.tuple #[v, tmps.getD q undef]) w₂ := by
  simp only [results, h]
  simp [Sem.run_bind, Result.andThen]
/-- the answer is a whole row that lies in a variable, and a number -/
theorem ret_row2 {P : Program} {fn : Func} {R : Ending → World → Prop} {a : Act} {w : World} (p q : Tmp) (ty : TypeId) (h : fn.results = #[.cell p ty, .tmp q]) (g : Nat) (hp : a.tmps.getD p undef = .pointer (some ⟨g, 0, none⟩))
    (cs : List Value) (t : TypeId) (hb : w.heap[g]? = some (.cells cs.toArray t (0, 0))) (d : TypeDesc) (hu : P.underlying ty = some d) (hd : d.isRow = true) (hi : (P.info? ty).map (·.size) = some cs.length)
    (v : Value) (hq : a.tmps.getD q undef = v) (hdf : a.defers = []) (hR : R (.returned (.tuple #[.agg cs.toArray, v])) w) : bodyPost P fn R .ret a w := by
  refine bodyPost_ret (v := .tuple #[.agg cs.toArray, v]) ?_ hdf hR
  rw [results_cell2 h, hp, hq]
  have := run_loadVar_mid (P := P) w g 0 ty cs d (fun j v hv => by rw [Nat.zero_add, cell_of_row w g j cs.toArray t (0, 0) hb]; simpa using hv) hu hd hi
  simp [asAddr, this]

/-- noughts -/
def z32 : List UInt8 := List.replicate 32 0
theorem z32_length : z32.length = 32 := rfl
theorem hp_two' (w : World) (o p : Obj) : ((w.alloc o).alloc p).heap[w.heap.size]? = some o ∧ ((w.alloc o).alloc p).heap[w.heap.size + 1]? = some p := by
  refine ⟨?_, ?_⟩
  · rw [hp_old _ _ _ (by rw [hp_size]; omega), hp_new]
  · have := hp_new (w.alloc o) p
    rwa [hp_size] at this
/-- the digest, as far as it is read -/
structure Uh (w : World) (D : List UInt8) (wr : World) : Prop where
  b0 : wr.heap[w.heap.size]? = some (.cells (bytesV (z32)).toArray 23 (0, 0))
  b1 : wr.heap[w.heap.size + 1]? = some (.cells (bytesV D).toArray 23 (0, 0))
  bel : Below w.heap.size w wr
theorem Uh.step {w : World} {D : List UInt8} {wr : World} (h : Uh w D wr) (k : Nat) (x : UInt8) : Uh w (D.set k x) (wr.setCell ⟨w.heap.size + 1, k, none⟩ (.int .u8 ((x.toNat : Nat) : Int))) := by
  refine ⟨?_, ?_, ?_⟩
  · exact (hp_set wr _ _ _ _ (by omega)).trans h.b0
  · refine (blk_set (w := wr) (i := k) h.b1 (.int .u8 ((x.toNat : Nat) : Int))).trans ?_
    simp [bytesV, List.map_set]
  · exact h.bel.grown (gb_set wr _ _) h.bel.size (by intro k hk; cases hk; simp only []; omega)
theorem set_next (A : List UInt8) (k n : Nat) (hA : A.length = k) (hk : k < n) (x : UInt8) : (A ++ List.replicate (n - k) 0).set k x = (A ++ [x]) ++ List.replicate (n - (k + 1)) 0 := by
  subst hA
  rw [List.set_append_right _ _ (Nat.le_refl _), Nat.sub_self, show n - A.length = (n - (A.length + 1)) + 1 by omega, List.replicate_succ]
  simp
theorem take_two (l : List UInt8) (k : Nat) (h : 2 * k + 1 < l.length) : l.take (2 * (k + 1)) = l.take (2 * k) ++ [l.getD (2 * k) 0, l.getD (2 * k + 1) 0] := by
  rw [show 2 * (k + 1) = 2 * k + 1 + 1 by omega, List.take_succ_eq_append_getElem h, List.take_succ_eq_append_getElem (by omega), List.append_assoc]
  simp [List.getD_eq_getElem?_getD, List.getElem?_eq_getElem h, List.getElem?_eq_getElem (show 2 * k < l.length by omega)]
theorem okT_take (l : List UInt8) (k : Nat) (h : 2 * k + 1 < l.length) (hk : okT (l.take (2 * k)) = true) : okT (l.take (2 * (k + 1))) = (okD (l.getD (2 * k) 0) && okD (l.getD (2 * k + 1) 0)) := by
  rw [take_two l k h]
  unfold okT at hk ⊢
  rw [List.all_append, hk]
  simp
theorem okT_bad (l : List UInt8) (k : Nat) (h : okT (l.take k) = false) : okT l = false := by
  cases e : okT l with
  | false => rfl
  | true =>
    unfold okT at e h
    rw [List.all_eq_true] at e
    have : (l.take k).all okD = true := List.all_eq_true.2 fun x hx => e x (List.mem_of_mem_take hx)
    rw [this] at h
    cases h
theorem str_at (s : ByteArray) (l : List UInt8) (hs : s.data.toList = l) (k : Nat) (hk : k < l.length) (W : World) : (Instr.index 9 (.string s) (.int .i64 (k : Int))).run Tryd.prog W = .ok (.int .u8 ((l.getD k 0).toNat : Nat)) W := by
  subst hs
  have hsz : s.size = s.data.toList.length := by simp
  rw [run_index_string W 9 s .i64 _ Tryd.underlying9, dif_pos ⟨by omega, by omega⟩]
  congr 3
  simp only [Int.toNat_natCast, List.getD_eq_getElem?_getD, List.getElem?_eq_getElem hk, Option.getD_some]
  rfl

/-- what Unhex says -/
def uhB (l : List UInt8) : List UInt8 := if l.length = 64 ∧ okT l = true then unh l else z32
def uhE (l : List UInt8) : Int := if l.length = 64 ∧ okT l = true then 0 else 23
theorem uhB_length (l : List UInt8) : (uhB l).length = 32 := by
  unfold uhB
  split
  · rename_i h; exact unh_length l 32 (by omega)
  · exact z32_length

theorem uh_bad {l : List UInt8} (h : ¬ (l.length = 64 ∧ okT l = true)) : Ending.returned (.tuple #[.agg (bytesV (uhB l)).toArray, .int .i64 (uhE l)]) = .returned (.tuple #[.agg (bytesV z32).toArray, .int .i64 23]) := by
  unfold uhB uhE
  rw [if_neg h, if_neg h]
theorem bytes_row_cell {w : World} {b : Nat} {xs : List UInt8} {T : TypeId} (h : w.heap[b]? = some (.cells (bytesV xs).toArray T (0, 0))) (i : Nat) (hi : i < xs.length) : w.cell? ⟨b, i, none⟩ = some (.int .u8 ((xs.getD i 0).toNat : Nat)) := by
  rw [row_cell h i (by rw [bytesV_length]; exact hi)]
  simp [bytesV, List.getD_eq_getElem?_getD, hi]
theorem or_digits (a b : Nat) (ha : a < 16) (hb : b < 16) : bits .or .u8 ((a : Int) * 16) (b : Int) = ((((16 * a + b).toUInt8).toNat : Nat) : Int) := by
  have h := u8_or_nat (2 ^ 4 * a) b (by omega) (by omega)
  rw [← Nat.two_pow_add_eq_or_of_lt (i := 4) (b := b) (by omega) a] at h
  rw [show ((a : Int) * 16) = ((2 ^ 4 * a : Nat) : Int) by omega, h]
  simp only [Nat.toUInt8_eq, UInt8.toNat_ofNat']
  omega

end Go.Proofs.YticmdmnjajjpbacDoor
