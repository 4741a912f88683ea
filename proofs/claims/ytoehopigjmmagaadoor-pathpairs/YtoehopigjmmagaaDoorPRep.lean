/- slices.Repeat of one text. -/
import Derived.Test.YtoehopigjmmagaaDoorPSl
import Derived.Deep.OwnRows
import Derived.Deep.Cut
import Derived.Laws.CopyOwn
import Derived.Deep.RegionLaw
namespace Go.Proofs.YtoehopigjmmagaaDoor
open Go.RowKit

theorem mv_row {P : Program} {w : World} {ops : Array Oper} {rest : List Oper} {o : Oper} {a : Act} {Q : Exit → Act → World → Prop} (hgd : o.guard = none) (x : Operand) (ho : o.op = .move x) (v : Value) (hx : a.eval x = v)
    (h : wpList P ops Q rest (a.put o.dst v) w) : wpList P ops Q (o :: rest) a w := by
  subst hx
  refine wpList_plain hgd fun K hK => ?_
  unfold Oper.wp execOp
  simp only [ho, Sem.run_pure]
  exact hK _ _ h

/-- what a copy wants -/
def CpOk (W : World) (d s : Option Addr) (g m : Nat) (DS : List Value) : Prop := 0 < DS.length → d = some ⟨g, m, none⟩ ∧ ∃ ad, s = some ad ∧ ∀ j v, DS[j]? = some v → W.cell? (ad.add j) = some v

/-- m times p, and what is not yet laid -/
def rep (m n : Nat) (p : List UInt8) : List (List UInt8) := List.replicate m p ++ List.replicate (n - m) []
theorem rep_length {m n : Nat} {p : List UInt8} (h : m ≤ n) : (rep m n p).length = n := by simp [rep]; omega
theorem rep_zero (n : Nat) (p : List UInt8) : madeCells #[.string ByteArray.empty] n = (strV (rep 0 n p)).toArray := by
  apply Array.ext
  · simp [madeCells, strV, rep]
  · intro i h1 h2
    simp [madeCells, strV, rep, Nat.mod_one]
    rfl
theorem rep_full (n : Nat) (p : List UInt8) : rep n n p = List.replicate n p := by simp [rep]
theorem rep_splice {m n k : Nat} {p : List UInt8} (h : m + k ≤ n) : splice (strV (rep m n p)) m (strV (List.replicate k p)) = strV (rep (m + k) n p) := by
  have e1 : (strV (rep m n p)).take m = strV (List.replicate m p) := by
    simp [strV, rep]
  have e2 : (strV (rep m n p)).drop (m + k) = strV (List.replicate (n - (m + k)) []) := by
    simp only [strV, rep, ← List.map_drop]
    congr 1
    rw [List.drop_append, List.length_replicate, List.drop_eq_nil_of_le (by simp), List.nil_append, List.drop_replicate]
    congr 1
    omega
  have e3 : (strV (List.replicate k p)).length = k := by simp [strV]
  unfold splice
  rw [e3, e1, e2]
  simp only [strV, rep, ← List.map_append]
  congr 1
  rw [← List.append_assoc, List.replicate_append_replicate]
theorem rep_cell {w : World} {g m n : Nat} {p : List UInt8} (h : w.heap[g]? = some (.cells (strV (rep m n p)).toArray 9 (0, 0))) (j : Nat) (hj : j < m) (hm : m ≤ n) : w.cell? ⟨g, j, none⟩ = some (.string (mk p)) := by
  have hl : j < (strV (rep m n p)).length := by rw [strV_length, rep_length hm]; omega
  simp only [World.cell?, h]
  simp [strV, rep, List.getElem?_append, hj]

theorem sl_from (g n k : Nat) (hk : k < n) (W : World) : (Instr.slice 22 (.slice (some ⟨g, 0, none⟩) n n) (some (.int .i64 (k : Int))) none none).run Tryd.prog W = .ok (.slice (some ⟨g, k, none⟩) (n - k) (n - k)) W := by
  have hk2 : (k : Int) ≤ (n : Int) := by omega
  have hne : ¬ n = k := by omega
  have e : (⟨g, 0, none⟩ : Addr).add k = ⟨g, k, none⟩ := addr_add g k
  have : (Instr.slice 22 (.slice (some ⟨g, 0, none⟩) n n) (some (.int .i64 (k : Int))) none none).run Tryd.prog W = .ok (.slice (if n = k then some ⟨g, 0, none⟩ else some ((⟨g, 0, none⟩ : Addr).add k)) (n - k) (n - k)) W := by go_simp
  rw [this, if_neg hne, e]

set_option maxRecDepth 100000 in
set_option maxHeartbeats 1000000 in
theorem repeat_any (gx : Nat) (p : List UInt8) (n : Nat) (w : World) (hx : w.cell? ⟨gx, 0, none⟩ = some (.string (mk p))) (hn : n ≤ 1000) :
    Calls Tryd.prog 50 #[.slice (some ⟨gx, 0, none⟩) 1 1, .int .i64 n] w fun e w' => ∃ v, e = .returned v ∧ OwnS w' w.heap.size v (List.replicate n p) ∧ Below w.heap.size w w' := by
  have HX := hid hx
  have HM := hid (Tryd.bits_Mul 1 n (by decide) (by omega))
  rw [show 1 * n / 18446744073709551616 = 0 by omega, show 1 * n % 18446744073709551616 = n by omega] at HM
  have hmk := run_make_row' (P := Tryd.prog) 22 9 (.string ByteArray.empty) 16 Tryd.underlying22 (by kernel_rfl) rfl .i64 .i64 n (by omega) (by omega)
  have h0 : ¬ (n : Int) < 0 := by omega
  have h1 : ¬ (9223372036854775807 : Int) < (n : Int) := by omega
  have w1 : IntKind.u64.wrap (n : Int) = (n : Int) := by rw [IntKind.wrap_u64]; omega
  have w2 : IntKind.i64.wrap (n : Int) = (n : Int) := by rw [IntKind.wrap_i64]; omega
  clear hx
  go_enter Tryd.func50, Tryd.ntmps50
  have HU := hid (show (Tryd.prog.info? 9).map (·.size) = some 1 by kernel_rfl)
  go_upto_region 7 with (go_at_call 58; refine (HM.out _).mono ?_; rintro e w' ⟨rfl, hw⟩; subst w')
  rw [rep_zero n p]
  have HG0 := hid (hp_new w (.cells (strV (rep 0 n p)).toArray 9))
  have HB0 := hid (below_walk w (.cells (strV (rep 0 n p)).toArray 9))
  have HX1 := hid (show (w.alloc (.cells (strV (rep 0 n p)).toArray 9)).cell? ⟨gx, 0, none⟩ = some (.string (mk p)) by
    rw [World.cell?_alloc_old _ _ _ (Nat.ne_of_lt (World.block_lt_of_cell? _ _ HX.out))]; exact HX.out)
  generalize w.alloc (.cells (strV (rep 0 n p)).toArray 9) = w5 at HG0 HB0 HX1 ⊢
  obtain ⟨k1, HK1⟩ : ∃ k1 : Nat, Hid (k1 = Nat.min 1 n) := ⟨_, rfl⟩
  have hk1 : k1 ≤ n ∧ k1 ≤ 1 ∧ (0 < n → 0 < k1) := by
    have := HK1.out
    simp only [Nat.min_def] at this
    split at this <;> omega
  obtain ⟨CS, HCS⟩ : ∃ CS, Hid (CS = strV (List.replicate k1 p)) := ⟨_, rfl⟩
  have hcl : CS.length = k1 := by rw [HCS.out, strV_length, List.length_replicate]
  have HN1 := hid (show CS.length = Nat.min 1 n by rw [hcl, HK1.out])
  have HP1 := hid (show 0 < CS.length → (some ⟨w.heap.size, 0, none⟩ : Option Addr) = some ⟨w.heap.size, 0, none⟩ ∧ ∃ ad, (some ⟨gx, 0, none⟩ : Option Addr) = some ad ∧ ∀ j v, CS[j]? = some v → w5.cell? (ad.add j) = some v from fun hpos => by
    refine ⟨rfl, _, rfl, fun j v hj => ?_⟩
    obtain rfl : k1 = 1 := by omega
    rw [HCS.out] at hj
    match j, hj with
    | 0, hj =>
      have := Option.some.inj hj
      rw [← this]
      exact HX1.out
    | j + 1, hj => simp [strV] at hj)
  have HF1 := hid (show 0 + CS.length ≤ (strV (rep 0 n p)).length by rw [strV_length, rep_length (Nat.zero_le _), hcl]; omega)
  have HO1 := hid (show ∀ v ∈ CS, v.oneCell' = true by rw [HCS.out]; exact strV_one _)
  have HSP := hid (show splice (strV (rep 0 n p)) 0 CS = strV (rep k1 n p) by rw [HCS.out, rep_splice (by omega), Nat.zero_add])
  refine wp_region_list ?_
  show wpList _ _ _ (_ :: _) _ _
  refine mv_row (by rfl) (.tmp 7) (by rfl) (.slice (some ⟨w.heap.size, 0, none⟩) n n) (by rfl) ?_
  refine mv_row (by rfl) (.tmp 0) (by rfl) (.slice (some ⟨gx, 0, none⟩) 1 1) (by rfl) ?_
  refine wpList_copy_splice (by rfl) (.tmp 31) (.tmp 32) 22 22 (by rfl) 9 Tryd.underlying22 HU.out _ _ _ _ _ _ (by rfl) (by rfl) w.heap.size 0 (strV (rep 0 n p)) 9 HG0.out CS HN1.out HP1.out HF1.out HO1.out w.heap.size w HB0.out (Nat.le_refl _) ?_
  intro w6 HG6 hb6
  have HB6 := hid hb6
  rw [HSP.out] at HG6
  clear hb6 HG0 HB0 HX1 HP1 HN1 HF1 HO1 HSP HM hmk
  clear w1 w2
  go_wp2
  go_loopw [8] (fun i wr => ∃ m : Nat, m ≤ n ∧ (0 < n → 0 < m) ∧ i = .int .i64 m ∧ Hid (wr.heap[w.heap.size]? = some (.cells (strV (rep m n p)).toArray 9 (0, 0))) ∧ Below w.heap.size w wr) (fun i _ => n - (intOf i).toNat)
  case atStart => exact ⟨k1, hk1.1, hk1.2.2, by simp, HG6, HB6.out⟩
  case round =>
    obtain ⟨m, hm, hmp, rfl, HGR, hbr⟩ := hrel
    have HBR := hid hbr
    clear hbr HG6 HB6 hcl HCS
    by_cases hlt : m < n
    · have q1 : (m : Int) < (n : Int) := by omega
      have s1 := sl_from w.heap.size n m hlt
      have s2 := sl_to ⟨w.heap.size, 0, none⟩ n n m (by omega)
      obtain ⟨k2, HK2⟩ : ∃ k2 : Nat, Hid (k2 = Nat.min m (n - m)) := ⟨_, rfl⟩
      have hk2 : k2 ≤ m ∧ m + k2 ≤ n ∧ 0 < k2 := by
        have h2 := hmp (by omega)
        rw [HK2.out]
        simp only [Nat.min_def]
        split <;> omega
      obtain ⟨DS, HDS⟩ : ∃ DS, Hid (DS = strV (List.replicate k2 p)) := ⟨_, rfl⟩
      have hdl : DS.length = k2 := by rw [HDS.out, strV_length, List.length_replicate]
      have HN1 := hid (show DS.length = Nat.min m (n - m) by rw [hdl, HK2.out])
      have HP1 : Hid (∀ W : World, W.heap[w.heap.size]? = some (.cells (strV (rep m n p)).toArray 9 (0, 0)) → CpOk W (some ⟨w.heap.size, m, none⟩) (some ⟨w.heap.size, 0, none⟩) w.heap.size m DS) := (fun W hW hpos => by
        refine ⟨rfl, _, rfl, fun j v hj => ?_⟩
        have hjl : j < k2 := by
          rcases Nat.lt_or_ge j k2 with h | h
          · exact h
          · rw [List.getElem?_eq_none (by omega)] at hj; cases hj
        rw [HDS.out] at hj
        simp [strV, hjl] at hj
        rw [addr_add, ← hj]
        exact rep_cell hW j (by omega) hm)
      have HF1 := hid (show m + DS.length ≤ (strV (rep m n p)).length by rw [strV_length, rep_length hm, hdl]; omega)
      have HO1 := hid (show ∀ v ∈ DS, v.oneCell' = true by rw [HDS.out]; exact strV_one _)
      have HSP := hid (show splice (strV (rep m n p)) m DS = strV (rep (m + k2) n p) by rw [HDS.out, rep_splice (by omega)])
      obtain ⟨J, HJ⟩ : ∃ J : Nat, Hid (J = m + k2) := ⟨_, rfl⟩
      have hwj : IntKind.i64.wrap ((m : Int) + (k2 : Int)) = (J : Int) := by rw [IntKind.wrap_i64, HJ.out]; omega
      go_wp2_with fail
      go_region_law ((refine step_copy_splice (by rfl) (.tmp 41) (.tmp 44) 22 22 (by rfl) 9 Tryd.underlying22 HU.out (some ⟨w.heap.size, m, none⟩) (some ⟨w.heap.size, 0, none⟩) (n - m) (n - m) m n (by kernel_rfl) (by kernel_rfl) w.heap.size m (strV (rep m n p)) 9 (by exact HGR.out) DS HN1.out (HP1.out _ (by exact HGR.out)) HF1.out HO1.out w.heap.size w (by exact ⟨HBR.out.os, HBR.out.tape, HBR.out.output, HBR.out.size, HBR.out.block⟩) (Nat.le_refl _) ?_; intro w7 HC7 hb7; have HB7 := hid hb7; clear hb7; rw [show goInt DS.length = Value.int .i64 (k2 : Int) from by rw [hdl]; rfl]))
      rw [HSP.out] at HC7
      go_wp2
      go_roundw
      case rel =>
        first
          | exact ⟨.int .i64 (J : Int), (.int .i64 (m : Int)), (.slice (some ⟨w.heap.size, 0, none⟩) n n), (.int .i64 (n : Int)), (.bool true), (.int .i64 (m : Int)), (.slice (some ⟨w.heap.size, 0, none⟩) n n), (.int .i64 (m : Int)), (.slice (some ⟨w.heap.size, m, none⟩) (n - m) (n - m)), (.slice (some ⟨w.heap.size, 0, none⟩) n n), (.int .i64 (m : Int)), (.slice (some ⟨w.heap.size, 0, none⟩) m n), (.int .i64 (k2 : Int)), .int .i64 (J : Int), ⟨J, by rw [HJ.out]; omega, fun _ => by rw [HJ.out]; omega, by first | rfl | rw [hwj], by rw [HJ.out]; exact HC7, HB7.out⟩, by kernel_rfl⟩
          | exact ⟨.int .i64 (IntKind.i64.wrap ((m : Int) + (k2 : Int))), (.int .i64 (m : Int)), (.slice (some ⟨w.heap.size, 0, none⟩) n n), (.int .i64 (n : Int)), (.bool true), (.int .i64 (m : Int)), (.slice (some ⟨w.heap.size, 0, none⟩) n n), (.int .i64 (m : Int)), (.slice (some ⟨w.heap.size, m, none⟩) (n - m) (n - m)), (.slice (some ⟨w.heap.size, 0, none⟩) n n), (.int .i64 (m : Int)), (.slice (some ⟨w.heap.size, 0, none⟩) m n), (.int .i64 (k2 : Int)), .int .i64 (IntKind.i64.wrap ((m : Int) + (k2 : Int))), ⟨J, by rw [HJ.out]; omega, fun _ => by rw [HJ.out]; omega, by first | rfl | rw [hwj], by rw [HJ.out]; exact HC7, HB7.out⟩, by kernel_rfl⟩
      case measure =>
        have hJ := HJ.out
        first
          | (show n - (intOf (.int .i64 (J : Int))).toNat < n - (intOf (.int .i64 (m : Int))).toNat; simp [intOf]; omega)
          | (show n - (intOf (.int .i64 (IntKind.i64.wrap ((m : Int) + (k2 : Int))))).toNat < n - (intOf (.int .i64 (m : Int))).toNat; rw [hwj]; simp [intOf]; omega)
    · have q1 : ¬ (m : Int) < (n : Int) := by omega
      obtain rfl : m = n := by omega
      go_wp2
      go_ret
      refine ⟨_, rfl, OwnS.made (ts := List.replicate m p) (by have := HGR.out; rw [rep_full] at this; exact this) (by simp; omega) (Nat.le_refl _) m (by simp), HBR.out⟩

end Go.Proofs.YtoehopigjmmagaaDoor
