/- Join and Clean; what must come, whatever else is so. -/
import Derived.Test.YtoehopigjmmagaaDoorPJoin
namespace Go.Proofs.YtoehopigjmmagaaDoor
open Go.RowKit

theorem ret_si {a b : List UInt8} {x y : Int} (h : a = b) (k : x = y) : Ending.returned (.tuple #[.string (mk a), .int .i64 x]) = .returned (.tuple #[.string (mk b), .int .i64 y]) := by rw [h, k]

/-- how Join stands ahead of a round -/
def Jst (w : World) (b : List UInt8) (more : List (List UInt8)) (k : Nat) (x : Value) (e : Value) (wr : World) : Prop :=
  (∃ m, e = .int .i64 0 ∧ OwnS wr w.heap.size x m ∧ walksP m (more.drop k) = walksP (nms b) more ∧ m.length ≤ 32 + 4097 * k ∧ (∀ p ∈ m, nmP p = true)) ∨
  (∃ er : Int, er ≠ 0 ∧ e = .int .i64 er ∧ walksP (nms b) more = .error er ∧ x = .slice none 0 0)

theorem stepsP_len : ∀ {r l m : List (List UInt8)}, stepsP l r = .ok m → m.length ≤ l.length + r.length
  | [], l, m, h => by cases h; simp
  | p :: r, l, m, h => by
    unfold stepsP at h
    split at h
    · rename_i k hk
      have h1 := stepP_len hk
      have h2 := stepsP_len h
      simp; omega
    · cases h
theorem walkP_len {l m : List (List UInt8)} {s : List UInt8} (h : walkP l s = .ok m) : m.length ≤ l.length + 4097 := by
  unfold walkP at h
  split at h
  · cases h
  · split at h
    · cases h
    · have h1 := stepsP_len h
      have h2 := pcs_len s
      omega

set_option maxRecDepth 100000 in
set_option maxHeartbeats 1000000 in
theorem join_any (s : ByteArray) (vm : Value) (more : List (List UInt8)) (w : World) (hs : (bl s).length ≤ 9223372036854775807) (hm : Strs w vm more) (hl : more.length ≤ 268000000) :
    Calls Tryd.prog 20 #[.string s, vm] w fun e w' => e = .returned (.tuple #[.string (mk (aS (joinP (bl s) more))), .int .i64 (aN (joinP (bl s) more))]) ∧ Below w.heap.size w w' := by
  have HM := hid hm
  clear hm
  obtain ⟨am, cm, rfl⟩ := HM.out.shape
  cases hok : okP (bl s) with
  | false =>
    have HNM := hid (names_bad s w hok hs)
    have HR := hid (show joinP (bl s) more = .error 45 by unfold joinP; rw [hok]; rfl)
    clear hok hs
    go_enter Tryd.func20, Tryd.ntmps20
    go_wp2_with fail
    refine HNM.out.mono ?_
    rintro e w1 ⟨rfl, hb⟩
    have HB := hid hb
    clear hb
    go_wp2
    go_loopw [6, 7, 8] (fun x e i wr => x = .slice none 0 0 ∧ e = .int .i64 45 ∧ i = .int .i64 0 ∧ wr = w1) (fun _ _ _ _ => 0)
    case atStart => exact ⟨rfl, rfl, rfl, rfl⟩
    case round =>
      obtain ⟨rfl, rfl, rfl, h0⟩ := hrel
      subst wr
      go_wp2
      go_ret2
      exact ⟨ret_si (by rw [HR.out]; rfl) (by rw [HR.out]; rfl), HB.out⟩
  | true =>
    have HNM := hid (names_ok s w hok)
    have HPL := hid ((okP_iff _).1 hok)
    have HJ := hid (show joinP (bl s) more = finP (walksP (nms (bl s)) more) by unfold joinP; rw [hok, if_pos rfl])
    clear hok hs
    go_enter Tryd.func20, Tryd.ntmps20
    go_wp2_with fail
    refine HNM.out.mono ?_
    rintro e w1 ⟨v1, rfl, ho, hb⟩
    have HO := hid ho
    have HB := hid hb
    obtain ⟨a1, c1, rfl⟩ := ho.strs.shape
    clear hb ho
    go_wp2
    go_loopw [6, 7, 8] (fun x e i wr => ∃ k : Nat, k ≤ more.length ∧ i = .int .i64 k ∧ Below w.heap.size w wr ∧ Jst w (bl s) more k x e wr) (fun _ _ i _ => more.length - (intOf i).toNat)
    case atStart => exact ⟨0, by omega, rfl, HB.out, Or.inl ⟨_, rfl, HO.out, rfl, by have := HPL.out.2; omega, HPL.out.1⟩⟩
    case round =>
      obtain ⟨k, hk, rfl, hbr, hj⟩ := hrel
      have HBR := hid hbr
      have hle : w.heap.size ≤ wr.heap.size := hbr.size
      have HMR := hid (HM.out.below hbr)
      clear hbr HO HB HNM
      rcases hj with ⟨m, rfl, hom, hw, hml, hnm⟩ | ⟨er, hne, rfl, hw, rfl⟩
      · have HOM := hid hom
        have HW := hid hw
        have HNM := hid hnm
        obtain ⟨ax, cx, rfl⟩ := hom.strs.shape
        clear hom hw hnm
        by_cases hlt : k < more.length
        · have q1 : (k : Int) < (more.length : Int) := by omega
          obtain ⟨g, o, rfl, hc⟩ := HMR.out.at k hlt
          have hd := drop_cons hlt
          obtain ⟨pc, HPK⟩ : ∃ pc, Hid (more.getD k [] = pc) := ⟨_, rfl⟩
          rw [HPK.out] at hc hd
          have HD := hid hd
          have HWK := hid (walk_any w.heap.size _ m (mk pc) wr HOM.out (by omega) hle)
          rw [bl_mk] at HWK
          clear hd
          go_wp2_with fail
          refine HWK.out.mono ?_
          rintro e w2 (⟨m2, v2, hR, rfl, ho2, hb2⟩ | ⟨x, hR, rfl, hb2⟩)
          · have HJ2 : Hid (Jst w (bl s) more (k + 1) v2 (.int .i64 0) w2) := Or.inl ⟨m2, rfl, ho2, by rw [← HW.out, HD.out, walksP, hR], by have := walkP_len hR; omega, walkP_names hR HNM.out⟩
            have HB2 := hid (below_tr HBR.out hb2)
            obtain ⟨a2, c2, rfl⟩ := ho2.strs.shape
            clear hR ho2 hb2
            go_wp2
            exact ⟨⟨k + 1, by omega, by simp, HB2.out, HJ2.out⟩, by simp [intOf]; omega⟩
          · have HJ2 : Hid (Jst w (bl s) more (k + 1) (.slice none 0 0) (.int .i64 x) w2) := Or.inr ⟨x, by have := walkP_err hR; omega, rfl, by rw [← HW.out, HD.out, walksP, hR], rfl⟩
            have HB2 := hid (below_tr HBR.out hb2)
            clear hR hb2
            go_wp2
            exact ⟨⟨k + 1, by omega, by simp, HB2.out, HJ2.out⟩, by simp [intOf]; omega⟩
        · have q1 : ¬ (k : Int) < (more.length : Int) := by omega
          obtain rfl : k = more.length := by omega
          have HR := hid (show joinP (bl s) more = endP m by rw [HJ.out, ← HW.out, List.drop_length, walksP]; rfl)
          have HPO := hid (pathOf_any _ m wr HOM.out.strs HNM.out (by omega))
          go_wp2_with (go_at_call 40; refine HPO.out.mono ?_; rintro e w2 ⟨rfl, hb2⟩)
          go_ret2
          exact ⟨ret_si (by rw [HR.out]) (by rw [HR.out]), below_tr HBR.out (below_le hb2 hle)⟩
      · have q1 : (er == 0) = false := by simp [hne]
        have q2 : (er != 0) = true := by simp [hne]
        have HR := hid (show joinP (bl s) more = .error er by rw [HJ.out, hw]; rfl)
        clear hw
        go_wp2
        go_ret2
        exact ⟨ret_si (by rw [HR.out]; rfl) (by rw [HR.out]; rfl), HBR.out⟩

set_option maxHeartbeats 1000000 in
theorem clean_any (s : ByteArray) (w : World) :
    Calls Tryd.prog 22 #[.string s] w fun e w' => e = .returned (.tuple #[.string (mk (aS (joinP [] [bl s]))), .int .i64 (aN (joinP [] [bl s]))]) ∧ Below w.heap.size w w' := by
  have HJ := hid (join_any (mk []) _ [bl s] _ (by rw [bl_mk]; decide) (strs_one w s) (by simp))
  rw [bl_mk] at HJ
  have HB := hid (below_walk w (.cells #[.string s] 9))
  have HSZ := hid (show w.heap.size ≤ (w.alloc (.cells #[.string s] 9)).heap.size by simp)
  go_enter Tryd.func22, Tryd.ntmps22
  go_wp2_with (go_at_call 20; refine HJ.out.mono ?_; rintro e w2 ⟨rfl, hb2⟩)
  go_ret2
  exact ⟨rfl, below_tr HB.out (below_le hb2 HSZ.out)⟩

set_option maxHeartbeats 1000000 in
theorem awake_any (w : World) :
    Calls Tryd.prog 15 #[] w fun e w' => e = .returned (.bool true) ∧ Below w.heap.size w w' := by
  have HC1 := hid (clean_any (mk [97, 47, 47, 98, 47, 46, 46, 47, 99, 47, 46]) w)
  rw [bl_mk, show aS (joinP [] [[97, 47, 47, 98, 47, 46, 46, 47, 99, 47, 46]]) = [97, 47, 99] by decide, show aN (joinP [] [[97, 47, 47, 98, 47, 46, 46, 47, 99, 47, 46]]) = 0 by decide] at HC1
  have HC2 := hid (clean_any (mk [97, 47, 46, 46, 47, 46, 46]))
  rw [bl_mk, show aS (joinP [] [[97, 47, 46, 46, 47, 46, 46]]) = [] by decide, show aN (joinP [] [[97, 47, 46, 46, 47, 46, 46]]) = 43 by decide] at HC2
  have e1 : (mk [97, 47, 99]).toList = [97, 47, 99] := bl_mk _
  have HN := hid (name_ok (mk [120, 46, 121]) (by rw [bl_mk]; decide))
  go_enter Tryd.func15, Tryd.ntmps15
  go_wp2_with fail
  refine HC1.out.mono ?_
  rintro e w1 ⟨rfl, hb1⟩
  have HB1 := hid hb1
  clear hb1
  go_wp2_with fail
  refine (HC2.out w1).mono ?_
  rintro e w2 ⟨rfl, hb2⟩
  have HB2 := hid (below_tr HB1.out (below_le hb2 HB1.out.size))
  clear hb2
  go_wp2_with (go_at_call 11; refine (HN.out _).mono ?_; rintro e w3 ⟨rfl, rfl⟩)
  go_ret
  exact ⟨rfl, HB2.out⟩

theorem check_is (s : ByteArray) (x : Int) (h : chN (bl s) = x) (hs : (bl s).length ≤ 9223372036854775807) (w : World) :
    Calls Tryd.prog 13 #[.string s] w fun e w' => e = .returned (.int .i64 x) ∧ ∃ n, w' = w.drewN n := h ▸ check_any s w hs

theorem strs_two (w : World) (p q : ByteArray) : Strs (w.alloc (.cells #[.string p, .string q] 9)) (.slice (some ⟨w.heap.size, 0, none⟩) 2 2) [bl p, bl q] := by
  refine Or.inr ⟨w.heap.size, 0, 2, rfl, by simp, Nat.le_refl _, fun j hj => ?_⟩
  match j, hj with
  | 0, _ => simp [mk_bl]
  | 1, _ => simp [mk_bl]
theorem below_d {w w2 : World} {n : Nat} (h : Below (w.drewN n).heap.size (w.drewN n) w2) : Below w.heap.size w w2 := ⟨h.os, h.tape, h.output, h.size, h.block⟩
theorem mk_add (l m : List UInt8) : mk l ++ mk m = mk (l ++ m) := by
  apply Go.WideShapes.bytes_inj
  simp [mk, ByteArray.data_append]
theorem str_add (l m : List UInt8) (h : l.length + m.length ≤ 9223372036854775807) (W : World) : (Op.stringOp .add (mk l) (mk m)).run Tryd.prog W = .ok (.string (mk (l ++ m))) W := by
  have hs : ¬ ((((mk l).size + (mk m).size : Nat) : Int) > IntKind.i64.max) := by
    rw [mk_size, mk_size, show IntKind.i64.max = 9223372036854775807 from rfl]
    omega
  simp only [Op.stringOp]
  rw [if_neg hs, mk_add]
  rfl

end Go.Proofs.YtoehopigjmmagaaDoor
