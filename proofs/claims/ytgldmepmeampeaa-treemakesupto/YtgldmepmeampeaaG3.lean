/- Contracts and pure facts that the proof needs, joined. -/
import Derived.Test.YtgldmepmeampeaaG2

/- The document's Size and Same. -/
namespace Go.Proofs.Ytgldmepmeampeaa
open Go.RowKit Go.BigFrame

set_option maxRecDepth 100000 in
set_option maxHeartbeats 1000000 in
theorem rsize_any (v : Value) (t : List Ent) (w : World) (h : Ents w v t) (hn : t.length ≤ 4611686018427387904) (hz : szP t ≤ 4611686018427387904) :
    Calls Try.prog 19 #[v] w fun r w' => r = .returned (.int .i64 (szP t : Nat)) ∧ w' = w := by
  obtain ⟨ao, c, rfl⟩ := h.shape
  have H := hid h
  have HZ := hid hz
  clear h hz
  go_enter Try.func19, Try.ntmps19
  go_wp2
  go_loop [3, 4] (fun s i => ∃ k : Nat, i = .int .i64 k ∧ k ≤ t.length ∧ s = .int .i64 (szP (t.take k) : Nat)) (fun _ i => t.length - (intOf i).toNat)
  case atStart => exact ⟨0, rfl, Nat.zero_le _, rfl⟩
  case round =>
    obtain ⟨k, rfl, hk, rfl⟩ := hrel
    by_cases hlt : k < t.length
    · have q2 : (k : Int) < (t.length : Int) := by omega
      obtain ⟨g, o, rfl, hgl, hcell⟩ := H.out.at k hlt
      obtain ⟨e, HE⟩ : ∃ e, Hid (t.getD k zE = e) := ⟨_, rfl⟩
      rw [HE.out] at hcell
      obtain ⟨c0, c1, c2⟩ := hcell
      have HS := hid (show szP (t.take (k + 1)) = szP (t.take k) + e.2.2.length by rw [take_snoc t k hlt, szP_snoc, HE.out])
      have HT := hid (szP_take t (k + 1))
      obtain ⟨S, HSS⟩ : ∃ S : Nat, Hid (szP (t.take k) = S) := ⟨_, rfl⟩
      obtain ⟨M, HMM⟩ : ∃ M : Nat, Hid (szP (t.take (k + 1)) = M) := ⟨_, rfl⟩
      rw [HSS.out, HMM.out] at HS
      rw [HMM.out] at HT
      rw [HSS.out]
      have hdz : (mk e.2.2).size = e.2.2.length := mk_size _
      obtain ⟨D, HDD⟩ : ∃ D : Nat, Hid (e.2.2.length = D) := ⟨_, rfl⟩
      rw [HDD.out] at hdz HS
      have hw1 : IntKind.i64.wrap ((S : Int) + (D : Int)) = (M : Int) := by rw [IntKind.wrap_i64]; have := HS.out; have := HT.out; have := HZ.out; omega
      have hDl : D ≤ 4611686018427387904 := by have := HS.out; have := HT.out; have := HZ.out; omega
      generalize mk e.2.2 = sd at *
      go_wp2
      exact ⟨⟨k + 1, by simp, by omega, by rw [HMM.out]⟩, by simp [intOf]; omega⟩
    · have q2 : ¬ (k : Int) < (t.length : Int) := by omega
      obtain rfl : k = t.length := by omega
      rw [List.take_length]
      go_wp2
      go_ret
      exact ⟨rfl, rfl⟩

theorem ext_getD {a b : List Ent} (h : a.length = b.length) (hs : ∀ j, j < a.length → a.getD j zE = b.getD j zE) : a = b := by
  apply List.ext_getElem h
  intro i h1 h2
  have := hs i h1
  simpa [List.getD_eq_getElem?_getD, h1, h2] using this

set_option maxRecDepth 100000 in
set_option maxHeartbeats 1000000 in
theorem rsame_any (va vb : Value) (a b : List Ent) (w : World) (ha : Ents w va a) (hb : Ents w vb b) (hn : a.length ≤ 4611686018427387904) :
    Calls Try.prog 13 #[va, vb] w fun r w' => r = .returned (.bool (decide (a = b))) ∧ ∃ q, w' = w.drewN q := by
  obtain ⟨ao, ca, rfl⟩ := ha.shape
  obtain ⟨bo, cb, rfl⟩ := hb.shape
  have HA := hid ha
  have HB := hid hb
  by_cases hlen : a.length = b.length
  · have q1 : (a.length : Int) = (b.length : Int) := by omega
    have HL := hid hlen
    clear hlen ha hb
    go_enter Try.func13, Try.ntmps13
    go_wp2
    go_loopw [5] (fun i wr => ∃ k : Nat, i = .int .i64 k ∧ k ≤ a.length ∧ (∀ j, j < k → a.getD j zE = b.getD j zE) ∧ ∃ q, wr = w.drewN q) (fun i _ => a.length - (intOf i).toNat)
    case atStart => exact ⟨0, rfl, Nat.zero_le _, fun j hj => by omega, 0, rfl⟩
    case round =>
      obtain ⟨k, rfl, hk, hs, q, rfl⟩ := hrel
      have HS := hid hs
      clear hs
      by_cases hlt : k < a.length
      · have q2 : (k : Int) < (a.length : Int) := by omega
        have q2b : (k : Int) < (b.length : Int) := by omega
        obtain ⟨g, o, rfl, hgl, hcell⟩ := HA.out.at k hlt
        obtain ⟨g', o', rfl, hgl', hcell'⟩ := HB.out.at k (by have := HL.out; omega)
        obtain ⟨e, HE⟩ : ∃ e, Hid (a.getD k zE = e) := ⟨_, rfl⟩
        obtain ⟨f, HF⟩ : ∃ f, Hid (b.getD k zE = f) := ⟨_, rfl⟩
        rw [HE.out] at hcell
        rw [HF.out] at hcell'
        obtain ⟨c0, c1, c2⟩ := hcell
        obtain ⟨d0, d1, d2⟩ := hcell'
        have hg := entG
        have hne := fun W => neq_ent e f W
        obtain ⟨X, HX⟩ : ∃ X, Hid (decide (e = f) = X) := ⟨_, rfl⟩
        rw [HX.out] at hne
        have HNE := hid (fun (h : X = false) => show decide (a = b) = false from by
          rw [decide_eq_false_iff_not]
          rintro rfl
          rw [← HE.out, ← HF.out, h] at HX
          simpa using HX.out)
        have HEQ := hid (fun (h : X = true) => show ∀ j, j < k + 1 → a.getD j zE = b.getD j zE from by
          intro j hj
          by_cases hjk : j = k
          · subst hjk
            rw [HE.out, HF.out]
            have := HX.out
            rw [h, decide_eq_true_iff] at this
            exact this
          · exact HS.out j (by omega))
        clear HX
        generalize mk e.1 = s1 at *
        generalize mk e.2.2 = s2 at *
        generalize mk f.1 = s3 at *
        generalize mk f.2.2 = s4 at *
        generalize e.2.1 = k1 at *
        generalize f.2.1 = k2 at *
        cases X with
        | true =>
          have HEQ2 := hid (HEQ.out rfl)
          clear HEQ HNE
          go_wp2_with fail
          go_quiet (fail)
          go_wp2
          exact ⟨⟨k + 1, by simp, by omega, HEQ2.out, q + nq, by simp⟩, by simp [intOf]; omega⟩
        | false =>
          have HNE2 := hid (HNE.out rfl)
          clear HEQ HNE
          go_wp2_with fail
          go_quiet (fail)
          go_wp2
          go_ret
          exact ⟨ret_bb HNE2.out.symm, q + nq, by simp⟩
      · have q2 : ¬ (k : Int) < (a.length : Int) := by omega
        obtain rfl : k = a.length := by omega
        have HD := hid (show decide (a = b) = true by rw [decide_eq_true_iff]; exact ext_getD HL.out HS.out)
        go_wp2
        go_ret
        exact ⟨ret_bb HD.out.symm, q, rfl⟩
  · have q1 : ¬ (a.length : Int) = (b.length : Int) := by omega
    have q2 : ((a.length : Int) == (b.length : Int)) = false := by simp; omega
    have HD := hid (show decide (a = b) = false by rw [decide_eq_false_iff_not]; intro h; exact hlen (by rw [h]))
    clear hlen ha hb
    go_enter Try.func13, Try.ntmps13
    go_wp2
    go_ret
    exact ⟨ret_bb HD.out.symm, 0, rfl⟩

end Go.Proofs.Ytgldmepmeampeaa

/- The document's Make, plainly: the way up, neighbours. -/
namespace Go.Proofs.Ytgldmepmeampeaa
open Go.RowKit Go.BigFrame

/-- which directories were asked for: of k entries, and of a path p those with more than j names -/
def DnIn (t : List Ent) (k : Nat) (p : List UInt8) (j : Nat) (dn : List (List UInt8)) : Prop :=
  ∀ x, x ∈ dn ↔ (∃ e ∈ t.take k, x ∈ ancs e.1) ∨ ∃ i, j < i ∧ i < (nms p).length ∧ x = txt ((nms p).take i)
theorem DnIn.start {t : List Ent} {k : Nat} {dn : List (List UInt8)} (h : dnAll t k dn) (p : List UInt8) : DnIn t k p ((nms p).length - 1) dn := by
  intro x
  rw [h x]
  constructor
  · exact Or.inl
  · rintro (h1 | ⟨i, h1, h2, _⟩)
    · exact h1
    · omega
theorem DnIn.step {t : List Ent} {k j : Nat} {p : List UInt8} {dn : List (List UInt8)} (h : DnIn t k p j dn) (h1 : 1 ≤ j) (h2 : j < (nms p).length) : DnIn t k p (j - 1) (dn ++ [txt ((nms p).take j)]) := by
  intro x
  rw [List.mem_append, List.mem_singleton, h x]
  constructor
  · rintro ((h3 | ⟨i, h3, h4, h5⟩) | rfl)
    · exact Or.inl h3
    · exact Or.inr ⟨i, by omega, h4, h5⟩
    · exact Or.inr ⟨j, by omega, h2, rfl⟩
  · rintro (h3 | ⟨i, h3, h4, rfl⟩)
    · exact Or.inl (Or.inl h3)
    · by_cases hij : i = j
      · subst hij; exact Or.inr rfl
      · exact Or.inl (Or.inr ⟨i, by omega, h4, rfl⟩)
theorem DnIn.done {t : List Ent} {k : Nat} {dn : List (List UInt8)} (hk : k < t.length) (h : DnIn t k (t.getD k zE).1 0 dn) : dnAll t (k + 1) dn := by
  intro x
  rw [h x, take_snoc t k hk]
  constructor
  · rintro (⟨e, h1, h2⟩ | ⟨i, h1, h2, rfl⟩)
    · exact ⟨e, by simp [h1], h2⟩
    · exact ⟨_, by rw [List.mem_append, List.mem_singleton]; exact Or.inr rfl, mem_ancs.2 ⟨i, by omega, h2, rfl⟩⟩
  · rintro ⟨e, h1, h2⟩
    rw [List.mem_append, List.mem_singleton] at h1
    rcases h1 with h1 | rfl
    · exact Or.inl ⟨e, h1, h2⟩
    · obtain ⟨j, h3, h4, rfl⟩ := mem_ancs.1 h2
      exact Or.inr ⟨j, by omega, h4, rfl⟩
/-- a directory on the way up -/
theorem up_first {p : List UInt8} (h : okP p = true) : spD p = txt ((nms p).take ((nms p).length - 1)) := by rw [spD_nms h, List.dropLast_eq_take]
theorem up_step {p : List UInt8} (h : okP p = true) {j : Nat} (h1 : 1 ≤ j) (h2 : j < (nms p).length) : spD (txt ((nms p).take j)) = txt ((nms p).take (j - 1)) := by
  have hd := ancs_ok h (mem_ancs.2 ⟨j, h1, h2, rfl⟩)
  rw [spD_nms hd.1, nms_take h, List.dropLast_eq_take, List.take_take, List.length_take]
  congr 2
  omega
theorem up_nil {p : List UInt8} (h : okP p = true) {j : Nat} (h2 : j < (nms p).length) : txt ((nms p).take j) = [] ↔ j = 0 := by
  constructor
  · intro e
    by_cases h1 : j = 0
    · exact h1
    · exact absurd e (ancs_ok h (mem_ancs.2 ⟨j, by omega, h2, rfl⟩)).2
  · rintro rfl; rfl
theorem Rmk.hit {t : List Ent} {dn ds : List (List UInt8)} {m w : Bool} (h : Rmk t dn ds m w) (hn : (t.map (·.1)).Nodup) (x : Ent) (hx : x ∈ t ++ ds.map dirE) : Rmk t (dn ++ [x.1]) ds m (w || decide (x.2.1 ≠ 2)) := by
  rw [List.mem_append] at hx
  rcases hx with hx | hx
  · exact h.there hn x hx
  · obtain ⟨d, hd, rfl⟩ := List.mem_map.1 hx
    have := h.put d hd
    unfold dirE
    simpa using this
theorem all_new {t : List Ent} {ds : List (List UInt8)} {d : List UInt8} (h : fiP (t ++ ds.map dirE) d = none) : (∀ y ∈ t, y.1 ≠ d) ∧ d ∉ ds := by
  have h := fiP_none.1 h
  refine ⟨fun y hy => h y (by simp [hy]), fun hd => ?_⟩
  exact h (dirE d) (by rw [List.mem_append]; exact Or.inr (List.mem_map.2 ⟨d, hd, rfl⟩)) rfl
/-- neighbours that rise and differ -/
theorem adj_lt {t : List Ent} (hu : UpE t) (ha : ∀ i, 1 ≤ i → i < t.length → (t.getD i zE).1 ≠ (t.getD (i - 1) zE).1) : t.Pairwise ltE := by
  have up : ∀ i j, i < j → j < t.length → cmpL (nms (t.getD i zE).1) (nms (t.getD j zE).1) ≤ 0 := by
    intro i j hij hj
    have := List.pairwise_iff_getElem.1 hu i j (by omega) hj hij
    rw [cmpL_nlt] at this
    simpa [List.getD_eq_getElem?_getD, show i < t.length by omega, hj] using this
  rw [List.pairwise_iff_getElem]
  intro i j hi hj hij
  have e1 : t[i] = t.getD i zE := by simp [List.getD_eq_getElem?_getD, hi]
  have e2 : t[j] = t.getD j zE := by simp [List.getD_eq_getElem?_getD, hj]
  rw [e1, e2]
  unfold ltE
  rcases cmpL_range (nms (t.getD i zE).1) (nms (t.getD j zE).1) with e | e | e
  · omega
  · exfalso
    have hp : (t.getD i zE).1 = (t.getD j zE).1 := nms_inj (cmpL_zero e)
    by_cases hij2 : i = j - 1
    · exact ha j (by omega) hj (by rw [← hij2, hp])
    · have a1 := up i (j - 1) (by omega) (by omega)
      have a2 := up (j - 1) j (by omega) hj
      rw [hp] at a1
      have a3 := cmpL_anti (nms (t.getD (j - 1) zE).1) (nms (t.getD j zE).1)
      have a4 : cmpL (nms (t.getD (j - 1) zE).1) (nms (t.getD j zE).1) = 0 := by omega
      exact ha j (by omega) hj (nms_inj (cmpL_zero a4)).symm
  · have := up i j hij hj
    omega
theorem adj_dup {t : List Ent} {i : Nat} (h1 : 1 ≤ i) (h2 : i < t.length) (h : (t.getD i zE).1 = (t.getD (i - 1) zE).1) : ¬ (t.map (·.1)).Nodup := by
  intro hn
  rw [List.Nodup, List.pairwise_map] at hn
  have := List.pairwise_iff_getElem.1 hn (i - 1) i (by omega) h2 (by omega)
  apply this
  have e1 : t[i - 1] = t.getD (i - 1) zE := by simp [List.getD_eq_getElem?_getD, show i - 1 < t.length by omega]
  have e2 : t[i] = t.getD i zE := by simp [List.getD_eq_getElem?_getD, h2]
  rw [e1, e2, h]

/-- how far the document's Make has come -/
structure RmS (w0 : World) (t : List Ent) (dn ds : List (List UInt8)) (m wg : Bool) (x : Value) (wr : World) : Prop where
  rmk : Rmk t dn ds m wg
  own : OwnE wr w0.heap.size x (t ++ ds.map dirE)
  bel : Below w0.heap.size w0 wr
  len : ds.length ≤ 1025
theorem RmS.below {w0 wr wr' : World} {t : List Ent} {dn ds : List (List UInt8)} {m wg : Bool} {x : Value} (h : RmS w0 t dn ds m wg x wr) (hb : Below wr.heap.size wr wr') : RmS w0 t dn ds m wg x wr' :=
  ⟨h.rmk, h.own.below hb, h.bel.trans (hb.mono h.bel.size), h.len⟩

theorem mkP_dup {l : List Ent} (hm : ∀ e ∈ l, mayP e = true) (hn : ¬ (l.map (·.1)).Nodup) : mkP l = .error 9 := by
  unfold mkP
  rw [List.all_eq_true.2 hm, if_neg (show ¬ (true = false) by simp), if_pos hn]
theorem mkP_wrong {l : List Ent} (hm : ∀ e ∈ l, mayP e = true) (hn : (l.map (·.1)).Nodup) (hw : wrongP l = true) : mkP l = .error 52 := by
  unfold mkP
  rw [List.all_eq_true.2 hm, if_neg (show ¬ (true = false) by simp), if_neg (fun h => h hn), if_pos hw]
theorem mkP_many {l : List Ent} (hm : ∀ e ∈ l, mayP e = true) (hn : (l.map (·.1)).Nodup) (hw : wrongP l = false) (h : 1024 < l.length + (lackL l).length) : mkP l = .error 53 := by
  unfold mkP
  rw [List.all_eq_true.2 hm, if_neg (show ¬ (true = false) by simp), if_neg (fun h => h hn), hw, if_neg (show ¬ (false = true) by simp), if_pos h]
theorem mkP_may {l : List Ent} {e : Ent} (he : e ∈ l) (hm : mayP e = false) : mkP l = .error 50 := by
  unfold mkP
  rw [if_pos]
  rw [← Bool.not_eq_true, List.all_eq_true]
  intro h
  have := h e he
  rw [hm] at this
  cases this
theorem mkP_big {l : List Ent} (hm : ∀ e ∈ l, mayP e = true) (hn : (l.map (·.1)).Nodup) (hw : wrongP l = false) (h : ¬ 1024 < l.length + (lackL l).length) (hb : 1048576 < szP l) : mkP l = .error 54 := by
  unfold mkP
  rw [List.all_eq_true.2 hm, if_neg (show ¬ (true = false) by simp), if_neg (fun h => h hn), hw, if_neg (show ¬ (false = true) by simp), if_neg h, if_pos hb]
/-- how it ends -/
theorem RmS.end {l t : List Ent} {w0 wr : World} {dn ds : List (List UInt8)} {m wg : Bool} {x : Value} (h : RmS w0 t dn ds m wg x wr) (hdn : dnAll t t.length dn) (hp : t.Perm l) (hm : ∀ e ∈ l, mayP e = true) (hn : (l.map (·.1)).Nodup) :
    (wg = true → mkP l = .error 52) ∧ (wg = false → (m || decide (1024 < (t ++ ds.map dirE).length)) = true → mkP l = .error 53) ∧
    (wg = false → (m || decide (1024 < (t ++ ds.map dirE).length)) = false → szP (t ++ ds.map dirE) = szP l ∧ (1048576 < szP l → mkP l = .error 54) ∧ (¬ 1048576 < szP l → ∀ l', l'.Perm (t ++ ds.map dirE) → UpE l' → mkP l = .ok l') ∧ ∀ e ∈ t ++ ds.map dirE, okP e.1 = true) := by
  obtain ⟨h1, h2, h3⟩ := h.rmk.done hdn (fun e => hp.mem_iff)
  have hlen : (t ++ ds.map dirE).length = t.length + ds.length := by simp
  rw [hlen, h2, decide_eq_true_iff, decide_eq_false_iff_not, hp.length_eq]
  refine ⟨fun e => mkP_wrong hm hn (by rw [← h1]; exact e), fun e h4 => mkP_many hm hn (by rw [← h1]; exact e) h4, fun e h4 => ?_⟩
  have hm0 : m = false := by
    cases m with
    | false => rfl
    | true =>
      rw [Bool.true_or, eq_comm, decide_eq_true_iff, hp.length_eq] at h2
      exact absurd h2 h4
  obtain ⟨h5, h6⟩ := h3 hm0
  have hz : szP (t ++ ds.map dirE) = szP l := by rw [szP_app, szP_dirs, szP_perm hp]; omega
  refine ⟨hz, fun hb => mkP_big hm hn (by rw [← h1]; exact e) h4 hb, fun hb l' hp' hu => ?_, ?_⟩
  · have hp2 : l'.Perm (l ++ ds.map dirE) := hp'.trans (List.Perm.append_right _ hp)
    rw [← mk_fit hm hn (by rw [← h1]; exact e) h.rmk.nd h5 h6 hp2 hu]
    unfold fitP
    rw [hp'.length_eq, hlen, szP_perm hp', hz, if_neg (by rw [hp.length_eq, h5]; exact h4), if_neg hb]
  · intro x hx
    rw [List.mem_append] at hx
    rcases hx with hx | hx
    · exact mayP_ok (hm x (hp.mem_iff.1 hx))
    · obtain ⟨d, hd, rfl⟩ := List.mem_map.1 hx
      obtain ⟨⟨y, hy, hya⟩, _⟩ := mem_lackL.1 ((h6 d).1 hd)
      exact (ancs_ok (mayP_ok (hm y hy)) hya).1

end Go.Proofs.Ytgldmepmeampeaa

/- The document's Make. -/
namespace Go.Proofs.Ytgldmepmeampeaa
open Go.RowKit Go.BigFrame

set_option maxRecDepth 100000 in
set_option maxHeartbeats 40000000 in
theorem rmake_any (v : Value) (l : List Ent) (w : World) (h : Ents w v l) (hl : Bulk l) (hn : l.length ≤ 1099511627776) (hz : szP l ≤ 4611686018427387904) :
    Calls Try.prog 12 #[v] w fun r w' => AnsE w' w.heap.size r (mkP l) ∧ Below w.heap.size w w' := by
  obtain ⟨ao, c, rfl⟩ := h.shape
  have H := hid h
  have HL := hid hl
  have HZ := hid hz
  clear h hl hz
  go_enter Try.func12, Try.ntmps12
  go_wp2
  go_loopw [4] (fun i wr => ∃ k : Nat, i = .int .i64 k ∧ k ≤ l.length ∧ (∀ e ∈ l.take k, mayP e = true) ∧ Below w.heap.size w wr) (fun i _ => l.length - (intOf i).toNat)
  case atStart => exact ⟨0, rfl, Nat.zero_le _, fun e he => (by simp at he), Below.refl _ _⟩
  case round =>
    obtain ⟨k, rfl, hk, hmy, hb⟩ := hrel
    have HMY := hid hmy
    have HB := hid hb
    clear hmy hb
    by_cases hlt : k < l.length
    · have q2 : (k : Int) < (l.length : Int) := by omega
      obtain ⟨g, o, rfl, hgl, hcell⟩ := (H.out.below HB.out).at k hlt
      obtain ⟨e, HE⟩ : ∃ e, Hid (l.getD k zE = e) := ⟨_, rfl⟩
      have HEM := hid (getD_mem hlt)
      have HTK := hid (take_snoc l k hlt)
      rw [HE.out] at hcell HEM HTK
      obtain ⟨c0, c1, c2⟩ := hcell
      have HMB := hid (rmay_any e wr (HL.out e HEM.out).1)
      unfold entA at HMB
      go_wp2_with fail
      refine HMB.out.mono ?_
      rintro r w2 ⟨rfl, hb2⟩
      have HBW := hid (HB.out.trans (hb2.mono HB.out.size))
      clear hb2 HMB HB c0 c1 c2
      cases hm : mayP e with
      | false =>
        have HP := hid (mkP_may HEM.out hm)
        clear hm
        go_wp2
        go_ret2
        rw [HP.out]
        exact ⟨rfl, HBW.out⟩
      | true =>
        have HMA := hid (show ∀ x ∈ l.take (k + 1), mayP x = true by
          intro x hx
          rw [HTK.out, List.mem_append, List.mem_singleton] at hx
          rcases hx with hx | rfl
          · exact HMY.out x hx
          · exact hm)
        clear hm
        go_wp2
        exact ⟨⟨k + 1, by simp, by omega, HMA.out, HBW.out⟩, by simp [intOf]; omega⟩
    · have q2 : ¬ (k : Int) < (l.length : Int) := by omega
      obtain rfl : k = l.length := by omega
      rw [List.take_length] at HMY
      have HSO := hid (rsort_any l.length l (Nat.le_refl _) hn (fun e he => mayP_ok (HMY.out e he)) _ wr (H.out.below HB.out))
      go_wp2_with fail
      refine HSO.out.mono ?_
      rintro r w2 ⟨vt, t, rfl, ho2, hp2, hu2, hb2⟩
      have HO2 := hid (ho2.le HB.out.size)
      have HP2 := hid hp2
      have HU2 := hid hu2
      have HB2 := hid (HB.out.trans (hb2.mono HB.out.size))
      obtain ⟨at', ct, ht⟩ := ho2.ents.shape
      have HTL := hid (show t.length ≤ 1099511627776 by rw [hp2.length_eq]; exact hn)
      subst ht
      clear ho2 hp2 hu2 hb2 HSO HB H
      have HE2 := hid HO2.out.ents
      go_wp2_with fail
      go_loopw [6] (fun i wr => ∃ k : Nat, i = .int .i64 k ∧ 1 ≤ k ∧ k ≤ t.length + 1 ∧ (∀ i, 1 ≤ i → i < k → (t.getD i zE).1 ≠ (t.getD (i - 1) zE).1) ∧ ∃ q, wr = w2.drewN q) (fun i _ => t.length + 1 - (intOf i).toNat)
      case atStart => exact ⟨1, rfl, Nat.le_refl _, by omega, fun i h1 h2 => by omega, 0, rfl⟩
      case round =>
        obtain ⟨k, rfl, hk1, hk2, hne, q, rfl⟩ := hrel
        have HNE := hid hne
        have hk3 : k ≤ 1099511627777 := by have := HTL.out; omega
        clear hne
        by_cases hlt : k < t.length
        · have q3 : (k : Int) < (t.length : Int) := by omega
          obtain ⟨I, HI⟩ : ∃ I : Nat, Hid (I = k - 1) := ⟨_, rfl⟩
          have i1 : IntKind.i64.wrap ((k : Int) - 1) = (I : Int) := by rw [IntKind.wrap_i64, HI.out]; have := HTL.out; omega
          have q4 : (I : Int) < (t.length : Int) := by rw [HI.out]; omega
          obtain ⟨g, o, rfl, hgl, hcell⟩ := HE2.out.at k hlt
          obtain ⟨g', o', hgg, hgl', hcell'⟩ := HE2.out.at I (by rw [HI.out]; omega)
          have hgg' : g = g' ∧ o = o' := by injection hgg with h; injection h with h1 h2; exact ⟨h1, h2⟩
          obtain ⟨rfl, rfl⟩ := hgg'
          obtain ⟨e, HE⟩ : ∃ e, Hid (t.getD k zE = e) := ⟨_, rfl⟩
          obtain ⟨f, HF⟩ : ∃ f, Hid (t.getD I zE = f) := ⟨_, rfl⟩
          rw [HE.out] at hcell
          rw [HF.out] at hcell'
          obtain ⟨c0, _, _⟩ := hcell
          obtain ⟨d0, _, _⟩ := hcell'
          clear hgg hgl hgl'
          by_cases hx : e.1 = f.1
          · have HP := hid (mkP_dup HMY.out (fun hnd => adj_dup hk1 hlt (by rw [HE.out, ← HI.out, HF.out]; exact hx) ((HP2.out.map _).nodup_iff.2 hnd)))
            have e1 : (mk e.1).toList = (mk f.1).toList := by rw [hx]
            clear hx
            generalize mk e.1 = s1 at *
            generalize mk f.1 = s2 at *
            go_wp2_with fail
            go_quiet (fail)
            go_wp2
            go_ret2
            rw [HP.out]
            exact ⟨rfl, below_n (below_n HB2.out _) _⟩
          · have HN := hid (show ∀ i, 1 ≤ i → i < k + 1 → (t.getD i zE).1 ≠ (t.getD (i - 1) zE).1 by
              intro i h1 h2
              by_cases hik : i = k
              · subst hik; rw [HE.out, ← HI.out, HF.out]; exact hx
              · exact HNE.out i h1 (by omega))
            have e1 : ¬ (mk e.1).toList = (mk f.1).toList := fun h => hx ((bl_mk e.1).symm.trans (h.trans (bl_mk f.1)))
            have e2 : ((mk e.1).toList == (mk f.1).toList) = false := by simpa using e1
            clear hx
            generalize mk e.1 = s1 at *
            generalize mk f.1 = s2 at *
            go_wp2_with fail
            go_quiet (fail)
            go_wp2
            exact ⟨⟨k + 1, by simp, by omega, by omega, HN.out, q + nq, by simp⟩, by simp [intOf]; omega⟩
        · have q3 : ¬ (k : Int) < (t.length : Int) := by omega
          have HLT := hid (adj_lt HU2.out (fun i h1 h2 => HNE.out i h1 (by omega)))
          have HND := hid (show (l.map (·.1)).Nodup from (HP2.out.map _).nodup_iff.1 (pair_nodup HLT.out))
          have HET := hid (HE2.out.drew q)
          have HBW := hid (below_n HB2.out q)
          generalize w2.drewN q = W2 at *
          have HLN := hid (show ([] : List Ent).length + t.length ≤ 3298534883328 by have := HTL.out; simp; omega)
          clear HO2 HE2 HB2 HNE HU2
          go_wp2_with (at_builtin; refine app_ent rfl _ _ rfl W2.heap.size _ [] rfl (OwnE.nil _ _) t _ rfl HET.out HLN.out (Nat.le_refl _) ?_)
          intro v5 w5 ho5 hg5 _
          have HS0 : Hid (RmS W2 t [] [] false false v5 w5) := ⟨Rmk.start t, by rw [List.map_nil, List.append_nil]; exact ho5, gb_below hg5, by simp⟩
          obtain ⟨a5, c5, h5⟩ := ho5.ents.shape
          generalize ([] ++ t).length = n5 at h5
          subst h5
          clear ho5 hg5
          go_wp2
          go_loopw [7, 8, 9, 10] (fun x m wg i wr => ∃ k : Nat, i = .int .i64 k ∧ k ≤ t.length ∧ ∃ dn ds mb wb, m = .bool mb ∧ wg = .bool wb ∧ RmS W2 t dn ds mb wb x wr ∧ dnAll t k dn) (fun _ _ _ i _ => t.length - (intOf i).toNat)
          case atStart => exact ⟨0, rfl, Nat.zero_le _, [], [], false, false, rfl, rfl, HS0.out, fun d => by simp⟩
          case round =>
            obtain ⟨k, rfl, hk, dn, ds, mb, wb, rfl, rfl, hst, hdn⟩ := hrel
            have HST := hid hst
            have HDN := hid hdn
            obtain ⟨nx, HNX⟩ : ∃ n : Nat, Hid ((t ++ ds.map dirE).length = n) := ⟨_, rfl⟩
            obtain ⟨ax, cx, hx⟩ := hst.own.ents.shape
            rw [HNX.out] at hx
            subst hx
            clear hst hdn HS0
            by_cases hlt : k < t.length
            · have q4 : (k : Int) < (t.length : Int) := by omega
              obtain ⟨g, o, rfl, hgl, hcell⟩ := (HET.out.below HST.out.bel).at k hlt
              obtain ⟨e, HE⟩ : ∃ e, Hid (t.getD k zE = e) := ⟨_, rfl⟩
              have HEM := hid (HP2.out.mem_iff.1 (getD_mem hlt))
              rw [HE.out] at hcell HEM
              obtain ⟨c0, _, _⟩ := hcell
              have HME := hid (HMY.out e HEM.out)
              have HOK := hid (mayP_ok HME.out)
              have HNL := hid (List.length_pos_iff.2 (mayP_nms HME.out))
              obtain ⟨p, HPP⟩ : ∃ p, Hid (e.1 = p) := ⟨_, rfl⟩
              have HPL := hid (HL.out e HEM.out).1
              rw [HPP.out] at c0 HOK HNL HPL
              have HUP := hid (fun W => rup_any p W HPL.out)
              rw [up_first HOK.out] at HUP
              clear hgl
              go_wp2_with (go_at_call 31; refine (HUP.out _).mono ?_; rintro r w6 ⟨rfl, hb6⟩)
              have HS6 := hid (HST.out.below hb6)
              clear hb6 HUP HST c0
              go_loopw [7, 8, 9, 11] (fun x m wg s wr => ∃ j : Nat, j < (nms p).length ∧ s = .string (mk (txt ((nms p).take j))) ∧ ∃ dn ds mb wb, m = .bool mb ∧ wg = .bool wb ∧ RmS W2 t dn ds mb wb x wr ∧ DnIn t k p j dn) (fun _ _ _ s _ => szOf s)
              case atStart => exact ⟨_, by have := HNL.out; omega, rfl, dn, ds, mb, wb, rfl, rfl, HS6.out, DnIn.start HDN.out p⟩
              case round =>
                obtain ⟨j, hj, rfl, dn, ds, mb, wb, rfl, rfl, hst, hdn⟩ := hrel
                have HST := hid hst
                have HDI := hid hdn
                obtain ⟨nx, HNX⟩ : ∃ n : Nat, Hid ((t ++ ds.map dirE).length = n) := ⟨_, rfl⟩
                obtain ⟨ax, cx, hx⟩ := hst.own.ents.shape
                rw [HNX.out] at hx
                subst hx
                have HNN := hid (show nx = t.length + ds.length by rw [← HNX.out]; simp)
                clear hst hdn HS6 HDN
                by_cases hj0 : j = 0
                · have HN := hid (show dnAll t (k + 1) dn from DnIn.done hlt (by rw [HE.out, HPP.out, ← hj0]; exact HDI.out))
                  subst hj0
                  have e1 : (mk (txt ((nms p).take 0))).toList = [] := bl_mk []
                  generalize mk (txt ((nms p).take 0)) = sd at *
                  clear HDI
                  go_wp2
                  exact ⟨⟨k + 1, by simp, by omega, dn, ds, mb, wb, rfl, rfl, HST.out, HN.out⟩, by simp [intOf]; omega⟩
                · obtain ⟨d, HD⟩ : ∃ d, Hid (txt ((nms p).take j) = d) := ⟨_, rfl⟩
                  have HAN := hid (show d ∈ ancs p from mem_ancs.2 ⟨j, by omega, hj, HD.out.symm⟩)
                  have HOD := hid (ancs_ok HOK.out HAN.out)
                  have HUN := hid (up_step HOK.out (show 1 ≤ j by omega) hj)
                  have HDN2 := hid (HDI.out.step (by omega) hj)
                  have HDL := hid (okP_short HOD.out.1)
                  have HSH := hid (spD_short HOD.out.1 HOD.out.2)
                  rw [HD.out] at HUN HDN2 ⊢
                  have e1 : ¬ (mk d).toList = [] := fun h => HOD.out.2 ((bl_mk d).symm.trans h)
                  have e2 : ((mk d).toList == []) = false := by simpa using e1
                  have e3 : (mk d).toList.isEmpty = false := by simpa using e1
                  have HFA := hid (rfind_any _ _ d wr HST.out.own.ents (by rw [HNX.out]; have := HNN.out; have := HTL.out; have := HST.out.len; omega))
                  have HFT := hid (rfind_any _ _ d wr (HET.out.below HST.out.bel) (by have := HTL.out; omega))
                  have HUD := hid (fun W => rup_any d W (by have := HDL.out; omega))
                  have hsz : (mk (spD d)).size < (mk d).size := by rw [mk_size, mk_size]; exact HSH.out
                  rw [HUN.out] at HUD hsz HSH
                  cases hf : fiP (t ++ ds.map dirE) d with
                  | none =>
                    obtain ⟨hnw, hnd⟩ := all_new hf
                    have hf1 : fiN (t ++ ds.map dirE) d = -1 := by unfold fiN; rw [hf]
                    have hf2 : fiN t d = -1 := by unfold fiN; rw [fiP_none.2 hnw]
                    rw [hf1] at HFA
                    rw [hf2] at HFT
                    by_cases hmn : 1024 < nx
                    · have q5 : (1024 : Int) < (nx : Int) := by omega
                      have HR := hid (HST.out.rmk.many d (by rw [← HNN.out]; exact hmn) hnw)
                      have HB7 := hid HST.out.bel
                      have HO7 := hid HST.out.own
                      have HL7 := hid HST.out.len
                      clear hf hf1 hf2 hnw hnd hmn HST HDI
                      generalize mk d = sd at *
                      cases wb with
                      | true =>
                        go_wp2_with fail
                        refine HFA.out.mono ?_
                        rintro r w7 ⟨rfl, rfl⟩
                        clear HFA
                        go_wp2_with (first | (go_at_call 16; refine HFT.out.mono ?_; rintro r w7 ⟨rfl, rfl⟩) | (go_at_call 31; refine (HUD.out _).mono ?_; rintro r w8 ⟨rfl, hb8⟩))
                        exact ⟨⟨j - 1, by omega, rfl, _, ds, true, true, rfl, rfl, RmS.below ⟨HR.out, HO7.out, HB7.out, HL7.out⟩ hb8, HDN2.out⟩, by simpa [szOf] using hsz⟩
                      | false =>
                        go_wp2_with fail
                        refine HFA.out.mono ?_
                        rintro r w7 ⟨rfl, rfl⟩
                        clear HFA
                        go_wp2_with (first | (go_at_call 16; refine HFT.out.mono ?_; rintro r w7 ⟨rfl, rfl⟩) | (go_at_call 31; refine (HUD.out _).mono ?_; rintro r w8 ⟨rfl, hb8⟩))
                        exact ⟨⟨j - 1, by omega, rfl, _, ds, true, false, rfl, rfl, RmS.below ⟨HR.out, HO7.out, HB7.out, HL7.out⟩ hb8, HDN2.out⟩, by simpa [szOf] using hsz⟩
                    · have q5 : ¬ (1024 : Int) < (nx : Int) := by omega
                      have HR := hid (HST.out.rmk.add d hnd hnw)
                      have HLA := hid (show (t ++ ds.map dirE).length + [dirE d].length ≤ 3298534883328 by rw [HNX.out]; simp; omega)
                      have HLD := hid (show (ds ++ [d]).length ≤ 1025 by have := HNN.out; simp; omega)
                      have HOB := hid (below_walk wr (.cells #[.string (mk d), .int .i64 2, .string ⟨#[]⟩] 36))
                      have HO7 := hid (HST.out.own.below HOB.out)
                      have HE7 : Hid (Ents (wr.alloc (.cells #[.string (mk d), .int .i64 2, .string ⟨#[]⟩] 36)) (.slice (some ⟨wr.heap.size, 0, none⟩) 1 1) [dirE d]) := ents_one wr (dirE d)
                      have HB7 := hid (HST.out.bel.trans (HOB.out.mono HST.out.bel.size))
                      have HEL := hid (show t ++ (ds.map dirE ++ [dirE d]) = t ++ (ds ++ [d]).map dirE by simp)
                      clear hf hf1 hf2 hnw hnd hmn HST HDI HFT
                      generalize mk d = sd at *
                      go_wp2_with fail
                      refine HFA.out.mono ?_
                      rintro r w7 ⟨rfl, rfl⟩
                      clear HFA
                      go_wp2_with (first | (at_builtin; refine app_ent rfl _ _ rfl W2.heap.size _ (t ++ ds.map dirE) rfl HO7.out [dirE d] _ rfl HE7.out HLA.out HB7.out.size ?_))
                      intro v8 w8 ho8 hg8 _
                      rw [HEL.out] at ho8
                      have HS8 := hid (⟨HR.out, ho8, HB7.out.grown hg8 HB7.out.size (fun j hj => (HO7.out.lt j hj).1), HLD.out⟩ : RmS W2 t _ (ds ++ [d]) mb wb v8 w8)
                      obtain ⟨a8, c8, h8⟩ := ho8.ents.shape
                      generalize (t ++ (ds ++ [d]).map dirE).length = n8 at h8
                      subst h8
                      clear ho8 hg8 HR HO7 HE7 HB7 HOB
                      go_wp2_with (go_at_call 31; refine (HUD.out _).mono ?_; rintro r w9 ⟨rfl, hb9⟩)
                      exact ⟨⟨j - 1, by omega, rfl, _, _, mb, wb, rfl, rfl, HS8.out.below hb9, HDN2.out⟩, by simpa [szOf] using hsz⟩
                  | some i =>
                    obtain ⟨hi1, hi2, _⟩ := fiP_some.1 hf
                    have hf1 : fiN (t ++ ds.map dirE) d = (i : Int) := by unfold fiN; rw [hf]
                    rw [hf1] at HFA
                    obtain ⟨g7, o7, rfl, hg7, hcell7⟩ := HST.out.own.ents.at i hi1
                    obtain ⟨y, HY⟩ : ∃ y, Hid ((t ++ ds.map dirE).getD i zE = y) := ⟨_, rfl⟩
                    have HYM := hid (getD_mem hi1)
                    rw [HY.out] at hcell7 HYM hi2
                    obtain ⟨_, x1, _⟩ := hcell7
                    have q6 : (i : Int) < (nx : Int) := by rw [HNX.out] at hi1; omega
                    have HR := hid (HST.out.rmk.hit (pair_nodup HLT.out) y HYM.out)
                    rw [hi2] at HR
                    have HB7 := hid HST.out.bel
                    have HO7 := hid HST.out.own
                    have HL7 := hid HST.out.len
                    clear hf hf1 hi1 hi2 hg7 HST HDI HFT
                    generalize mk d = sd at *
                    cases wb with
                    | true =>
                      go_wp2_with fail
                      refine HFA.out.mono ?_
                      rintro r w7 ⟨rfl, rfl⟩
                      clear HFA
                      go_wp2_with (first | (go_at_call 31; refine (HUD.out _).mono ?_; rintro r w8 ⟨rfl, hb8⟩))
                      exact ⟨⟨j - 1, by omega, rfl, _, ds, mb, true, rfl, rfl, RmS.below ⟨HR.out, HO7.out, HB7.out, HL7.out⟩ hb8, HDN2.out⟩, by simpa [szOf] using hsz⟩
                    | false =>
                      obtain ⟨K, HK⟩ : ∃ K : Int, Hid (y.2.1 = K) := ⟨_, rfl⟩
                      rw [HK.out] at x1 HR
                      by_cases hK : K = 2
                      · subst hK
                        go_wp2_with fail
                        refine HFA.out.mono ?_
                        rintro r w7 ⟨rfl, rfl⟩
                        clear HFA
                        go_wp2_with (first | (go_at_call 31; refine (HUD.out _).mono ?_; rintro r w8 ⟨rfl, hb8⟩))
                        exact ⟨⟨j - 1, by omega, rfl, _, ds, mb, false, rfl, rfl, RmS.below ⟨by simpa using HR.out, HO7.out, HB7.out, HL7.out⟩ hb8, HDN2.out⟩, by simpa [szOf] using hsz⟩
                      · have hK2 : (K == 2) = false := by simpa using hK
                        have HR2 := hid HR.out
                        rw [show (false || decide (K ≠ 2)) = true by simpa using hK] at HR2
                        go_wp2_with fail
                        refine HFA.out.mono ?_
                        rintro r w7 ⟨rfl, rfl⟩
                        clear HFA
                        go_wp2_with (first | (go_at_call 31; refine (HUD.out _).mono ?_; rintro r w8 ⟨rfl, hb8⟩))
                        exact ⟨⟨j - 1, by omega, rfl, _, ds, mb, true, rfl, by simp [bne, hK2], RmS.below ⟨HR2.out, HO7.out, HB7.out, HL7.out⟩ hb8, HDN2.out⟩, by simpa [szOf] using hsz⟩
            · have q4 : ¬ (k : Int) < (t.length : Int) := by omega
              obtain rfl : k = t.length := by omega
              have HEND := hid (HST.out.end HDN.out HP2.out HMY.out HND.out)
              rw [HNX.out] at HEND
              have HBF := hid (show Below w.heap.size w wr from HBW.out.trans (HST.out.bel.mono HBW.out.size))
              have HNN := hid (show nx = t.length + ds.length by rw [← HNX.out]; simp)
              cases wb with
              | true =>
                have HP := hid (HEND.out.1 rfl)
                go_wp2
                go_ret2
                rw [HP.out]
                exact ⟨rfl, HBF.out⟩
              | false =>
                by_cases hmn : (mb || decide (1024 < nx)) = true
                · have HP := hid (HEND.out.2.1 rfl hmn)
                  cases mb with
                  | true =>
                    go_wp2
                    go_ret2
                    rw [HP.out]
                    exact ⟨rfl, HBF.out⟩
                  | false =>
                    have q5 : (1024 : Int) < (nx : Int) := by simp at hmn; omega
                    clear hmn
                    go_wp2
                    go_ret2
                    rw [HP.out]
                    exact ⟨rfl, HBF.out⟩
                · rw [Bool.not_eq_true] at hmn
                  obtain ⟨z1, z2, z3, z4⟩ := HEND.out.2.2 rfl hmn
                  obtain ⟨rfl, hm2⟩ : mb = false ∧ decide (1024 < nx) = false := by simpa using hmn
                  have q5 : ¬ (1024 : Int) < (nx : Int) := by simp at hm2; omega
                  have HSZ := hid (rsize_any _ _ wr HST.out.own.ents (by rw [HNX.out]; omega) (by rw [z1]; exact HZ.out))
                  rw [z1] at HSZ
                  obtain ⟨Z, HZZ⟩ : ∃ Z : Nat, Hid (szP l = Z) := ⟨_, rfl⟩
                  have HSO := hid (rsort_any _ _ (Nat.le_refl _) (by rw [HNX.out]; omega) z4 _ wr HST.out.own.ents)
                  rw [HZZ.out] at HSZ z2 z3
                  have Z2 := hid z2
                  have Z3 := hid z3
                  clear z1 z2 z3 z4 hmn hm2 HEND
                  by_cases hbig : 1048576 < Z
                  · have q6 : (1048576 : Int) < (Z : Int) := by omega
                    have HP := hid (Z2.out hbig)
                    clear hbig Z2 Z3
                    go_wp2_with (go_at_call 19; refine HSZ.out.mono ?_; rintro r w7 ⟨rfl, rfl⟩)
                    go_ret2
                    rw [HP.out]
                    exact ⟨rfl, HBF.out⟩
                  · have q6 : ¬ (1048576 : Int) < (Z : Int) := by omega
                    have HP := hid (Z3.out hbig)
                    clear hbig Z2 Z3
                    go_wp2_with (first | (go_at_call 19; refine HSZ.out.mono ?_; rintro r w7 ⟨rfl, rfl⟩) | (go_at_call 39; refine HSO.out.mono ?_; rintro r w8 ⟨v8, l8, rfl, ho8, hp8, hu8, hb8⟩))
                    go_ret2
                    rw [HP.out l8 hp8 hu8]
                    exact ⟨⟨v8, rfl, ho8.le HBF.out.size⟩, HBF.out.trans (hb8.mono HBF.out.size)⟩

end Go.Proofs.Ytgldmepmeampeaa

/- TreeMakes answers true. -/
namespace Go.Proofs.Ytgldmepmeampeaa
open Go.RowKit

/-- what two answers that are one give -/
theorem ans_two {w1 w2 : World} {b1 b2 : Nat} {r1 r2 : Ending} {x : Except Int (List Ent)} (h1 : AnsE w1 b1 r1 x) (h2 : AnsE w2 b2 r2 x) (hb : Below w1.heap.size w1 w2) :
    ∃ (v1 v2 : Value) (l : List Ent) (n : Int), r1 = .returned (.tuple #[v1, .int .i64 n]) ∧ r2 = .returned (.tuple #[v2, .int .i64 n]) ∧ Ents w2 v1 l ∧ Ents w2 v2 l ∧ (x = .ok l ∨ l = []) := by
  cases x with
  | ok l =>
    obtain ⟨v1, e1, o1⟩ := h1
    obtain ⟨v2, e2, o2⟩ := h2
    exact ⟨v1, v2, l, 0, e1, e2, o1.ents.below hb, o2.ents, Or.inl rfl⟩
  | error e => exact ⟨_, _, [], e, h1, h2, Ents.nil _, Ents.nil _, Or.inr rfl⟩
theorem mkP_len {l t : List Ent} (h : mkP l = .ok t) : t.length ≤ 1024 := by
  unfold mkP at h
  split at h
  · cases h
  · split at h
    · cases h
    · split at h
      · cases h
      · split at h
        · cases h
        · split at h
          · cases h
          · cases h
            rw [(sortE_perm _).length_eq, List.length_append, List.length_map]
            omega

set_option maxRecDepth 100000 in
set_option maxHeartbeats 1000000 in
theorem lawMakes_any (v : Value) (l : List Ent) (w : World) (h : Ents w v l) (hb : EBk l) :
    Calls Try.prog 4 #[v] w fun e w' => e = .returned (.bool true) ∧ Below w.heap.size w w' := by
  have H1 := hid (make_any v l w h hb.tre)
  have H2 := hid (fun w2 (hw : Below w.heap.size w w2) => rmake_any v l w2 (h.below hw) hb.bulk (by have := hb.len; omega) (by have := hb.sz; omega))
  have HAW := hid alive_any
  obtain ⟨ao, c, rfl⟩ := h.shape
  clear h hb
  go_enter Try.func4, Try.ntmps4
  go_wp2_with fail
  refine H1.out.mono ?_
  rintro e1 w1 ⟨ha1, hb1⟩
  have HA1 := hid ha1
  have HB1 := hid hb1
  have HAS := hid (fun (e2 : Ending) w2 (h2 : AnsE w2 w1.heap.size e2 (mkP l)) (hb2 : Below w1.heap.size w1 w2) => ans_two ha1 h2 hb2)
  have H3 := hid (H2.out w1 hb1)
  have hsh : ∃ (v1 : Value) (n : Int), e1 = .returned (.tuple #[v1, .int .i64 n]) := by
    cases hx : mkP l with
    | ok t => rw [hx] at ha1; obtain ⟨v1, e, _⟩ := ha1; exact ⟨v1, 0, e⟩
    | error e => rw [hx] at ha1; exact ⟨_, e, ha1⟩
  obtain ⟨v1, n1, rfl⟩ := hsh
  have hv1 : ∃ a1 m1 c1, v1 = .slice a1 m1 c1 := by
    obtain ⟨v1', v2', l', n', e1, _, h1', _, _⟩ := ans_two ha1 ha1 (Below.refl _ _)
    obtain ⟨a, c, e⟩ := h1'.shape
    injection e1 with e1
    injection e1 with e1
    injection e1 with e1
    injection e1 with e1 _
    exact ⟨a, _, c, e1.trans e⟩
  obtain ⟨a1, m1, c1, rfl⟩ := hv1
  clear ha1 hb1 H1 H2 HA1
  go_wp2_with fail
  refine H3.out.mono ?_
  rintro e2 w2 ⟨ha2, hb2⟩
  obtain ⟨v1', v2, t, n, he1, he2, hv1, hv2, htl⟩ := HAS.out e2 w2 ha2 hb2
  have hl : t.length ≤ 1024 := by
    rcases htl with h | h
    · exact mkP_len h
    · rw [h]; simp
  obtain ⟨rfl, rfl⟩ : v1' = .slice a1 m1 c1 ∧ n = n1 := by
    injection he1 with h
    injection h with h
    injection h with h
    injection h with h1 h2
    injection h2 with h2
    injection h2 with _ h2
    exact ⟨h1.symm, h2.symm⟩
  subst he2
  have HB2 := hid (HB1.out.trans (hb2.mono HB1.out.size))
  have HSM := hid (rsame_any _ _ t t w2 hv1 hv2 (by omega))
  rw [decide_eq_true rfl] at HSM
  obtain ⟨a2, c2, rfl⟩ := hv2.shape
  generalize t.length = m2 at *
  clear ha2 hb2 hv1 hv2 htl hl he1 HAS H3 HB1
  go_wp2_with (first | (go_at_call 13; refine HSM.out.mono ?_; rintro r w3 ⟨rfl, q3, rfl⟩) | (go_at_call 10; refine (HAW.out _).mono ?_; rintro r w4 ⟨rfl, hb4⟩))
  go_ret
  exact ⟨rfl, below_then (below_n HB2.out _) hb4⟩

end Go.Proofs.Ytgldmepmeampeaa
