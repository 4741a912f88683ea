/- Contracts and pure facts that the proof needs, joined. -/
import Derived.Test.YtiibhccbbpgehaaGreatG8
import Derived.Deep.CutRange
import Derived.Test.YtiibhccbbpgehaaGreatG6
import Derived.Test.YtiibhccbbpgehaaGreatG4
import Derived.Test.YtiibhccbbpgehaaGreatG7
import Derived.Test.YtiibhccbbpgehaaGreatG3
import Derived.Test.YtiibhccbbpgehaaGreatG2

/- The document's Copy, End and Want. -/
namespace Go.Proofs.YtiibhccbbpgehaaGreat
open Go.RowKit Go.BigFrame

theorem own_grow {w w' : World} {base base2 n2 : Nat} {e e2 : TypeId} {size size2 : Nat} {v v2 : Value} {n : Nat} {xs xs2 : List Value} (h : w.ownsRow base e size v n xs) (g : w.grownBy w' v2.ownBlock) (h2 : w.ownsRow base2 e2 size2 v2 n2 xs2) (he : e ≠ e2) : w'.ownsRow base e size v n xs :=
  own_far2 h g (fun _ e1 e3 => own_apart h h2 he e1 e3)
end Go.Proofs.YtiibhccbbpgehaaGreat

/- The document's Some. -/
namespace Go.Proofs.YtiibhccbbpgehaaGreat
open Go.RowKit Go.BigFrame

/-- what Some answers -/
def RSmP (w : World) (lo M : Nat) (a : Ra) (y t : Int) (e : Ending) (w' : World) : Prop :=
  ∃ vr vs vl fs, e = .returned (.tuple #[.agg (sxC M vr vs a.1).toArray, vl, .int .i64 (a.2.2 : Nat), .agg #[.int .i64 y, .int .i64 t]]) ∧ OwnB w' lo vr a.1.r ∧ OwnI w' lo vs a.1.szs ∧ OFs w' w.heap.size vl fs ∧ fs.map (·.1) = a.2.1 ∧ Below w.heap.size w w'
end Go.Proofs.YtiibhccbbpgehaaGreat

/- The document's Some of a poisoned decoder; its Feed. -/
namespace Go.Proofs.YtiibhccbbpgehaaGreat
open Go.RowKit Go.BigFrame

end Go.Proofs.YtiibhccbbpgehaaGreat

/- What was written is read back, plainly. -/
namespace Go.Proofs.YtiibhccbbpgehaaGreat
open Go.RowKit

theorem drop_on {bs x r : List UInt8} {a : Nat} (h : bs.drop a = x ++ r) : bs.drop (a + x.length) = r := by
  rw [← List.drop_drop, h]
  exact List.drop_left' rfl
theorem u_back (bs r : List UInt8) (a n : Nat) (T : Int) (h : bs.drop a = sn n ++ r) (hn : n < 18446744073709551616) : uS bs (a, 0, T) = (n, a + (sn n).length, 0, T) := by
  unfold uS uintF
  rw [if_neg (by simp), h, dec_sn n r hn]
  simp [watOf]
theorem c_back (bs r : List UInt8) (a n : Nat) (m T : Int) (h : bs.drop a = sn n ++ r) (hm : (n : Int) ≤ m) (hn : n < 18446744073709551616) : cS bs m (a, 0, T) = (n, a + (sn n).length, 0, T) := by
  unfold cS countF
  have hu := upTo_of (most := m.toNat) (t := 11) (dec_sn n r hn) (by omega)
  rw [if_neg (by simp), if_neg (by omega), h, hu]
  simp [watOf]
theorem c_over (bs r : List UInt8) (a n : Nat) (m T : Int) (h : bs.drop a = sn n ++ r) (h0 : 0 ≤ m) (hm : m < (n : Int)) (hn : n < 18446744073709551616) : cS bs m (a, 0, T) = (0, a, 11, (a : Int)) := by
  have hu : upTo (sn n ++ r) m.toNat 11 = (11, 0, 0) := by
    unfold upTo
    rw [dec_sn n r hn]
    simp only
    rw [if_neg (by simp), if_pos (by omega)]
  unfold cS countF
  rw [if_neg (by simp), if_neg (by omega), h, hu]
  simp [watOf]
theorem o_back (bs r : List UInt8) (a n : Nat) (m T : Int) (h : bs.drop a = sn n ++ r) (h1 : 1 ≤ n) (hm : (n : Int) ≤ m) (hn : n < 18446744073709551616) : oS bs m (a, 0, T) = (n, a + (sn n).length, 0, T) := by
  unfold oS
  rw [c_back bs r a n m T h hm hn, if_neg (by simp; omega)]
theorem t_back (bs r : List UInt8) (a : Nat) (t : List UInt8) (m T : Int) (h : bs.drop a = tx (mk t) ++ r) (hm : (t.length : Int) ≤ m) (hn : t.length < 18446744073709551616) : tS bs m (a, 0, T) = (t, a + (tx (mk t)).length, 0, T) := by
  have hb := txt_back t r m.toNat hn (by omega)
  have e : tx (mk t) ++ r = sn t.length ++ (t ++ r) := by rw [tx_mk, List.append_assoc]
  unfold tS textF
  rw [if_neg (by simp), if_neg (by omega), h, e, hb, tx_mk, List.length_append]
  simp [watOf]
theorem l_back (bs r : List UInt8) (a : Nat) (ts : List (List UInt8)) (T : Int) (h : bs.drop a = ls (ts.map mk) ++ r) (hn : ts.length ≤ 8) (he : ∀ t ∈ ts, t.length ≤ 4096) : lS bs 8 4096 (a, 0, T) = (ts, a + (ls (ts.map mk)).length, 0, T) := by
  have e1 : ls (ts.map mk) ++ r = sn ts.length ++ (txs (ts.map mk) ++ r) := by unfold ls; simp
  have hu := upTo_of (most := 8) (t := 11) (dec_sn ts.length (txs (ts.map mk) ++ r) (by omega)) hn
  have hdr : (sn ts.length ++ (txs (ts.map mk) ++ r)).drop (sn ts.length).length = txs (ts.map mk) ++ r := by simp
  have hl : lst (bs.drop a) 8 4096 = (0, ts, (ls (ts.map mk)).length) := by
    rw [h]
    unfold lst
    rw [e1, hu]
    simp only
    rw [if_neg (by simp), hdr, lstR_back ts r 4096 he (by omega)]
    unfold ls
    simp
  unfold lS listF
  rw [if_neg (by simp), if_neg (by omega), show (8 : Int).toNat = 8 from rfl, show (4096 : Int).toNat = 4096 from rfl, hl]
  simp
theorem r_back (bs r : List UInt8) (a : Nat) (t : List UInt8) (T : Int) (h : bs.drop a = t ++ r) (ht : t.length = 32) : rS bs 32 (a, 0, T) = (t, a + 32, 0, T) := by
  have hl : 32 ≤ bs.length - a := by
    have := congrArg List.length h
    rw [List.length_drop, List.length_append] at this
    omega
  unfold rS rawF
  rw [if_neg (by simp), if_neg (by omega), show (32 : Int).toNat = 32 from rfl, if_neg (by omega), h, List.take_left' ht]
theorem e_back (bs : List UInt8) (a : Nat) (T : Int) (h : bs.drop a = []) : eS bs (a, 0, T) = (0, T) := by
  unfold eS
  rw [if_neg (by simp), if_neg (by have := List.drop_eq_nil_iff.1 h; show ¬ a < bs.length; omega)]
theorem eS_over (bs : List UInt8) (s : St) (h : s.2.1 ≠ 0) : eS bs s = s.2 := by
  unfold eS
  rw [if_pos h]
/-- limits that are read -/
def limOk (f : Fr) : Bool := decide (f.lim.1 ≤ 2147483648 ∧ f.lim.2.1 ≤ 2147483648 ∧ f.lim.2.2 ≤ 2147483648)
/-- the fields of a frame that may be, read back -/
theorem fields_back (bs : List UInt8) (f : Fr) (a : Nat) (hr : Rng f) (ho : okFr f = true) (hB : f.body.length ≤ 2097152) (h : bs.drop a = layP f) (hlim : limOk f = true) :
    ∃ a', fieldsP bs f.kind (a, 0, 0) = (f, a', 0, 0) ∧ bs.drop a' = [] := by
  obtain ⟨hk, hsm, hm⟩ := okFr_of ho
  have e := same_eq hsm
  have hid : f.id.toNat < 18446744073709551616 := by have := hr.idh; omega
  have eid : ((f.id.toNat : Nat) : Int) = f.id := (toNat_eq hr.idl).symm
  have hL := of_decide_eq_true hlim
  have hc : f.kind = 1 ∨ f.kind = 2 ∨ f.kind = 3 ∨ f.kind = 4 ∨ f.kind = 5 ∨ f.kind = 6 := by omega
  rcases hc with k | k | k | k | k | k
  · rw [mayF_1 f k] at hm
    have m := mayHello_of hm
    rw [lay_1 f k, sns_two, List.append_assoc] at h
    rw [own_1 f k] at e
    have o1 := o_back bs _ a f.ver.toNat 1 0 h (by omega) (by omega) (by omega)
    have h2 := drop_on h
    have o2 := o_back bs _ _ f.slots.toNat 64 0 h2 (by omega) (by omega) (by omega)
    have h3 := drop_on h2
    have r3 := r_back bs [] _ f.tool 0 (by rw [List.append_nil]; exact h3) hr.tool
    have h4 : bs.drop (a + (sn f.ver.toNat).length + (sn f.slots.toNat).length + f.tool.length) = [] := drop_on (by rw [List.append_nil]; exact h3)
    rw [hr.tool] at h4
    refine ⟨_, ?_, h4⟩
    rw [k, fieldsP_1, o1]
    dsimp only
    rw [o2]
    dsimp only
    rw [r3]
    dsimp only
    have hp : pad32 f.tool = f.tool := by unfold pad32; rw [if_pos hr.tool]
    rw [hp, show ((f.ver.toNat : Nat) : Int) = f.ver from (toNat_eq (by omega)).symm, show ((f.slots.toNat : Nat) : Int) = f.slots from (toNat_eq (by omega)).symm, ← e]
  · rw [mayF_2 f k] at hm
    have m := mayReq_of hm
    rw [lay_2 f k] at h
    unfold layReqP at h
    rw [sns_thr] at h
    simp only [List.append_assoc] at h
    rw [own_2 f k] at e
    have l1 := hr.l1
    have l2 := hr.l2
    have l3 := hr.l3
    have o1 := u_back bs _ a f.id.toNat 0 h hid
    have h2 := drop_on h
    have o2 := c_back bs _ _ f.lim.1.toNat 2147483648 0 h2 (by omega) (by omega)
    have h3 := drop_on h2
    have o3 := c_back bs _ _ f.lim.2.1.toNat 2147483648 0 h3 (by omega) (by omega)
    have h4 := drop_on h3
    have o4 := c_back bs _ _ f.lim.2.2.toNat 2147483648 0 h4 (by omega) (by omega)
    have h5 := drop_on h4
    have o5 := l_back bs _ _ f.args 0 h5 m.2.2.2.1 (long_all m.2.2.2.2)
    have h6 := drop_on h5
    have o6 := t_back bs [] _ f.body 2097152 0 (by rw [List.append_nil]; exact h6) (by omega) (by omega)
    have h7 := drop_on (x := tx (mk f.body)) (r := []) (by rw [List.append_nil]; exact h6)
    refine ⟨_, ?_, h7⟩
    rw [k, fieldsP_2, o1]
    dsimp only
    rw [o2]
    dsimp only
    rw [o3]
    dsimp only
    rw [o4]
    dsimp only
    rw [o5]
    dsimp only
    rw [o6]
    dsimp only
    rw [eid, show ((f.lim.1.toNat : Nat) : Int) = f.lim.1 from (toNat_eq (by omega)).symm, show ((f.lim.2.1.toNat : Nat) : Int) = f.lim.2.1 from (toNat_eq (by omega)).symm, show ((f.lim.2.2.toNat : Nat) : Int) = f.lim.2.2 from (toNat_eq (by omega)).symm]
    exact congrArg (fun x => (x, _)) e.symm
  · rw [mayF_3 f k] at hm
    have m := mayRes_of hm
    rw [lay_3 f k, sns_one] at h
    rw [own_3 f k] at e
    have o1 := u_back bs _ a f.id.toNat 0 h hid
    have h2 := drop_on h
    have o2 := o_back bs _ _ f.status.toNat 3 0 h2 (by omega) (by omega) (by omega)
    have h3 := drop_on h2
    have o6 := t_back bs [] _ f.body 2097152 0 (by rw [List.append_nil]; exact h3) (by omega) (by omega)
    have h7 := drop_on (x := tx (mk f.body)) (r := []) (by rw [List.append_nil]; exact h3)
    refine ⟨_, ?_, h7⟩
    rw [k, fieldsP_3, o1]
    dsimp only
    rw [o2]
    dsimp only
    rw [o6]
    dsimp only
    rw [eid, show ((f.status.toNat : Nat) : Int) = f.status from (toNat_eq (by omega)).symm]
    exact congrArg (fun x => (x, _)) e.symm
  · rw [lay_4 f k] at h
    rw [own_4 f k] at e
    have o1 := u_back bs [] a f.id.toNat 0 (by rw [List.append_nil]; exact h) hid
    have h7 := drop_on (x := sn f.id.toNat) (r := []) (by rw [List.append_nil]; exact h)
    refine ⟨_, ?_, h7⟩
    rw [k, fieldsP_4, o1]
    dsimp only
    rw [eid]
    exact congrArg (fun x => (x, _)) e.symm
  · rw [lay_5 f k] at h
    rw [own_5 f k] at e
    refine ⟨a, ?_, h⟩
    rw [k, fieldsP_5]
    exact congrArg (fun x => (x, _)) e.symm
  · rw [lay_6 f k] at h
    rw [own_6 f k] at e
    have o6 := t_back bs [] _ f.body 2097152 0 (by rw [List.append_nil]; exact h) (by omega) (by omega)
    have h7 := drop_on (x := tx (mk f.body)) (r := []) (by rw [List.append_nil]; exact h)
    refine ⟨_, ?_, h7⟩
    rw [k, fieldsP_6, o6]
    dsimp only
    exact congrArg (fun x => (x, _)) e.symm
/-- limits that are too great are told -/
theorem fields_over (bs : List UInt8) (f : Fr) (a : Nat) (hr : Rng f) (ho : okFr f = true) (h : bs.drop a = layP f) (hlim : limOk f = false) :
    (eS bs (fieldsP bs f.kind (a, 0, 0)).2).1 = 11 := by
  obtain ⟨hk, hsm, hm⟩ := okFr_of ho
  have e := same_eq hsm
  have hid : f.id.toNat < 18446744073709551616 := by have := hr.idh; omega
  have hL : ¬ (f.lim.1 ≤ 2147483648 ∧ f.lim.2.1 ≤ 2147483648 ∧ f.lim.2.2 ≤ 2147483648) := of_decide_eq_false hlim
  have hc : f.kind = 1 ∨ f.kind = 2 ∨ f.kind = 3 ∨ f.kind = 4 ∨ f.kind = 5 ∨ f.kind = 6 := by omega
  have zero : f.lim = (0, 0, 0) → False := fun h9 => hL (by rw [h9]; simp)
  rcases hc with k | k | k | k | k | k
  · rw [own_1 f k] at e
    exact absurd (congrArg Fr.lim e) zero
  · rw [mayF_2 f k] at hm
    have m := mayReq_of hm
    rw [lay_2 f k] at h
    unfold layReqP at h
    rw [sns_thr] at h
    simp only [List.append_assoc] at h
    have l1 := hr.l1
    have l2 := hr.l2
    have l3 := hr.l3
    have o1 := u_back bs _ a f.id.toNat 0 h hid
    have h2 := drop_on h
    rw [k, fieldsP_2, o1]
    dsimp only
    by_cases g1 : f.lim.1 ≤ 2147483648
    · have o2 := c_back bs _ _ f.lim.1.toNat 2147483648 0 h2 (by omega) (by omega)
      have h3 := drop_on h2
      rw [o2]
      dsimp only
      by_cases g2 : f.lim.2.1 ≤ 2147483648
      · have o3 := c_back bs _ _ f.lim.2.1.toNat 2147483648 0 h3 (by omega) (by omega)
        have h4 := drop_on h3
        rw [o3]
        dsimp only
        have o4 := c_over bs _ _ f.lim.2.2.toNat 2147483648 0 h4 (by omega) (by omega) (by omega)
        rw [o4]
        dsimp only
        rw [over_l _ _ _ _ (by show (11 : Int) ≠ 0; decide)]
        dsimp only
        rw [over_t _ _ _ (by show (11 : Int) ≠ 0; decide), eS_over _ _ (by show (11 : Int) ≠ 0; decide)]
      · have o3 := c_over bs _ _ f.lim.2.1.toNat 2147483648 0 h3 (by omega) (by omega) (by omega)
        rw [o3]
        dsimp only
        rw [over_c _ _ _ (by show (11 : Int) ≠ 0; decide)]
        dsimp only
        rw [over_l _ _ _ _ (by show (11 : Int) ≠ 0; decide)]
        dsimp only
        rw [over_t _ _ _ (by show (11 : Int) ≠ 0; decide), eS_over _ _ (by show (11 : Int) ≠ 0; decide)]
    · have o2 := c_over bs _ _ f.lim.1.toNat 2147483648 0 h2 (by omega) (by omega) (by omega)
      rw [o2]
      dsimp only
      rw [over_c _ _ _ (by show (11 : Int) ≠ 0; decide)]
      dsimp only
      rw [over_c _ _ _ (by show (11 : Int) ≠ 0; decide)]
      dsimp only
      rw [over_l _ _ _ _ (by show (11 : Int) ≠ 0; decide)]
      dsimp only
      rw [over_t _ _ _ (by show (11 : Int) ≠ 0; decide), eS_over _ _ (by show (11 : Int) ≠ 0; decide)]
  · rw [own_3 f k] at e
    exact absurd (congrArg Fr.lim e) zero
  · rw [own_4 f k] at e
    exact absurd (congrArg Fr.lim e) zero
  · rw [own_5 f k] at e
    exact absurd (congrArg Fr.lim e) zero
  · rw [own_6 f k] at e
    exact absurd (congrArg Fr.lim e) zero

/-- how many bytes a frame's bytes say that they are, whatever comes behind -/
theorem need_enc (f : Fr) (h : chkE f = 0) (r : List UInt8) : needP (encP f ++ r) = ((encP f).length, (sn (bodyP f).length).length, 0) := by
  obtain ⟨ho, hl⟩ := chk_ok h
  have hk := (okFr_of ho).1
  have hb : 1 ≤ (bodyP f).length := by unfold bodyP; rw [List.length_append]; have := sn_length_pos f.kind.toNat; omega
  have e : encP f ++ r = sn (bodyP f).length ++ (bodyP f ++ (le4 (sumP (sn (bodyP f).length ++ bodyP f)) ++ r)) := by
    unfold encP sealP
    simp only [List.append_assoc]
  have hd : dec (encP f ++ r) 0 0 = (0, (bodyP f).length, (sn (bodyP f).length).length) := by rw [e]; exact dec_sn _ _ (by omega)
  have el : (encP f).length = (sn (bodyP f).length).length + (bodyP f).length + 4 := by
    unfold encP
    rw [sealP_length, List.length_append]
  unfold needP
  rw [hd]
  simp only
  rw [if_neg (by omega), if_neg (by omega), if_neg (by omega), if_neg (by omega), el]
theorem cok_enc (x : List UInt8) : cokP (sealP x) = true := by
  unfold cokP
  refine decide_eq_true ?_
  rw [sealP_length, show x.length + 4 - 4 = x.length by omega]
  unfold sealP
  rw [List.drop_left' rfl, List.take_left' rfl]
/-- what was written is read back -/
theorem dec_enc (f : Fr) (hr : Rng f) (h : chkE f = 0) : if limOk f = true then decP (encP f) = (f, 0, 0) else (decP (encP f)).1 = zF ∧ (decP (encP f)).2.1 = 11 := by
  obtain ⟨ho, hl⟩ := chk_ok h
  have hk := (okFr_of ho).1
  have hn := need_enc f h []
  rw [List.append_nil] at hn
  have hu : unsE (encP f) = (0, 0) := by
    unfold unsE
    rw [hn]
    simp only
    have hb := sn_length_pos (bodyP f).length
    have el : (encP f).length = (sn (bodyP f).length).length + (bodyP f).length + 4 := by
      unfold encP
      rw [sealP_length, List.length_append]
    rw [if_neg (by omega), if_neg (by omega), if_neg (by omega), if_pos (show cokP (encP f) = true from cok_enc _)]
  have ei : (encP f).take ((encP f).length - 4) = sn (bodyP f).length ++ bodyP f := by
    unfold encP
    rw [sealP_length, show (sn (bodyP f).length ++ bodyP f).length + 4 - 4 = (sn (bodyP f).length ++ bodyP f).length by omega]
    unfold sealP
    exact List.take_left' rfl
  have hd : decP (encP f) = frameP (sn (bodyP f).length ++ bodyP f) (sn (bodyP f).length).length := by
    rw [decP_uns, hu, if_neg (by simp), ei, hn]
  rw [hd]
  obtain ⟨bs, hbs⟩ : ∃ bs, sn (bodyP f).length ++ bodyP f = bs := ⟨_, rfl⟩
  obtain ⟨hd0, hhd⟩ : ∃ n, (sn (bodyP f).length).length = n := ⟨_, rfl⟩
  have hdr : bs.drop hd0 = sn f.kind.toNat ++ layP f := by
    rw [← hbs, ← hhd, List.drop_left' rfl]
    rfl
  rw [hbs, hhd]
  have hkn : f.kind = ((f.kind.toNat : Nat) : Int) := toNat_eq (by omega)
  have o1 := o_back bs _ hd0 f.kind.toNat 6 0 hdr (by omega) (by omega) (by omega)
  have h2 := drop_on hdr
  have hK : (oS bs 6 (hd0, 0, 0)).1 = f.kind.toNat := by rw [o1]
  have hBl : f.body.length ≤ 2097152 := by
    rcases Nat.lt_or_ge 2097152 f.body.length with h9 | h9
    · exfalso
      have hc : (f.kind = 1 ∨ f.kind = 4 ∨ f.kind = 5) ∨ (f.kind = 2 ∨ f.kind = 3 ∨ f.kind = 6) := by omega
      rcases hc with k | k
      · rw [same_own_body (okFr_of ho).2.1 k] at h9
        simp at h9
      · have := body_le f k hl
        omega
    · exact h9
  cases hlim : limOk f with
  | true =>
    rw [if_pos rfl]
    obtain ⟨a', hf, hz⟩ := fields_back bs f _ hr ho hBl h2 hlim
    have hf2 : fieldsP bs ((f.kind.toNat : Nat) : Int) (oS bs 6 (hd0, 0, 0)).2 = (f, a', 0, 0) := by rw [o1, ← hkn]; exact hf
    rw [frameP_ok bs hd0 f.kind.toNat hK (by omega) (by rw [hf2, e_back bs a' 0 hz]) (by rw [hf2]; exact (okFr_of ho).2.2), hf2]
  | false =>
    rw [if_neg (by decide)]
    have hf := fields_over bs f _ hr ho h2 hlim
    have hf2 : (eS bs (fieldsP bs ((f.kind.toNat : Nat) : Int) (oS bs 6 (hd0, 0, 0)).2).2).1 = 11 := by rw [o1, ← hkn]; exact hf
    rw [frameP_bad bs hd0 f.kind.toNat hK (by omega) (by rw [hf2]; decide)]
    exact ⟨rfl, hf2⟩
end Go.Proofs.YtiibhccbbpgehaaGreat

/- Frames that are laid one behind the other come out one by one; frames that came out are the bytes that came. -/
namespace Go.Proofs.YtiibhccbbpgehaaGreat
open Go.RowKit

/-- frames told, and the rest, are the bytes that came -/
theorem takeC_bytes (M : Nat) (s : Sx) (X : List UInt8) : fl ((takeC M s X).2.map encP) ++ (takeC M s X).1.r = s.r ++ X ∧ ∀ f ∈ (takeC M s X).2, chkE f = 0 := by
  unfold takeC
  by_cases h1 : (needM M (s.r ++ X)).2 ≠ 0
  · rw [if_pos h1]
    exact ⟨rfl, fun f hf => by cases hf⟩
  · rw [if_neg h1]
    by_cases h2 : (needM M (s.r ++ X)).1 = 0 ∨ (s.r ++ X).length < (needM M (s.r ++ X)).1
    · rw [if_pos h2]
      exact ⟨rfl, fun f hf => by cases hf⟩
    · rw [if_neg h2]
      by_cases h3 : (decP (s.r ++ X)).2.1 ≠ 0
      · rw [if_pos h3]
        exact ⟨rfl, fun f hf => by cases hf⟩
      · rw [if_neg h3]
        obtain ⟨e1, e2, _⟩ := dec_form (s.r ++ X) (by omega)
        refine ⟨?_, fun f hf => by simp at hf; rw [hf]; exact e1⟩
        show fl [encP (decP (s.r ++ X)).1] ++ [] = s.r ++ X
        rw [e2]
        simp [fl]
theorem enc_len (f : Fr) : (encP f).length = (sn (bodyP f).length).length + (bodyP f).length + 4 := by
  unfold encP
  rw [sealP_length, List.length_append]
theorem needM_cut (f : Fr) (h : chkE f = 0) (j : Nat) : needM 2097152 ((encP f).take j) = (0, 0) ∨ needM 2097152 ((encP f).take j) = ((encP f).length, 0) := by
  obtain ⟨ho, hl⟩ := chk_ok h
  have hn := need_enc f h []
  rw [List.append_nil] at hn
  have el := enc_len f
  rcases dec_begin (encP f) j 0 0 with hb | hb
  · right
    have hn2 : needP ((encP f).take j) = needP (encP f) := by unfold needP; rw [hb]
    unfold needM
    rw [hn2, hn]
    simp only
    rw [if_neg (by simp), if_neg (by omega)]
  · left
    have hn2 : needP ((encP f).take j) = (0, 0, 0) := by unfold needP; rw [hb]; rfl
    unfold needM
    rw [hn2]
    rfl
theorem run_enc_cut (f : Fr) (h : chkE f = 0) (ca wh : Nat) (sz : List Nat) (out : List Fr) (k : Nat) : ∀ j, j < (encP f).length →
    runP 2097152 (fun _ => false) (⟨[], ca, wh, 0, 0, sz⟩, out, k) ((encP f).take j) = (⟨(encP f).take j, ca + j, wh, 0, 0, sz⟩, out, k + j)
  | 0, _ => by simp [runP_nil]
  | j + 1, hj => by
    rw [runP_snoc _ _ _ _ j (by omega), run_enc_cut f h ca wh sz out k j (by omega)]
    have e1 : (encP f).take j ++ [(encP f).getD j 0] = (encP f).take (j + 1) := by
      rw [List.take_succ_eq_append_getElem (by omega), List.getD_eq_getElem?_getD, List.getElem?_eq_getElem (by omega)]
      rfl
    unfold stepQ
    rw [if_neg (by simp)]
    have e2 : takeC 2097152 ⟨(encP f).take j, ca + j, wh, 0, 0, sz⟩ [(encP f).getD j 0] = (⟨(encP f).take (j + 1), ca + (j + 1), wh, 0, 0, sz⟩, []) := by
      unfold takeC
      simp only [e1]
      rcases needM_cut f h (j + 1) with e | e
      · rw [e, if_neg (by simp), if_pos (Or.inl rfl)]
        simp [Nat.add_assoc]
      · rw [e, if_neg (by simp), if_pos (Or.inr (by rw [List.length_take]; simp only; omega))]
        simp [Nat.add_assoc]
    simp only [e2, List.append_nil]
    rfl
/-- a frame's bytes are taken: it comes out -/
theorem run_enc (f : Fr) (hr : Rng f) (h : chkE f = 0) (hlim : limOk f = true) (ca wh : Nat) (sz : List Nat) (out : List Fr) (k : Nat) :
    runP 2097152 (fun _ => false) (⟨[], ca, wh, 0, 0, sz⟩, out, k) (encP f) = (⟨[], ca + (encP f).length, wh + 1, 0, 0, sz ++ [(encP f).length]⟩, out ++ [f], k + (encP f).length) := by
  have el := enc_len f
  obtain ⟨j, hj⟩ : ∃ j, (encP f).length = j + 1 := ⟨(encP f).length - 1, by omega⟩
  have e0 : (encP f).take (j + 1) = encP f := List.take_of_length_le (by omega)
  have hs := runP_snoc 2097152 (fun _ => false) (⟨[], ca, wh, 0, 0, sz⟩, out, k) (encP f) j (by omega)
  rw [e0, run_enc_cut f h ca wh sz out k j (by omega)] at hs
  have e1 : (encP f).take j ++ [(encP f).getD j 0] = encP f := by
    conv => rhs; rw [← e0]
    rw [List.take_succ_eq_append_getElem (by omega), List.getD_eq_getElem?_getD, List.getElem?_eq_getElem (by omega)]
    rfl
  have hd := dec_enc f hr h
  rw [if_pos hlim] at hd
  have hn : needM 2097152 (encP f) = ((encP f).length, 0) := by
    have hn := need_enc f h []
    rw [List.append_nil] at hn
    obtain ⟨ho, hl⟩ := chk_ok h
    unfold needM
    rw [hn]
    simp only
    rw [if_neg (by simp), if_neg (by omega)]
  rw [hs]
  unfold stepQ
  rw [if_neg (by simp)]
  have e2 : takeC 2097152 ⟨(encP f).take j, ca + j, wh, 0, 0, sz⟩ [(encP f).getD j 0] = (⟨[], ca + (encP f).length, wh + 1, 0, 0, sz ++ [(encP f).length]⟩, [f]) := by
    unfold takeC
    simp only [e1]
    rw [hn, if_neg (by simp), if_neg (by simp only; omega), hd, if_neg (by simp)]
    simp only [List.length_cons, List.length_nil, hj]
    simp [Nat.add_assoc]
  simp only [e2, hj]
  simp [Nat.add_assoc]
/-- frames one behind the other -/
theorem run_encs : ∀ (fs : List Fr) (ca wh : Nat) (sz : List Nat) (out : List Fr) (k : Nat), (∀ f ∈ fs, Rng f ∧ chkE f = 0 ∧ limOk f = true) →
    runP 2097152 (fun _ => false) (⟨[], ca, wh, 0, 0, sz⟩, out, k) (fl (fs.map encP)) = (⟨[], ca + (fl (fs.map encP)).length, wh + fs.length, 0, 0, sz ++ fs.map fun f => (encP f).length⟩, out ++ fs, k + (fl (fs.map encP)).length)
  | [], ca, wh, sz, out, k, _ => by simp [fl, runP_nil]
  | f :: fs, ca, wh, sz, out, k, h => by
    obtain ⟨h1, h2, h3⟩ := h f (by simp)
    have e : fl ((f :: fs).map encP) = encP f ++ fl (fs.map encP) := by simp [fl]
    rw [e, runP_app, run_enc f h1 h2 h3, run_encs fs _ _ _ _ _ (fun g hg => h g (by simp [hg]))]
    simp [Nat.add_assoc, Nat.add_comm 1]
end Go.Proofs.YtiibhccbbpgehaaGreat

/- Bytes as frames at once: the program's Split and Sizes, the document's Split. -/
namespace Go.Proofs.YtiibhccbbpgehaaGreat
open Go.RowKit Go.BigFrame

theorem RSmP.le {w w' : World} {lo lo' M : Nat} {a : Ra} {y t : Int} {e : Ending} (h : RSmP w lo M a y t e w') (hl : lo' ≤ lo) : RSmP w lo' M a y t e w' := by
  obtain ⟨vr, vs, vl, fs, h1, h2, h3, h4, h5, h6⟩ := h
  exact ⟨vr, vs, vl, fs, h1, own_le h2 hl, own_le h3 hl, h4, h5, h6⟩
/-- the sizes are those of the frames -/
def lenE (f : Fr) : Nat := (encP f).length
theorem takeC_szs (M : Nat) (s : Sx) (X : List UInt8) : (takeC M s X).1.szs = s.szs ++ (takeC M s X).2.map lenE := by
  unfold takeC
  by_cases h1 : (needM M (s.r ++ X)).2 ≠ 0
  · rw [if_pos h1]; simp
  · rw [if_neg h1]
    by_cases h2 : (needM M (s.r ++ X)).1 = 0 ∨ (s.r ++ X).length < (needM M (s.r ++ X)).1
    · rw [if_pos h2]; simp
    · rw [if_neg h2]
      by_cases h3 : (decP (s.r ++ X)).2.1 ≠ 0
      · rw [if_pos h3]; simp
      · rw [if_neg h3]
        obtain ⟨_, e2, _⟩ := dec_form (s.r ++ X) (by omega)
        show s.szs ++ [(s.r ++ X).length] = s.szs ++ [lenE (decP (s.r ++ X)).1]
        unfold lenE
        rw [e2]
theorem run_szs {M : Nat} {q : Nat → Bool} : ∀ (X : List UInt8) (a : Ra), a.1.szs = a.2.1.map lenE → (∀ f ∈ a.2.1, chkE f = 0) → (runP M q a X).1.szs = (runP M q a X).2.1.map lenE ∧ ∀ f ∈ (runP M q a X).2.1, chkE f = 0
  | [], _, h, h2 => ⟨h, h2⟩
  | c :: X, a, h, h2 => by
    rw [runP_cons]
    refine run_szs X (stepQ M q a c) ?_ ?_
    · unfold stepQ
      split
      · exact h
      · show (takeC M a.1 [c]).1.szs = (a.2.1 ++ (takeC M a.1 [c]).2).map lenE
        rw [takeC_szs, List.map_append, h]
    · unfold stepQ
      split
      · exact h2
      · intro f hf
        rcases List.mem_append.1 (show f ∈ a.2.1 ++ (takeC M a.1 [c]).2 from hf) with h9 | h9
        · exact h2 f h9
        · exact (takeC_bytes M a.1 [c]).2 f h9
theorem size_enc (f : Fr) (h : chkE f = 0) : sizeN f = (lenE f : Int) := by
  unfold sizeN lenE
  rw [if_pos h]
theorem newMax8 (w : World) : Calls Tryz.prog 13 #[.int .i64 2097152] w fun e w' => ∃ b, e = .returned (.tuple #[.pointer (some ⟨b, 0, none⟩), .int .i64 0]) ∧ w.heap.size ≤ b ∧ Sd w' b b (.slice none 0 0) 2097152 zS ∧ Below w.heap.size w w' := new_ok8 w 2097152 (by omega) (by omega)
theorem fl_one8 (bs : List UInt8) : fl [bs] = bs := by simp [fl]

set_option maxRecDepth 100000 in
set_option maxHeartbeats 4000000 in
theorem psplit8_any (v : Value) (bs : List UInt8) (w : World) (hs : Src w v bs) (hbl : bs.length ≤ 300000000000) :
    Calls Tryz.prog 19 #[v] w fun e w' => ∃ vl fs, e = .returned (.tuple #[vl, .agg #[.int .i64 (stopP (runP 2097152 nev (zS, [], 0) bs).1).1, .int .i64 (stopP (runP 2097152 nev (zS, [], 0) bs).1).2]]) ∧ OFs w' w.heap.size vl fs ∧ fs.map (·.1) = (runP 2097152 nev (zS, [], 0) bs).2.1 ∧ Below w.heap.size w w' := by
  have HS := hid hs
  obtain ⟨av, cv, rfl⟩ := src_shape hs
  clear hs
  obtain ⟨a, HA⟩ : ∃ a, Hid (runP 2097152 nev (zS, [], 0) bs = a) := ⟨_, rfl⟩
  rw [HA.out]
  obtain ⟨Y, HYY⟩ : ∃ a9, Hid ((stopP a.1).1 = a9) := ⟨_, rfl⟩
  obtain ⟨TT, HTT⟩ : ∃ a9, Hid ((stopP a.1).2 = a9) := ⟨_, rfl⟩
  rw [HYY.out, HTT.out]
  have HW0 := hid (below_walk w (.cells #[.int .i64 0, .int .i64 0] 33))
  have HN0 := hid (hp_new w (.cells #[.int .i64 0, .int .i64 0] 33))
  go_enter Tryz.func19, Tryz.ntmps19
  go_upto_region 1 with (first | (refine al_row (by rfl) 33 (by rfl) _ zeroFault ?_))
  obtain ⟨R, HRe⟩ : ∃ n, Hid (w.heap.size = n) := ⟨_, rfl⟩
  rw [HRe.out] at HN0 ⊢
  generalize w.alloc (.cells #[.int .i64 0, .int .i64 0] 33) = w0 at HW0 HN0 ⊢
  go_wp2_with fail
  refine (newMax8 w0).mono ?_
  rintro e w1 ⟨b, rfl, hbw, hsd, hb1⟩
  have HBW := hid (show w.heap.size ≤ b by have := HW0.out.size; omega)
  have HBR := hid (show R < b by have := hp_lt HN0.out; omega)
  have HW1 := hid (below_walk w1 (.cells #[.slice av bs.length cv] 22))
  have HSD2 := hid (hsd.below HW1.out)
  have HQ2 := hid (below_then (below_then HW0.out hb1) HW1.out)
  have HR2 := hid (bel_keep HW1.out (bel_keep hb1 HN0.out))
  have HL2 := hid (lsts_one w1 _ bs (HS.out.below (below_then HW0.out hb1)))
  have HVn := hid (show bs ≠ [] → (Value.slice av bs.length cv).ownBlock ≠ some b from fun h e => by have := src_lt HS.out h e; have := HBW.out; omega)
  have HLb := hid hsd.kb.lt
  clear hbw hsd hb1
  go_wp2_with fail
  obtain ⟨Z, HZe⟩ : ∃ n, Hid (w1.heap.size = n) := ⟨_, rfl⟩
  rw [HZe.out] at HL2 HLb
  try rw [HZe.out]
  generalize w1.alloc (.cells #[.slice av bs.length cv] 22) = w2 at HW1 HSD2 HQ2 HR2 HL2 ⊢
  have HFE := hid (kfeed_any HSD2.out rfl _ _ _ (fun W vd hg => HL2.out.gd hg (by show some Z ≠ some b; have := HLb.out; simp; omega) (fun k e e2 => by cases e2) (fun j h => by match j, h with | 0, h => exact HVn.out h | j + 1, _ => exact (by show nS.ownBlock ≠ some b; intro e; cases e)) (fun j k _ e e2 => by cases e2)) (by simp) (by rw [fl_one8]; show 0 + bs.length ≤ _; omega) (by rw [fl_one8]; omega))
  rw [fl_one8, HA.out] at HFE
  refine HFE.out.mono ?_
  rintro e w3 ⟨vl, v4, fs, rfl, hof, hsd3, hg3, hm3⟩
  obtain ⟨y, HY⟩ : ∃ y, Hid (a.1.why = y) := ⟨_, rfl⟩
  obtain ⟨t, HTt⟩ : ∃ y, Hid (a.1.wat = y) := ⟨_, rfl⟩
  rw [HY.out, HTt.out]
  have HW4 := hid (below_walk w3 (.cells [Value.int .i64 y, .int .i64 t].toArray 33))
  have HSD := hid (hsd3.below HW4.out)
  have HQ4 := hid (below_then (Below.trans HQ2.out ((HSD2.out.low hg3).mono HBW.out)) HW4.out)
  have HR4 := hid (bel_keep HW4.out ((hg3.block R (hp_lt HR2.out) (by have := HBR.out; omega) (fun e => by cases e)).trans HR2.out))
  have HOF := hid ((hof.below HW4.out).le HQ2.out.size)
  have HM := hid hm3
  obtain ⟨al, nl, cl, el⟩ : ∃ a n c, vl = .slice a n c := by obtain ⟨a, c, e⟩ := hof.shape; exact ⟨_, _, _, e⟩
  subst el
  clear hof hsd3 hg3 hm3 HFE HSD2 HL2 HR2
  go_upto_region 3 with (refine st_new (by rfl) 33 _ _ (by rfl) [Value.int .i64 y, .int .i64 t] (by rfl) (by rfl) 33 _ faultSize rfl (fault_one _ _) ?_)
  generalize w3.alloc (.cells [Value.int .i64 y, .int .i64 t].toArray 33) = w4 at HW4 HSD HQ4 HR4 HOF ⊢
  have HEN := hid (kend_any HSD.out)
  rw [HYY.out, HTT.out] at HEN
  go_wp2_with fail
  refine HEN.out.mono ?_
  rintro e w5 ⟨rfl, hb5⟩
  have HR5 := hid (bel_keep hb5 HR4.out)
  have HQ5 := hid (below_then HQ4.out hb5)
  have HOF5 := hid (HOF.out.below hb5)
  clear hb5 HEN
  go_wp2_with (first | (refine st_row (by rfl) 33 _ _ (by rfl) R [Value.int .i64 Y, .int .i64 TT] (by rfl) (by rfl) 33 _ HR5.out faultSize rfl (fault_one _ _) ?_; intro w6 hw6))
  exact ret_tc 2 3 33 rfl _ rfl R rfl _ 33 hw6.blk _ Tryz.underlying33 rfl faultSize rfl ⟨_, fs, rfl, HOF5.out.gone hw6.grown HR5.out (by decide) (by decide), HM.out, Below.of_gb HQ5.out hw6.grown (by have := HRe.out; omega)⟩

set_option maxRecDepth 100000 in
set_option maxHeartbeats 4000000 in
theorem psizes8_any (v : Value) (bs : List UInt8) (w : World) (hs : Src w v bs) (hbl : bs.length ≤ 300000000000) :
    Calls Tryz.prog 20 #[v] w fun e w' => ∃ vl, e = .returned (.tuple #[vl, .agg #[.int .i64 (stopP (runP 2097152 nev (zS, [], 0) bs).1).1, .int .i64 (stopP (runP 2097152 nev (zS, [], 0) bs).1).2]]) ∧ OwnI w' w.heap.size vl (runP 2097152 nev (zS, [], 0) bs).1.szs ∧ Below w.heap.size w w' := by
  have HSP := hid (fun W (hb : Below w.heap.size w W) => psplit8_any v bs W (hs.below hb) hbl)
  have HZS := hid (run_szs (M := 2097152) (q := nev) bs (zS, [], 0) rfl (fun f hf => by cases hf))
  have HFW := hid (run_few (M := 2097152) (q := nev) bs (zS, [], 0))
  obtain ⟨a, HA⟩ : ∃ a, Hid (runP 2097152 nev (zS, [], 0) bs = a) := ⟨_, rfl⟩
  rw [HA.out] at HSP HZS HFW ⊢
  obtain ⟨Y, HYY⟩ : ∃ a9, Hid ((stopP a.1).1 = a9) := ⟨_, rfl⟩
  obtain ⟨TT, HTT⟩ : ∃ a9, Hid ((stopP a.1).2 = a9) := ⟨_, rfl⟩
  rw [HYY.out, HTT.out] at HSP ⊢
  obtain ⟨av, cv, rfl⟩ := src_shape hs
  clear hs
  have HW0 := hid (below_walk w (.cells #[.int .i64 0, .int .i64 0] 33))
  have HN0 := hid (hp_new w (.cells #[.int .i64 0, .int .i64 0] 33))
  go_enter Tryz.func20, Tryz.ntmps20
  go_upto_region 1 with (first | (refine al_row (by rfl) 33 (by rfl) _ zeroFault ?_))
  obtain ⟨R, HRe⟩ : ∃ n, Hid (w.heap.size = n) := ⟨_, rfl⟩
  rw [HRe.out] at HN0 ⊢
  generalize w.alloc (.cells #[.int .i64 0, .int .i64 0] 33) = w0 at HW0 HN0 ⊢
  have HS0 := hid (HSP.out w0 HW0.out)
  clear HSP
  go_wp2_with fail
  refine HS0.out.mono ?_
  rintro e w1 ⟨vl, fs, rfl, hof, hm, hb1⟩
  have HW2 := hid (below_walk w1 (.cells [Value.int .i64 Y, .int .i64 TT].toArray 33))
  have HE2 := hid (hp_new w1 (.cells [Value.int .i64 Y, .int .i64 TT].toArray 33))
  have HR2 := hid (bel_keep HW2.out (bel_keep hb1 HN0.out))
  have HQ2 := hid (below_then (below_then HW0.out hb1) HW2.out)
  have HOF2 := hid ((hof.below HW2.out).le HW0.out.size)
  have HM := hid hm
  have HER := hid (show R < w1.heap.size from hp_lt (bel_keep hb1 HN0.out))
  obtain ⟨al, cl, el⟩ := hof.shape
  subst el
  clear hof hm hb1 HS0 HN0
  go_upto_region 2 with (refine st_new (by rfl) 33 _ _ (by rfl) [Value.int .i64 Y, .int .i64 TT] (by rfl) (by rfl) 33 _ faultSize rfl (fault_one _ _) ?_)
  obtain ⟨E, HEe⟩ : ∃ n, Hid (w1.heap.size = n) := ⟨_, rfl⟩
  rw [HEe.out] at HE2 HER ⊢
  generalize w1.alloc (.cells [Value.int .i64 Y, .int .i64 TT].toArray 33) = w2 at HW2 HE2 HR2 HQ2 HOF2 ⊢
  have HFL := hid (show fs.length ≤ 300000000000 by have h1 := HFW.out; rw [← HM.out, List.length_map] at h1; simp at h1; omega)
  have HCK := hid (show ∀ k, k < fs.length → chkE (fs.getD k zFV).1 = 0 from fun k hk => HZS.out.2 _ (by rw [← HM.out, List.getD_eq_getElem?_getD, List.getElem?_eq_getElem hk]; exact List.mem_map_of_mem (List.getElem_mem hk)))
  have HLN := hid (show a.1.szs = fs.map (fun f => lenE f.1) by rw [HZS.out.1, ← HM.out, List.map_map]; rfl)
  go_wp2
  go_loopw [6, 18] (fun vz vi wr => ∃ (k : Nat), k ≤ fs.length ∧ vi = .int .i64 k ∧ Hid (OwnI wr w.heap.size vz ((fs.take k).map (fun f => lenE f.1))) ∧ Hid (OFs wr w.heap.size (.slice al fs.length cl) fs) ∧ Hid (wr.heap[R]? = some (.cells #[.int .i64 0, .int .i64 0] 33 (0, 0))) ∧ Hid (wr.heap[E]? = some (.cells [Value.int .i64 Y, .int .i64 TT].toArray 33 (0, 0))) ∧ Hid (Below w.heap.size w wr)) (fun _ vi _ => fs.length - (intOf vi).toNat)
  case atStart => exact ⟨0, by omega, rfl, OwnI.nil _ _, HOF2.out, HR2.out, HE2.out, HQ2.out⟩
  case round =>
    obtain ⟨k, hk, rfl, HOI, HOF, HRr, HEr, HQ⟩ := hrel
    obtain ⟨az, nz, cz, ez⟩ : ∃ a n c, _ = Value.slice a n c := by obtain ⟨a, c, e⟩ := HOI.out.shape; exact ⟨_, _, _, e⟩
    subst ez
    by_cases hlt : k < fs.length
    · as_aux_lemma =>
        have hki : (k : Int) < (fs.length : Int) := by omega
        obtain ⟨g, o, rfl, hgl, hra, hst, hrn⟩ := HOF.out.frs.at k hlt
        have HRA := hid hra
        have HST := hid hst
        have HSZ := hid (frame_size (fs.getD k zFV).1 (fs.getD k zFV).2 hrn.tool)
        obtain ⟨aS, cS, eS⟩ := hst.shape
        have HON := hid (fcells_one (fs.getD k zFV).1 (fs.getD k zFV).2 (by rw [eS]; rfl))
        have HLZ := hid (show (fcells zF nS).toArray.size = (fcells (fs.getD k zFV).1 (fs.getD k zFV).2).length by rw [fcells_length _ _ hrn.tool]; rfl)
        have HSI := hid (fun W (hW : Strs W (fs.getD k zFV).2 (fs.getD k zFV).1.args) => sizeF_any (fs.getD k zFV).1 (fs.getD k zFV).2 W hrn hW)
        have HC0 := hid (HCK.out k hlt)
        have HTS := hid (show (fs.take (k + 1)).map (fun f => lenE f.1) = (fs.take k).map (fun f => lenE f.1) ++ [lenE (fs.getD k zFV).1] by
          rw [List.take_succ_eq_append_getElem hlt, List.map_append, List.getD_eq_getElem?_getD, List.getElem?_eq_getElem hlt]
          rfl)
        rw [HC0.out, size_enc _ HC0.out] at HSI
        have HZL := hid (show ((fs.take k).map (fun f => lenE f.1)).length + 1 ≤ 1000000000000 by rw [List.length_map, List.length_take]; have := HFL.out; omega)
        obtain ⟨N, HN⟩ : ∃ n, Hid (lenE (fs.getD k zFV).1 = n) := ⟨_, rfl⟩
        rw [HN.out] at HSI HTS
        obtain ⟨FF, HFF⟩ : ∃ f9, Hid (fcells (fs.getD k zFV).1 (fs.getD k zFV).2 = f9) := ⟨_, rfl⟩
        rw [HFF.out] at HRA HSZ HON HLZ HSI
        obtain ⟨ZL, HZLe⟩ : ∃ l, Hid ((fs.take k).map (fun f => lenE f.1) = l) := ⟨_, rfl⟩
        rw [HZLe.out] at HOI HTS HZL
        have hkw : IntKind.i64.wrap ((k : Int) + 1) = (k : Int) + 1 := by rw [IntKind.wrap_i64]; have := HFL.out; omega
        have HWF := hid (below_walk wr (.cells FF.toArray 30))
        clear hra hst hrn eS
        go_wp2_with (first
          | (refine wpList_load_mid (by rfl) 30 (.tmp 20) (by rfl) g (o + k * 42) (by rfl) FF _ HRA.out Tryz.underlying30 rfl HSZ.out ?_)
          | (refine al_row (by rfl) 30 (by rfl) _ zeroFrame ?_)
          | (refine st_new (by rfl) 30 _ _ (by rfl) FF (by rfl) (by rfl) 30 _ HSZ.out HLZ.out HON.out ?_)
          | (refine ld_row (by rfl) 30 (.tmp 8) (by rfl) wr.heap.size (by rfl) FF 30 (hp_new wr _) _ Tryz.underlying30 rfl HSZ.out ?_))
        refine (HSI.out _ (HST.out.below HWF.out)).mono ?_
        rintro e w3 ⟨rfl, hb3⟩
        have HB3 := hid (below_then HWF.out hb3)
        have HW4 := hid (below_walk w3 (.cells #[.int .i64 (N : Int)] 3))
        have HB4 := hid (below_then HB3.out HW4.out)
        have HI4 := hid (show OwnI (w3.alloc (.cells #[.int .i64 (N : Int)] 3)) w.heap.size (.slice az nz cz) ZL from own_below HOI.out HB4.out)
        have HX4 := hid (show ∃ b2, OwnI (w3.alloc (.cells #[.int .i64 (N : Int)] 3)) b2 (.slice (some ⟨w3.heap.size, 0, none⟩) 1 1) [N] from ⟨w3.heap.size, World.ownsRow_lit w3 #[.int .i64 (N : Int)] 1 (Nat.le_refl _) (by decide) rfl⟩)
        have HZ4 := hid (Nat.le_trans HQ.out.size HB4.out.size)
        clear hb3 HSI
        go_wp2_with (first | (at_builtin; refine app_ints (by rfl) _ _ rfl w.heap.size _ ZL rfl HI4.out _ [N] rfl HX4.out HZL.out HZ4.out ?_))
        intro v5 w5 ho5 hg5 hp5
        rw [← HTS.out] at ho5
        have HO5 := hid ho5
        have HQ5 := hid (Below.of_gbo (below_then HQ.out HB4.out) hg5 (fun k e => (World.ownsRow.lt HI4.out k e).1))
        have HOF5 := hid ((HOF.out.below HB4.out).grown HI4.out hg5 (by decide) (by decide))
        have HR5 := hid (gb_blk (bel_keep HB4.out HRr.out) hg5 (own_block HI4.out (bel_keep HB4.out HRr.out) (by decide)))
        have HE5 := hid (gb_blk (bel_keep HB4.out HEr.out) hg5 (own_block HI4.out (bel_keep HB4.out HEr.out) (by decide)))
        obtain ⟨a5, n5, c5, e5⟩ : ∃ a n c, v5 = .slice a n c := by obtain ⟨a, c, e⟩ := ho5.shape; exact ⟨_, _, _, e⟩
        subst e5
        clear ho5 hg5 hp5
        go_wp2
        exact ⟨⟨k + 1, hlt, by simp, HO5.out, HOF5.out, HR5.out, HE5.out, HQ5.out⟩, by simp [intOf]; omega⟩
    · obtain rfl : k = fs.length := by omega
      as_aux_lemma =>
        have HOI2 := hid (show OwnI wr w.heap.size (.slice az nz cz) a.1.szs by have h := HOI.out; rw [List.take_length] at h; rw [HLN.out]; exact h)
        have HNE := hid (show R ≠ E by have := HER.out; omega)
        go_upto_region 9 with fail
        refine wp_noPanic (wp_region_held_drew (S := fun W => W.heap[E]? = some (.cells [Value.int .i64 Y, .int .i64 TT].toArray 33 (0, 0))) (by kernel_rfl) HEr.out ?_)
        intro hHeld
        refine wpAnyH_take (i := 0) (v := .slice az nz cz) rfl (by kernel_rfl) (by kernel_rfl) (by kernel_rfl) (fun _ _ _ h => h) (Or.inl ⟨by rfl, fun W _ => by go_simp⟩) hHeld ?_
        simp only [Act.put, List.getElem_toArray, List.getElem_cons_zero, List.setIfInBounds_toArray, List.set_cons_succ, List.set_cons_zero]
        refine wpAnyH_take (i := 1) (v := .agg [Value.int .i64 Y, .int .i64 TT].toArray) rfl (by kernel_rfl) (by kernel_rfl) (by kernel_rfl) (fun _ _ _ h => h) (yieldsIf_load_mid (by rfl) 33 (.tmp 5) rfl E 0 rfl [Value.int .i64 Y, .int .i64 TT] _ (fun W hW => range_row hW) Tryz.underlying33 rfl faultSize) hHeld ?_
        simp only [Act.put, List.getElem_toArray, List.getElem_cons_zero, List.getElem_cons_succ, List.setIfInBounds_toArray, List.set_cons_succ, List.set_cons_zero]
        have HD := hid (bel_drw wr 1)
        have HR7 := hid (bel_keep HD.out HRr.out)
        have HE7 := hid (bel_keep HD.out HEr.out)
        have HQ7 := hid (below_then HQ.out HD.out)
        have HI7 := hid (show OwnI (wr.drewN 1) w.heap.size (.slice az nz cz) a.1.szs from own_below HOI2.out HD.out)
        obtain ⟨wq, HWX⟩ : ∃ x, Hid (wr.drewN 1 = x) := ⟨_, rfl⟩
        have HWYq := hid (show wr.drew = wq from HWX.out)
        rw [HWX.out] at HR7 HE7 HQ7 HI7
        rw [HWYq.out] at hHeld ⊢
        clear HD
        refine wpAnyH_take (i := 2) (v := .slice az nz cz) rfl (by kernel_rfl) (by kernel_rfl) (by kernel_rfl) (fun _ _ _ h => h) (Or.inl ⟨by rfl, fun W _ => by go_simp⟩) hHeld ?_
        simp only [Act.put, List.getElem_toArray, List.getElem_cons_zero, List.getElem_cons_succ, List.setIfInBounds_toArray, List.set_cons_succ, List.set_cons_zero]
        refine wpAnyH_ready (rs := [3]) (by kernel_rfl) (by simp) ?_
        refine AllReadyH.cons rfl (fun K9 hK => ?_) AllReadyH.nil
        refine step_store_row (by rfl) 33 _ _ (by rfl) R [Value.int .i64 Y, .int .i64 TT] (by rfl) (by rfl) 33 _ HR7.out faultSize rfl (fault_one _ _) ?_
        intro w8 hw8
        have HE8 := hid (gb_blk HE7.out hw8.grown (by have := HNE.out; simpa using this))
        refine hK.out _ _ HE8.out (fun hHeld => ?_)
        clear hK K9
        try simp only [Act.put, List.getElem_toArray, List.getElem_cons_zero, List.getElem_cons_succ]
        refine wpAnyH_done (by kernel_rfl) ?_ _
        simp only [noPanic]
        clear hHeld
        go_wp2
        exact ret_tc 2 3 33 rfl _ rfl R rfl _ 33 hw8.blk _ Tryz.underlying33 rfl faultSize rfl ⟨_, rfl, own_far2 HI7.out hw8.grown (fun _ e h => own_block HI7.out HR7.out (by decide) (h ▸ e)), Below.of_gb HQ7.out hw8.grown (by have := HRe.out; omega)⟩
end Go.Proofs.YtiibhccbbpgehaaGreat

/- The document's Same of frames that are alike. -/
namespace Go.Proofs.YtiibhccbbpgehaaGreat
open Go.RowKit Go.BigFrame

theorem map_at {fs gs : List FV} (h : fs.map (·.1) = gs.map (·.1)) (k : Nat) : (fs.getD k zFV).1 = (gs.getD k zFV).1 := by
  have h1 : (fs.map (·.1))[k]? = (gs.map (·.1))[k]? := by rw [h]
  rw [List.getElem?_map, List.getElem?_map] at h1
  rw [List.getD_eq_getElem?_getD, List.getD_eq_getElem?_getD]
  cases h2 : fs[k]? with
  | none =>
    rw [h2] at h1
    cases h3 : gs[k]? with
    | none => rfl
    | some b => rw [h3] at h1; cases h1
  | some a =>
    rw [h2] at h1
    cases h3 : gs[k]? with
    | none => rw [h3] at h1; cases h1
    | some b => rw [h3] at h1; simpa using h1

set_option maxRecDepth 100000 in
set_option maxHeartbeats 4000000 in
theorem rsl_any (va vb : Value) (fs gs : List FV) (w : World) (ha : Frs w va fs) (hb : Frs w vb gs) (h : fs.map (·.1) = gs.map (·.1)) (hn : fs.length ≤ 140737488355327) :
    Calls Tryz.prog 22 #[va, vb] w fun e w' => e = .returned (.bool true) ∧ Below w.heap.size w w' := by
  have hlen : gs.length = fs.length := by have := congrArg List.length h; simpa using this.symm
  obtain ⟨aa, ca, rfl⟩ := ha.shape
  obtain ⟨ab, cb, eb⟩ := hb.shape
  rw [hlen] at eb
  subst eb
  have HA := hid ha
  have HB := hid hb
  have HM := hid (map_at h)
  have HLN := hid hlen
  clear ha hb h hlen
  go_enter Tryz.func22, Tryz.ntmps22
  go_wp2
  go_loopw [5] (fun vi wr => ∃ k : Nat, k ≤ fs.length ∧ vi = .int .i64 k ∧ Hid (Below w.heap.size w wr)) (fun vi _ => fs.length - (intOf vi).toNat)
  case atStart => exact ⟨0, by omega, rfl, Below.refl _ _⟩
  case round =>
    obtain ⟨k, hk, rfl, HBL⟩ := hrel
    by_cases hlt : k < fs.length
    · as_aux_lemma =>
        have hki : (k : Int) < (fs.length : Int) := by omega
        obtain ⟨g, o, rfl, hgl, hra, hst, hrn⟩ := (HA.out.below HBL.out).at k hlt
        obtain ⟨g2, o2, rfl, hgl2, hra2, hst2, hrn2⟩ := (HB.out.below HBL.out).at k (by rw [HLN.out]; exact hlt)
        have hmk := HM.out k
        rw [← hmk] at hra2 hst2 hrn2
        have HSZ := hid (frame_size (fs.getD k zFV).1 (fs.getD k zFV).2 hrn.tool)
        have HSZ2 := hid (frame_size (fs.getD k zFV).1 (gs.getD k zFV).2 hrn.tool)
        have HRA := hid (Bel.range hra hgl)
        have HRB := hid (Bel.range hra2 hgl2)
        have HSM := hid (fun p : Bel wr => rsame_any (fs.getD k zFV).1 (fs.getD k zFV).1 (fs.getD k zFV).2 (gs.getD k zFV).2 p.out hrn.tool hrn.tool (hst.below p.bel) (hst2.below p.bel) hrn.many)
        rw [sameP_self] at HSM
        obtain ⟨FF, HFF⟩ : ∃ f9, Hid (fcells (fs.getD k zFV).1 (fs.getD k zFV).2 = f9) := ⟨_, rfl⟩
        obtain ⟨GG, HGG⟩ : ∃ f9, Hid (fcells (fs.getD k zFV).1 (gs.getD k zFV).2 = f9) := ⟨_, rfl⟩
        rw [HFF.out] at HSZ HRA HSM
        rw [HGG.out] at HSZ2 HRB HSM
        have ib : Nonempty (Bel wr) := bel_some wr
        have hkw : IntKind.i64.wrap ((k : Int) + 1) = (k : Int) + 1 := by rw [IntKind.wrap_i64]; omega
        clear hra hst hrn hra2 hst2 hrn2 hmk
        go_upto_region 6 with fail
        refine wp_region_quiet_bel (by kernel_rfl) (by kernel_rfl) ?_
        go_big_quiet_step (fail)
        go_big_quiet_step (fail)
        go_big_quiet_step (fail)
        refine wpQuiet_want (by rfl) fun K hK => quiet_ld 30 (.tmp 19) (by rfl) g (o + k * 42) (by rfl) _ _ HRA.out Tryz.underlying30 rfl HSZ.out (hK _ ?_)
        simp only [Act.put, List.setIfInBounds_toArray, List.set_cons_succ, List.set_cons_zero]
        go_big_quiet_step (fail)
        go_big_quiet_step (fail)
        go_big_quiet_step (fail)
        refine wpQuiet_want (by rfl) fun K hK => quiet_ld 30 (.tmp 23) (by rfl) g2 (o2 + k * 42) (by rfl) _ _ HRB.out Tryz.underlying30 rfl HSZ2.out (hK _ ?_)
        simp only [Act.put, List.setIfInBounds_toArray, List.set_cons_succ, List.set_cons_zero]
        go_big_quiet_step (first | (go_at_call 11; exact bel_of (HSM.out _)))
        go_big_quiet_step (fail)
        refine wpQuiet_nil ?_
        rintro w8 ⟨⟨w8', hb8⟩, hw8⟩
        obtain rfl : w8 = w8' := hw8
        have HB8 := hid (below_then HBL.out hb8)
        clear hb8
        go_wp2
        exact ⟨⟨k + 1, hlt, by simp, HB8.out⟩, by simp [intOf]; omega⟩
    · obtain rfl : k = fs.length := by omega
      as_aux_lemma =>
        go_wp2
        go_ret
        exact ⟨rfl, HBL.out⟩
end Go.Proofs.YtiibhccbbpgehaaGreat

/- The document's only: a frame with just the fields that its kind has. -/
namespace Go.Proofs.YtiibhccbbpgehaaGreat
open Go.RowKit Go.BigFrame

def setAll (a : Array Value) : Nat → List Value → Array Value
  | _, [] => a
  | o, v :: r => setAll (a.setIfInBounds o v) (o + 1) r
theorem blk_cells {b : Nat} {t : TypeId} : ∀ (cs : List Value) (o : Nat) {w : World} {a : Array Value}, w.heap[b]? = some (.cells a t (0, 0)) → (w.setCells b o cs).heap[b]? = some (.cells (setAll a o cs) t (0, 0))
  | [], _, _, _, h => h
  | _ :: r, o, _, _, h => blk_cells r (o + 1) (blk_set h _)
theorem below_cells {B b : Nat} {w0 : World} (hb : B ≤ b) : ∀ (cs : List Value) (o : Nat) {w : World}, Below B w0 w → Below B w0 (w.setCells b o cs)
  | [], _, _, h => h
  | v :: r, o, _, h => below_cells hb r (o + 1) (h.setCell (p := ⟨b, o, none⟩) hb v)
theorem there_row {w : World} {b : Nat} {a : Array Value} {t : TypeId} (h : w.heap[b]? = some (.cells a t (0, 0))) (o n : Nat) (hn : o + n ≤ a.size) : w.there b o n := fun j hj => by
  refine ⟨?_, row_fz h (o + j)⟩
  rw [cell_of_row w b (o + j) a t (0, 0) h, Array.getElem?_eq_getElem (by omega)]
  rfl
theorem step_store_mid2 {P : Program} {ops : Array Oper} {o : Oper} {a : Act} {w : World} {K : Act → World → Prop} {Q : Exit → Act → World → Prop} {E : Prop} (hgd : o.guard = none) (ty : TypeId) (x y : Operand) (ho : o.op = .store ty x y)
    (b off : Nat) (cs : List Value) (hx : a.eval x = .pointer (some ⟨b, off, none⟩)) (hy : a.eval y = .agg cs.toArray) (ht : w.there b off cs.length) (hi : (P.info? ty).map (·.size) = some cs.length) (h1 : ∀ v ∈ cs, v.oneCell' = true)
    (h : K (a.put o.dst undef) (w.setCells b off cs)) : if Region.wanted o (yielded ops a.tmps) = true then Oper.wp P o a w K Q else E := by
  rw [if_pos (by simp [Region.wanted, hgd])]
  have hrun := run_storeVar_mid (P := P) w b off ty cs.toArray (by simpa using ht) (by simpa using hi) (by simpa using h1)
  unfold Oper.wp execOp
  simp only [ho, hx, hy, Instr.storeAt, Instr.sureAddr, Sem.run_bind, Sem.run_pure, Result.andThen_ok, hrun]
  exact h
theorem heq1_32 (v s : Int) (t0 t1 t2 t3 t4 t5 t6 t7 t8 t9 t10 t11 t12 t13 t14 t15 t16 t17 t18 t19 t20 t21 t22 t23 t24 t25 t26 t27 t28 t29 t30 t31 : UInt8) : setAll ((((fcells ⟨1, 0, 0, 0, List.replicate 32 0, 0, (0, 0, 0), [], []⟩ nS).toArray).setIfInBounds 2 (.int .i64 v)).setIfInBounds 3 (.int .i64 s)) 4 (bytesV [t0, t1, t2, t3, t4, t5, t6, t7, t8, t9, t10, t11, t12, t13, t14, t15, t16, t17, t18, t19, t20, t21, t22, t23, t24, t25, t26, t27, t28, t29, t30, t31]) = (fcells ⟨1, 0, v, s, [t0, t1, t2, t3, t4, t5, t6, t7, t8, t9, t10, t11, t12, t13, t14, t15, t16, t17, t18, t19, t20, t21, t22, t23, t24, t25, t26, t27, t28, t29, t30, t31], 0, (0, 0, 0), [], []⟩ nS).toArray := by kernel_rfl
theorem heq1 (v s : Int) (T : List UInt8) (h : T.length = 32) : setAll ((((fcells ⟨1, 0, 0, 0, List.replicate 32 0, 0, (0, 0, 0), [], []⟩ nS).toArray).setIfInBounds 2 (.int .i64 v)).setIfInBounds 3 (.int .i64 s)) 4 (bytesV T) = (fcells ⟨1, 0, v, s, T, 0, (0, 0, 0), [], []⟩ nS).toArray := by
  obtain ⟨t0, t1, t2, t3, t4, t5, t6, t7, t8, t9, t10, t11, t12, t13, t14, t15, t16, t17, t18, t19, t20, t21, t22, t23, t24, t25, t26, t27, t28, t29, t30, t31, rfl⟩ := list32 h
  exact heq1_32 v s t0 t1 t2 t3 t4 t5 t6 t7 t8 t9 t10 t11 t12 t13 t14 t15 t16 t17 t18 t19 t20 t21 t22 t23 t24 t25 t26 t27 t28 t29 t30 t31
theorem eq_rowFOnly1 {w : World} {g : Nat} {a b : Array Value} {t : TypeId} (h : w.heap[g]? = some (.cells a t (0, 0))) (e : a = b) : w.heap[g]? = some (.cells b t (0, 0)) := by rw [← e]; exact h

theorem built_b1 : Tryz.prog.built 30 [(0, .int .i64 1)] = some (fcells ⟨1, 0, 0, 0, List.replicate 32 0, 0, (0, 0, 0), [], []⟩ nS).toArray := by kernel_rfl

set_option maxRecDepth 100000 in
set_option maxHeartbeats 4000000 in
theorem only1_any (f : Fr) (va : Value) (w : World) (hk : f.kind = 1) (hf : f.tool.length = 32) (hv : ∃ ao n c, va = .slice ao n c) :
    Calls Tryz.prog 90 #[.agg (fcells f va).toArray] w fun e w' => e = .returned (.agg (fcells (ownF f) (ownV f va)).toArray) ∧ Below w.heap.size w w' := by
  obtain ⟨ao, nn, cc, rfl⟩ := hv
  have HNB := hid (hp_two w (.cells (fcells f (.slice ao nn cc)).toArray 30) (.cells (fcells zF nS).toArray 30))
  have HBL := hid (below_walk2 w (.cells (fcells f (.slice ao nn cc)).toArray 30) (.cells (fcells zF nS).toArray 30))
  have HZ : Hid ((w.alloc (.cells (fcells f (.slice ao nn cc)).toArray 30)).heap.size = w.heap.size + 1) := hid (by simp)
  have HOW : Hid (fcells (ownF f) (ownV f (.slice ao nn cc)) = fcells (ownF f) (ownV f (.slice ao nn cc))) := hid rfl
  have HOT := hid (ownF_tool f hf)
  have HSZ := hid (frame_size (ownF f) (ownV f (.slice ao nn cc)) HOT.out)
  have HON := hid (fcells_one (ownF f) (ownV f (.slice ao nn cc)) (by unfold ownV; split <;> rfl))
  have HOS := hid (show (fcells zF nS).toArray.size = (fcells (ownF f) (ownV f (.slice ao nn cc))).length by rw [fcells_length _ _ HOT.out]; rfl)
  have HSB := hid (frame_size ⟨1, 0, 0, 0, List.replicate 32 0, 0, (0, 0, 0), [], []⟩ nS rfl)
  have HEQ : Hid (setAll ((((fcells ⟨1, 0, 0, 0, List.replicate 32 0, 0, (0, 0, 0), [], []⟩ nS).toArray).setIfInBounds 2 (.int .i64 f.ver)).setIfInBounds 3 (.int .i64 f.slots)) 4 (bytesV f.tool) = (fcells (ownF f) (ownV f (.slice ao nn cc))).toArray) := hid (by
    unfold ownF ownV
    rw [if_pos hk, if_neg (show ¬ f.kind = 2 by omega)]
    exact heq1 f.ver f.slots f.tool hf)
  have HK := hid hk
  have HF := hid hf
  clear hk hf HOW
  go_enter Tryz.func90, Tryz.ntmps90
  go_upto_region 1 with (refine al_row (by rfl) 30 (by rfl) _ zeroFrame ?_)
  try rw [HZ.out]
  generalize (w.alloc (.cells (fcells f (.slice ao nn cc)).toArray 30)).alloc (.cells (fcells zF nS).toArray 30) = w2 at HNB HBL ⊢
  have x0 := (Fb.of HNB.out.1 HF.out).k
  rw [HK.out] at x0
  have HL2 := hid (hp_lt HNB.out.2)
  go_upto_region 2 with (first
    | (refine bd_row (by rfl) 30 #[(0, .tmp 5)] (by rfl) _ (by simp [Act.eval]) _ built_b1 ?_)
    | (refine al_row (by rfl) 30 (by rfl) _ zeroFrame ?_)
    | (refine st_new (by rfl) 30 _ _ (by rfl) (fcells ⟨1, 0, 0, 0, List.replicate 32 0, 0, (0, 0, 0), [], []⟩ nS) (by rfl) (by rfl) 30 _ HSB.out rfl (fcells_one _ nS rfl) ?_))
  have HN1 := hid ((below_walk w2 (.cells (fcells ⟨1, 0, 0, 0, List.replicate 32 0, 0, (0, 0, 0), [], []⟩ nS).toArray 30)).block _ (by have := HL2.out; omega) |>.trans HNB.out.1)
  have HN2 := hid ((below_walk w2 (.cells (fcells ⟨1, 0, 0, 0, List.replicate 32 0, 0, (0, 0, 0), [], []⟩ nS).toArray 30)).block _ HL2.out |>.trans HNB.out.2)
  have HN3 := hid (hp_new w2 (.cells (fcells ⟨1, 0, 0, 0, List.replicate 32 0, 0, (0, 0, 0), [], []⟩ nS).toArray 30))
  have HB3 := hid (below_then HBL.out (below_walk w2 (.cells (fcells ⟨1, 0, 0, 0, List.replicate 32 0, 0, (0, 0, 0), [], []⟩ nS).toArray 30)))
  have HG3 := hid (show w.heap.size + 1 < w2.heap.size from HL2.out)
  obtain ⟨B3, HE3⟩ : ∃ b : Nat, Hid (w2.heap.size = b) := ⟨_, rfl⟩
  rw [HE3.out] at HN3 HG3 ⊢
  generalize w2.alloc (.cells (fcells ⟨1, 0, 0, 0, List.replicate 32 0, 0, (0, 0, 0), [], []⟩ nS).toArray 30) = w3 at HN1 HN2 HN3 HB3 ⊢
  clear x0 HNB HBL HL2
  have HFB := hid (Fb.of HN1.out HF.out)
  have HFC := hid (Fb.of HN3.out (show (⟨1, 0, 0, 0, List.replicate 32 0, 0, (0, 0, 0), [], []⟩ : Fr).tool.length = 32 from rfl))
  have x1 := HFB.out.k
  rw [HK.out] at x1
  have HYv := hid HFB.out.v
  have HYs := hid HFB.out.s
  have HYt := hid HFB.out.t
  have HTS := hid (tool_size f.tool HF.out)
  have ne1 : ¬ w.heap.size = B3 := by have := HG3.out; omega
  have ne2 : ¬ B3 = w.heap.size := by have := HG3.out; omega
  go_upto_region 4 with fail
  have HLB := hid (show w.heap.size < B3 by have := HG3.out; omega)
  refine wp_noPanic (wp_region_held_drew (S := fun W => Below B3 w3 W) (by kernel_rfl) ⟨rfl, rfl, rfl, Nat.le_refl _, fun _ _ => rfl⟩ ?_)
  intro hHeld
  refine wpAnyH_take (i := 0) (v := .pointer (some ⟨w.heap.size, 2, none⟩)) rfl (by kernel_rfl) (by kernel_rfl) (by kernel_rfl) (fun _ _ _ h => h) (Or.inl ⟨by rfl, fun W _ => by go_simp⟩) hHeld ?_
  simp only [Act.put, List.getElem_toArray, List.getElem_cons_zero, List.setIfInBounds_toArray, List.set_cons_succ, List.set_cons_zero]
  refine wpAnyH_take (i := 1) (v := .int .i64 f.ver) rfl (by kernel_rfl) (by kernel_rfl) (by kernel_rfl) (fun _ _ _ h => h) (Or.inl ⟨by rfl, fun W hW => by have hcell2 := (hW.cell (p := ⟨w.heap.size, 2, none⟩) HLB.out).trans HYv.out; clear hW; go_simp⟩) hHeld ?_
  simp only [Act.put, List.getElem_toArray, List.getElem_cons_zero, List.getElem_cons_succ, List.setIfInBounds_toArray, List.set_cons_succ, List.set_cons_zero]
  refine wpAnyH_take (i := 2) (v := .pointer (some ⟨w.heap.size, 3, none⟩)) rfl (by kernel_rfl) (by kernel_rfl) (by kernel_rfl) (fun _ _ _ h => h) (Or.inl ⟨by rfl, fun W _ => by go_simp⟩) hHeld ?_
  simp only [Act.put, List.getElem_toArray, List.getElem_cons_zero, List.getElem_cons_succ, List.setIfInBounds_toArray, List.set_cons_succ, List.set_cons_zero]
  refine wpAnyH_take (i := 3) (v := .int .i64 f.slots) rfl (by kernel_rfl) (by kernel_rfl) (by kernel_rfl) (fun _ _ _ h => h) (Or.inl ⟨by rfl, fun W hW => by have hcell3 := (hW.cell (p := ⟨w.heap.size, 3, none⟩) HLB.out).trans HYs.out; clear hW; go_simp⟩) hHeld ?_
  simp only [Act.put, List.getElem_toArray, List.getElem_cons_zero, List.getElem_cons_succ, List.setIfInBounds_toArray, List.set_cons_succ, List.set_cons_zero]
  refine wpAnyH_take (i := 4) (v := .pointer (some ⟨w.heap.size, 4, none⟩)) rfl (by kernel_rfl) (by kernel_rfl) (by kernel_rfl) (fun _ _ _ h => h) (Or.inl ⟨by rfl, fun W _ => by go_simp⟩) hHeld ?_
  simp only [Act.put, List.getElem_toArray, List.getElem_cons_zero, List.getElem_cons_succ, List.setIfInBounds_toArray, List.set_cons_succ, List.set_cons_zero]
  refine wpAnyH_take (i := 5) (v := .agg (bytesV f.tool).toArray) rfl (by kernel_rfl) (by kernel_rfl) (by kernel_rfl) (fun _ _ _ h => h) (yieldsIf_load_mid (by rfl) 25 (.tmp 15) rfl w.heap.size 4 rfl (bytesV f.tool) _ (fun W hW => fun j v hv => (hW.cell (p := ⟨w.heap.size, 4 + j, none⟩) HLB.out).trans (HYt.out j v hv)) Tryz.underlying25 rfl HTS.out) hHeld ?_
  simp only [Act.put, List.getElem_toArray, List.getElem_cons_zero, List.getElem_cons_succ, List.setIfInBounds_toArray, List.set_cons_succ, List.set_cons_zero]
  obtain ⟨wx, HWX⟩ : ∃ x, Hid (w3.drew = x) := ⟨_, rfl⟩
  rw [HWX.out] at hHeld ⊢
  have HNx0 := hid (show wx.heap[B3]? = some (.cells (fcells ⟨1, 0, 0, 0, List.replicate 32 0, 0, (0, 0, 0), [], []⟩ nS).toArray 30 (0, 0)) by rw [← HWX.out]; exact HN3.out)
  have hq0 : Below B3 w3 wx := hHeld
  refine wpAnyH_take (i := 6) (v := .pointer (some ⟨B3, 2, none⟩)) rfl (by kernel_rfl) (by kernel_rfl) (by kernel_rfl) (fun _ _ _ h => h) (Or.inl ⟨by rfl, fun W _ => by go_simp⟩) hHeld ?_
  simp only [Act.put, List.getElem_toArray, List.getElem_cons_zero, List.getElem_cons_succ, List.setIfInBounds_toArray, List.set_cons_succ, List.set_cons_zero]
  have g7 : wx.cell? ⟨B3, 2, none⟩ = some _ := cell_of_row wx B3 2 _ _ _ HNx0.out
  have z7 := row_fz HNx0.out 2
  refine wpAnyH_ready (rs := [7]) (by kernel_rfl) (by simp) ?_
  refine AllReadyH.cons rfl (fun K hK => ?_) AllReadyH.nil
  go_simp
  have hq1 : Below B3 w3 (wx.setCell ⟨B3, 2, none⟩ (.int .i64 f.ver)) := hq0.setCell (p := ⟨B3, 2, none⟩) (Nat.le_refl _) _
  have HNx1 := hid (show (wx.setCell ⟨B3, 2, none⟩ (.int .i64 f.ver)).heap[B3]? = some (.cells ((fcells ⟨1, 0, 0, 0, List.replicate 32 0, 0, (0, 0, 0), [], []⟩ nS).toArray.setIfInBounds 2 (.int .i64 f.ver)) 30 (0, 0)) from blk_set HNx0.out _)
  refine hK.out _ _ hq1 (fun hHeld => ?_)
  clear hK K g7 z7
  try simp only [Act.put, List.getElem_toArray, List.getElem_cons_zero, List.getElem_cons_succ, List.setIfInBounds_toArray, List.set_cons_succ, List.set_cons_zero]
  obtain ⟨wy1, hwy1⟩ : ∃ x, (wx.setCell ⟨B3, 2, none⟩ (.int .i64 f.ver)) = x := ⟨_, rfl⟩
  rw [hwy1] at hq1 HNx1 hHeld ⊢
  refine wpAnyH_take (i := 8) (v := .pointer (some ⟨B3, 3, none⟩)) rfl (by kernel_rfl) (by kernel_rfl) (by kernel_rfl) (fun _ _ _ h => h) (Or.inl ⟨by rfl, fun W _ => by go_simp⟩) hHeld ?_
  simp only [Act.put, List.getElem_toArray, List.getElem_cons_zero, List.getElem_cons_succ, List.setIfInBounds_toArray, List.set_cons_succ, List.set_cons_zero]
  have g9 : wy1.cell? ⟨B3, 3, none⟩ = some _ := cell_of_row wy1 B3 3 _ _ _ HNx1.out
  have z9 := row_fz HNx1.out 3
  refine wpAnyH_ready (rs := [9]) (by kernel_rfl) (by simp) ?_
  refine AllReadyH.cons rfl (fun K hK => ?_) AllReadyH.nil
  go_simp
  have hq2 : Below B3 w3 (wy1.setCell ⟨B3, 3, none⟩ (.int .i64 f.slots)) := hq1.setCell (p := ⟨B3, 3, none⟩) (Nat.le_refl _) _
  have HNx2 := hid (show (wy1.setCell ⟨B3, 3, none⟩ (.int .i64 f.slots)).heap[B3]? = some (.cells (((fcells ⟨1, 0, 0, 0, List.replicate 32 0, 0, (0, 0, 0), [], []⟩ nS).toArray.setIfInBounds 2 (.int .i64 f.ver)).setIfInBounds 3 (.int .i64 f.slots)) 30 (0, 0)) from blk_set HNx1.out _)
  refine hK.out _ _ hq2 (fun hHeld => ?_)
  clear hK K g9 z9
  try simp only [Act.put, List.getElem_toArray, List.getElem_cons_zero, List.getElem_cons_succ, List.setIfInBounds_toArray, List.set_cons_succ, List.set_cons_zero]
  obtain ⟨wy2, hwy2⟩ : ∃ x, (wy1.setCell ⟨B3, 3, none⟩ (.int .i64 f.slots)) = x := ⟨_, rfl⟩
  rw [hwy2] at hq2 HNx2 hHeld ⊢
  refine wpAnyH_take (i := 10) (v := .pointer (some ⟨B3, 4, none⟩)) rfl (by kernel_rfl) (by kernel_rfl) (by kernel_rfl) (fun _ _ _ h => h) (Or.inl ⟨by rfl, fun W _ => by go_simp⟩) hHeld ?_
  simp only [Act.put, List.getElem_toArray, List.getElem_cons_zero, List.getElem_cons_succ, List.setIfInBounds_toArray, List.set_cons_succ, List.set_cons_zero]
  refine wpAnyH_ready (rs := [11]) (by kernel_rfl) (by simp) ?_
  refine AllReadyH.cons rfl (fun K hK => ?_) AllReadyH.nil
  refine step_store_mid2 (by rfl) 25 (.tmp 19) (.tmp 16) (by rfl) B3 4 (bytesV f.tool) (by rfl) (by rfl) (there_row HNx2.out 4 _ (by rw [bytesV_length, HF.out, Array.size_setIfInBounds, Array.size_setIfInBounds]; decide)) HTS.out (bytesV_one _) ?_
  have hq3 : Below B3 w3 (wy2.setCells B3 4 (bytesV f.tool)) := below_cells (Nat.le_refl _) _ _ hq2
  have HNx3 := hid (blk_cells (bytesV f.tool) 4 HNx2.out)
  refine hK.out _ _ hq3 (fun hHeld => ?_)
  clear hK K
  try simp only [Act.put, List.getElem_toArray, List.getElem_cons_zero, List.getElem_cons_succ]
  obtain ⟨wy3, hwy3⟩ : ∃ x, wy2.setCells B3 4 (bytesV f.tool) = x := ⟨_, rfl⟩
  rw [hwy3] at hq3 HNx3 hHeld ⊢
  refine wpAnyH_done (by kernel_rfl) ?_ _
  simp only [noPanic]
  clear hHeld
  go_upto_region 13 with fail
  have HN4 := hid (eq_rowFOnly1 HNx3.out HEQ.out)
  have HN5 := hid ((hq3.block (w.heap.size + 1) HG3.out).trans HN2.out)
  have HB4 := hid (show Below w.heap.size w wy3 from below_tr HB3.out (hq3.mono (by have := HLB.out; omega)))
  obtain ⟨FO, HFO⟩ : ∃ L, Hid (fcells (ownF f) (ownV f (.slice ao nn cc)) = L) := ⟨_, rfl⟩
  rw [HFO.out] at HSZ HON HOS HN4
  go_wp2_with (first
    | (refine ld_row (by rfl) 30 (.tmp 3) (by rfl) B3 (by rfl) FO 30 HN4.out _ Tryz.underlying30 rfl HSZ.out ?_)
    | (refine st_row (by rfl) 30 _ _ (by rfl) (w.heap.size + 1) FO (by rfl) (by rfl) 30 _ HN5.out HSZ.out HOS.out HON.out ?_; intro w5 hw5))
  refine ret_row 2 30 rfl (w.heap.size + 1) rfl FO 30 hw5.blk _ Tryz.underlying30 rfl HSZ.out rfl ⟨by rw [HFO.out], Below.of_gb HB4.out hw5.grown (by omega)⟩

end Go.Proofs.YtiibhccbbpgehaaGreat

/- The document's only: a frame with just the fields that its kind has. -/
namespace Go.Proofs.YtiibhccbbpgehaaGreat
open Go.RowKit Go.BigFrame

theorem eq_rowFOnly2 {w : World} {g : Nat} {a b : Array Value} {t : TypeId} (h : w.heap[g]? = some (.cells a t (0, 0))) (e : a = b) : w.heap[g]? = some (.cells b t (0, 0)) := by rw [← e]; exact h

theorem built_b2 : Tryz.prog.built 30 [(0, .int .i64 2)] = some (fcells ⟨2, 0, 0, 0, List.replicate 32 0, 0, (0, 0, 0), [], []⟩ nS).toArray := by kernel_rfl

set_option maxRecDepth 100000 in
set_option maxHeartbeats 4000000 in
theorem only2_any (f : Fr) (va : Value) (w : World) (hk : f.kind = 2) (hf : f.tool.length = 32) (hv : ∃ ao n c, va = .slice ao n c) :
    Calls Tryz.prog 90 #[.agg (fcells f va).toArray] w fun e w' => e = .returned (.agg (fcells (ownF f) (ownV f va)).toArray) ∧ Below w.heap.size w w' := by
  obtain ⟨ao, nn, cc, rfl⟩ := hv
  have HNB := hid (hp_two w (.cells (fcells f (.slice ao nn cc)).toArray 30) (.cells (fcells zF nS).toArray 30))
  have HBL := hid (below_walk2 w (.cells (fcells f (.slice ao nn cc)).toArray 30) (.cells (fcells zF nS).toArray 30))
  have HZ : Hid ((w.alloc (.cells (fcells f (.slice ao nn cc)).toArray 30)).heap.size = w.heap.size + 1) := hid (by simp)
  have HOW : Hid (fcells (ownF f) (ownV f (.slice ao nn cc)) = fcells (ownF f) (ownV f (.slice ao nn cc))) := hid rfl
  have HOT := hid (ownF_tool f hf)
  have HSZ := hid (frame_size (ownF f) (ownV f (.slice ao nn cc)) HOT.out)
  have HON := hid (fcells_one (ownF f) (ownV f (.slice ao nn cc)) (by unfold ownV; split <;> rfl))
  have HOS := hid (show (fcells zF nS).toArray.size = (fcells (ownF f) (ownV f (.slice ao nn cc))).length by rw [fcells_length _ _ HOT.out]; rfl)
  have HSB := hid (frame_size ⟨2, 0, 0, 0, List.replicate 32 0, 0, (0, 0, 0), [], []⟩ nS rfl)
  have HEQ : Hid ((((((((fcells ⟨2, 0, 0, 0, List.replicate 32 0, 0, (0, 0, 0), [], []⟩ nS).toArray.setIfInBounds 1 (.int .u64 f.id)).setIfInBounds 37 (.int .i64 f.lim.1)).setIfInBounds 38 (.int .i64 f.lim.2.1)).setIfInBounds 39 (.int .i64 f.lim.2.2)).setIfInBounds 40 (.slice ao nn cc)).setIfInBounds 41 (.string (mk f.body))) = (fcells (ownF f) (ownV f (.slice ao nn cc))).toArray) := hid (by
    unfold ownF ownV
    rw [if_neg (show ¬ f.kind = 1 by omega), if_pos hk, if_pos hk]
    rfl)
  have HK := hid hk
  have HF := hid hf
  clear hk hf HOW
  go_enter Tryz.func90, Tryz.ntmps90
  go_upto_region 1 with (refine al_row (by rfl) 30 (by rfl) _ zeroFrame ?_)
  try rw [HZ.out]
  generalize (w.alloc (.cells (fcells f (.slice ao nn cc)).toArray 30)).alloc (.cells (fcells zF nS).toArray 30) = w2 at HNB HBL ⊢
  have x0 := (Fb.of HNB.out.1 HF.out).k
  rw [HK.out] at x0
  have HL2 := hid (hp_lt HNB.out.2)
  go_upto_region 2 with (first
    | (refine bd_row (by rfl) 30 #[(0, .tmp 5)] (by rfl) _ (by simp [Act.eval]) _ built_b2 ?_)
    | (refine al_row (by rfl) 30 (by rfl) _ zeroFrame ?_)
    | (refine st_new (by rfl) 30 _ _ (by rfl) (fcells ⟨2, 0, 0, 0, List.replicate 32 0, 0, (0, 0, 0), [], []⟩ nS) (by rfl) (by rfl) 30 _ HSB.out rfl (fcells_one _ nS rfl) ?_))
  have HN1 := hid ((below_walk w2 (.cells (fcells ⟨2, 0, 0, 0, List.replicate 32 0, 0, (0, 0, 0), [], []⟩ nS).toArray 30)).block _ (by have := HL2.out; omega) |>.trans HNB.out.1)
  have HN2 := hid ((below_walk w2 (.cells (fcells ⟨2, 0, 0, 0, List.replicate 32 0, 0, (0, 0, 0), [], []⟩ nS).toArray 30)).block _ HL2.out |>.trans HNB.out.2)
  have HN3 := hid (hp_new w2 (.cells (fcells ⟨2, 0, 0, 0, List.replicate 32 0, 0, (0, 0, 0), [], []⟩ nS).toArray 30))
  have HB3 := hid (below_then HBL.out (below_walk w2 (.cells (fcells ⟨2, 0, 0, 0, List.replicate 32 0, 0, (0, 0, 0), [], []⟩ nS).toArray 30)))
  have HG3 := hid (show w.heap.size + 1 < w2.heap.size from HL2.out)
  obtain ⟨B3, HE3⟩ : ∃ b : Nat, Hid (w2.heap.size = b) := ⟨_, rfl⟩
  rw [HE3.out] at HN3 HG3 ⊢
  generalize w2.alloc (.cells (fcells ⟨2, 0, 0, 0, List.replicate 32 0, 0, (0, 0, 0), [], []⟩ nS).toArray 30) = w3 at HN1 HN2 HN3 HB3 ⊢
  clear x0 HNB HBL HL2
  have HFB := hid (Fb.of HN1.out HF.out)
  have HFC := hid (Fb.of HN3.out (show (⟨2, 0, 0, 0, List.replicate 32 0, 0, (0, 0, 0), [], []⟩ : Fr).tool.length = 32 from rfl))
  have x1 := HFB.out.k
  rw [HK.out] at x1
  have y_i := HFB.out.i
  have y_l1 := HFB.out.l1
  have y_l2 := HFB.out.l2
  have y_l3 := HFB.out.l3
  have y_a := HFB.out.a
  have y_bd := HFB.out.bd
  have c_i := HFC.out.i
  have c_l1 := HFC.out.l1
  have c_l2 := HFC.out.l2
  have c_l3 := HFC.out.l3
  have c_a := HFC.out.a
  have c_bd := HFC.out.bd
  have f_1 := row_fz HN3.out 1
  have f_37 := row_fz HN3.out 37
  have f_38 := row_fz HN3.out 38
  have f_39 := row_fz HN3.out 39
  have f_40 := row_fz HN3.out 40
  have f_41 := row_fz HN3.out 41
  have ne1 : ¬ w.heap.size = B3 := by have := HG3.out; omega
  have ne2 : ¬ B3 = w.heap.size := by have := HG3.out; omega
  go_upto_region 6 with fail
  have HLB := hid (show w.heap.size < B3 by have := HG3.out; omega)
  have HYi := hid y_i
  have HYl1 := hid y_l1
  have HYl2 := hid y_l2
  have HYl3 := hid y_l3
  have HYa := hid y_a
  have HYbd := hid y_bd
  clear y_i y_l1 y_l2 y_l3 y_a y_bd c_i c_l1 c_l2 c_l3 c_a c_bd f_1 f_37 f_38 f_39 f_40 f_41
  refine wp_noPanic (wp_region_held_drew (S := fun W => Below B3 w3 W) (by kernel_rfl) ⟨rfl, rfl, rfl, Nat.le_refl _, fun _ _ => rfl⟩ ?_)
  intro hHeld
  refine wpAnyH_take (i := 0) (v := .pointer (some ⟨w.heap.size, 1, none⟩)) rfl (by kernel_rfl) (by kernel_rfl) (by kernel_rfl) (fun _ _ _ h => h) (Or.inl ⟨by rfl, fun W _ => by go_simp⟩) hHeld ?_
  simp only [Act.put, List.getElem_toArray, List.getElem_cons_zero, List.setIfInBounds_toArray, List.set_cons_succ, List.set_cons_zero]
  refine wpAnyH_take (i := 1) (v := .int .u64 f.id) rfl (by kernel_rfl) (by kernel_rfl) (by kernel_rfl) (fun _ _ _ h => h) (Or.inl ⟨by rfl, fun W hW => by have hcell1 := (hW.cell (p := ⟨w.heap.size, 1, none⟩) HLB.out).trans HYi.out; clear hW; go_simp⟩) hHeld ?_
  simp only [Act.put, List.getElem_toArray, List.getElem_cons_zero, List.getElem_cons_succ, List.setIfInBounds_toArray, List.set_cons_succ, List.set_cons_zero]
  refine wpAnyH_take (i := 2) (v := .pointer (some ⟨w.heap.size, 37, none⟩)) rfl (by kernel_rfl) (by kernel_rfl) (by kernel_rfl) (fun _ _ _ h => h) (Or.inl ⟨by rfl, fun W _ => by go_simp⟩) hHeld ?_
  simp only [Act.put, List.getElem_toArray, List.getElem_cons_zero, List.getElem_cons_succ, List.setIfInBounds_toArray, List.set_cons_succ, List.set_cons_zero]
  refine wpAnyH_take (i := 3) (v := .agg #[.int .i64 f.lim.1, .int .i64 f.lim.2.1, .int .i64 f.lim.2.2]) rfl (by kernel_rfl) (by kernel_rfl) (by kernel_rfl) (fun _ _ _ h => h) (Or.inl ⟨by rfl, fun W hW => by have hcell37 := (hW.cell (p := ⟨w.heap.size, 37, none⟩) HLB.out).trans HYl1.out; have hcell38 := (hW.cell (p := ⟨w.heap.size, 38, none⟩) HLB.out).trans HYl2.out; have hcell39 := (hW.cell (p := ⟨w.heap.size, 39, none⟩) HLB.out).trans HYl3.out; clear hW; go_simp⟩) hHeld ?_
  simp only [Act.put, List.getElem_toArray, List.getElem_cons_zero, List.getElem_cons_succ, List.setIfInBounds_toArray, List.set_cons_succ, List.set_cons_zero]
  refine wpAnyH_take (i := 4) (v := .pointer (some ⟨w.heap.size, 40, none⟩)) rfl (by kernel_rfl) (by kernel_rfl) (by kernel_rfl) (fun _ _ _ h => h) (Or.inl ⟨by rfl, fun W _ => by go_simp⟩) hHeld ?_
  simp only [Act.put, List.getElem_toArray, List.getElem_cons_zero, List.getElem_cons_succ, List.setIfInBounds_toArray, List.set_cons_succ, List.set_cons_zero]
  refine wpAnyH_take (i := 5) (v := .slice ao nn cc) rfl (by kernel_rfl) (by kernel_rfl) (by kernel_rfl) (fun _ _ _ h => h) (Or.inl ⟨by rfl, fun W hW => by have hcell40 := (hW.cell (p := ⟨w.heap.size, 40, none⟩) HLB.out).trans HYa.out; clear hW; go_simp⟩) hHeld ?_
  simp only [Act.put, List.getElem_toArray, List.getElem_cons_zero, List.getElem_cons_succ, List.setIfInBounds_toArray, List.set_cons_succ, List.set_cons_zero]
  refine wpAnyH_take (i := 6) (v := .pointer (some ⟨w.heap.size, 41, none⟩)) rfl (by kernel_rfl) (by kernel_rfl) (by kernel_rfl) (fun _ _ _ h => h) (Or.inl ⟨by rfl, fun W _ => by go_simp⟩) hHeld ?_
  simp only [Act.put, List.getElem_toArray, List.getElem_cons_zero, List.getElem_cons_succ, List.setIfInBounds_toArray, List.set_cons_succ, List.set_cons_zero]
  refine wpAnyH_take (i := 7) (v := .string (mk f.body)) rfl (by kernel_rfl) (by kernel_rfl) (by kernel_rfl) (fun _ _ _ h => h) (Or.inl ⟨by rfl, fun W hW => by have hcell41 := (hW.cell (p := ⟨w.heap.size, 41, none⟩) HLB.out).trans HYbd.out; clear hW; go_simp⟩) hHeld ?_
  simp only [Act.put, List.getElem_toArray, List.getElem_cons_zero, List.getElem_cons_succ, List.setIfInBounds_toArray, List.set_cons_succ, List.set_cons_zero]
  refine wpAnyH_take (i := 8) (v := .pointer (some ⟨B3, 1, none⟩)) rfl (by kernel_rfl) (by kernel_rfl) (by kernel_rfl) (fun _ _ _ h => h) (Or.inl ⟨by rfl, fun W _ => by go_simp⟩) hHeld ?_
  simp only [Act.put, List.getElem_toArray, List.getElem_cons_zero, List.getElem_cons_succ, List.setIfInBounds_toArray, List.set_cons_succ, List.set_cons_zero]
  obtain ⟨wx, HWX⟩ : ∃ x, Hid (w3.drew = x) := ⟨_, rfl⟩
  rw [HWX.out] at hHeld ⊢
  have HNx0 := hid (show wx.heap[B3]? = some (.cells (fcells ⟨2, 0, 0, 0, List.replicate 32 0, 0, (0, 0, 0), [], []⟩ nS).toArray 30 (0, 0)) by rw [← HWX.out]; exact HN3.out)
  have hq0 : Below B3 w3 wx := hHeld
  have g9_1 : wx.cell? ⟨B3, 1, none⟩ = some _ := cell_of_row wx B3 1 _ _ _ HNx0.out
  have z9_1 := row_fz HNx0.out 1
  refine wpAnyH_ready (rs := [9]) (by kernel_rfl) (by simp) ?_
  refine AllReadyH.cons rfl (fun K hK => ?_) AllReadyH.nil
  go_simp
  have hq1 : Below B3 w3 (wx.setCell ⟨B3, 1, none⟩ (.int .u64 f.id)) := (hq0.setCell (p := ⟨B3, 1, none⟩) (Nat.le_refl _) _)
  have HNx1 := hid (show (wx.setCell ⟨B3, 1, none⟩ (.int .u64 f.id)).heap[B3]? = some (.cells ((fcells ⟨2, 0, 0, 0, List.replicate 32 0, 0, (0, 0, 0), [], []⟩ nS).toArray.setIfInBounds 1 (.int .u64 f.id)) 30 (0, 0)) from (blk_set HNx0.out (.int .u64 f.id)))
  refine hK.out _ _ hq1 (fun hHeld => ?_)
  clear hK K g9_1 z9_1
  try simp only [Act.put, List.getElem_toArray, List.getElem_cons_zero, List.getElem_cons_succ, List.setIfInBounds_toArray, List.set_cons_succ, List.set_cons_zero]
  obtain ⟨wy1, hwy1⟩ : ∃ x, (wx.setCell ⟨B3, 1, none⟩ (.int .u64 f.id)) = x := ⟨_, rfl⟩
  rw [hwy1] at hq1 HNx1 hHeld ⊢
  have g11_37 : wy1.cell? ⟨B3, 37, none⟩ = some _ := cell_of_row wy1 B3 37 _ _ _ HNx1.out
  have g11_38 : wy1.cell? ⟨B3, 38, none⟩ = some _ := cell_of_row wy1 B3 38 _ _ _ HNx1.out
  have g11_39 : wy1.cell? ⟨B3, 39, none⟩ = some _ := cell_of_row wy1 B3 39 _ _ _ HNx1.out
  have z11_37 := row_fz HNx1.out 37
  have z11_38 := row_fz HNx1.out 38
  have z11_39 := row_fz HNx1.out 39
  refine wpAnyH_take (i := 10) (v := .pointer (some ⟨B3, 37, none⟩)) rfl (by kernel_rfl) (by kernel_rfl) (by kernel_rfl) (fun _ _ _ h => h) (Or.inl ⟨by rfl, fun W _ => by go_simp⟩) hHeld ?_
  simp only [Act.put, List.getElem_toArray, List.getElem_cons_zero, List.getElem_cons_succ, List.setIfInBounds_toArray, List.set_cons_succ, List.set_cons_zero]
  refine wpAnyH_ready (rs := [11]) (by kernel_rfl) (by simp) ?_
  refine AllReadyH.cons rfl (fun K hK => ?_) AllReadyH.nil
  go_simp
  have hq2 : Below B3 w3 (((wy1.setCell ⟨B3, 37, none⟩ (.int .i64 f.lim.1)).setCell ⟨B3, 38, none⟩ (.int .i64 f.lim.2.1)).setCell ⟨B3, 39, none⟩ (.int .i64 f.lim.2.2)) := (((hq1.setCell (p := ⟨B3, 37, none⟩) (Nat.le_refl _) _).setCell (p := ⟨B3, 38, none⟩) (Nat.le_refl _) _).setCell (p := ⟨B3, 39, none⟩) (Nat.le_refl _) _)
  have HNx2 := hid (show (((wy1.setCell ⟨B3, 37, none⟩ (.int .i64 f.lim.1)).setCell ⟨B3, 38, none⟩ (.int .i64 f.lim.2.1)).setCell ⟨B3, 39, none⟩ (.int .i64 f.lim.2.2)).heap[B3]? = some (.cells (((((fcells ⟨2, 0, 0, 0, List.replicate 32 0, 0, (0, 0, 0), [], []⟩ nS).toArray.setIfInBounds 1 (.int .u64 f.id)).setIfInBounds 37 (.int .i64 f.lim.1)).setIfInBounds 38 (.int .i64 f.lim.2.1)).setIfInBounds 39 (.int .i64 f.lim.2.2)) 30 (0, 0)) from (blk_set (blk_set (blk_set HNx1.out (.int .i64 f.lim.1)) (.int .i64 f.lim.2.1)) (.int .i64 f.lim.2.2)))
  refine hK.out _ _ hq2 (fun hHeld => ?_)
  clear hK K g11_37 z11_37 g11_38 z11_38 g11_39 z11_39
  try simp only [Act.put, List.getElem_toArray, List.getElem_cons_zero, List.getElem_cons_succ, List.setIfInBounds_toArray, List.set_cons_succ, List.set_cons_zero]
  obtain ⟨wy2, hwy2⟩ : ∃ x, (((wy1.setCell ⟨B3, 37, none⟩ (.int .i64 f.lim.1)).setCell ⟨B3, 38, none⟩ (.int .i64 f.lim.2.1)).setCell ⟨B3, 39, none⟩ (.int .i64 f.lim.2.2)) = x := ⟨_, rfl⟩
  rw [hwy2] at hq2 HNx2 hHeld ⊢
  have g13_40 : wy2.cell? ⟨B3, 40, none⟩ = some _ := cell_of_row wy2 B3 40 _ _ _ HNx2.out
  have z13_40 := row_fz HNx2.out 40
  refine wpAnyH_take (i := 12) (v := .pointer (some ⟨B3, 40, none⟩)) rfl (by kernel_rfl) (by kernel_rfl) (by kernel_rfl) (fun _ _ _ h => h) (Or.inl ⟨by rfl, fun W _ => by go_simp⟩) hHeld ?_
  simp only [Act.put, List.getElem_toArray, List.getElem_cons_zero, List.getElem_cons_succ, List.setIfInBounds_toArray, List.set_cons_succ, List.set_cons_zero]
  refine wpAnyH_ready (rs := [13]) (by kernel_rfl) (by simp) ?_
  refine AllReadyH.cons rfl (fun K hK => ?_) AllReadyH.nil
  go_simp
  have hq3 : Below B3 w3 (wy2.setCell ⟨B3, 40, none⟩ (.slice ao nn cc)) := (hq2.setCell (p := ⟨B3, 40, none⟩) (Nat.le_refl _) _)
  have HNx3 := hid (show (wy2.setCell ⟨B3, 40, none⟩ (.slice ao nn cc)).heap[B3]? = some (.cells ((((((fcells ⟨2, 0, 0, 0, List.replicate 32 0, 0, (0, 0, 0), [], []⟩ nS).toArray.setIfInBounds 1 (.int .u64 f.id)).setIfInBounds 37 (.int .i64 f.lim.1)).setIfInBounds 38 (.int .i64 f.lim.2.1)).setIfInBounds 39 (.int .i64 f.lim.2.2)).setIfInBounds 40 (.slice ao nn cc)) 30 (0, 0)) from (blk_set HNx2.out (.slice ao nn cc)))
  refine hK.out _ _ hq3 (fun hHeld => ?_)
  clear hK K g13_40 z13_40
  try simp only [Act.put, List.getElem_toArray, List.getElem_cons_zero, List.getElem_cons_succ, List.setIfInBounds_toArray, List.set_cons_succ, List.set_cons_zero]
  obtain ⟨wy3, hwy3⟩ : ∃ x, (wy2.setCell ⟨B3, 40, none⟩ (.slice ao nn cc)) = x := ⟨_, rfl⟩
  rw [hwy3] at hq3 HNx3 hHeld ⊢
  have g15_41 : wy3.cell? ⟨B3, 41, none⟩ = some _ := cell_of_row wy3 B3 41 _ _ _ HNx3.out
  have z15_41 := row_fz HNx3.out 41
  refine wpAnyH_take (i := 14) (v := .pointer (some ⟨B3, 41, none⟩)) rfl (by kernel_rfl) (by kernel_rfl) (by kernel_rfl) (fun _ _ _ h => h) (Or.inl ⟨by rfl, fun W _ => by go_simp⟩) hHeld ?_
  simp only [Act.put, List.getElem_toArray, List.getElem_cons_zero, List.getElem_cons_succ, List.setIfInBounds_toArray, List.set_cons_succ, List.set_cons_zero]
  refine wpAnyH_ready (rs := [15]) (by kernel_rfl) (by simp) ?_
  refine AllReadyH.cons rfl (fun K hK => ?_) AllReadyH.nil
  go_simp
  have hq4 : Below B3 w3 (wy3.setCell ⟨B3, 41, none⟩ (.string (mk f.body))) := (hq3.setCell (p := ⟨B3, 41, none⟩) (Nat.le_refl _) _)
  have HNx4 := hid (show (wy3.setCell ⟨B3, 41, none⟩ (.string (mk f.body))).heap[B3]? = some (.cells (((((((fcells ⟨2, 0, 0, 0, List.replicate 32 0, 0, (0, 0, 0), [], []⟩ nS).toArray.setIfInBounds 1 (.int .u64 f.id)).setIfInBounds 37 (.int .i64 f.lim.1)).setIfInBounds 38 (.int .i64 f.lim.2.1)).setIfInBounds 39 (.int .i64 f.lim.2.2)).setIfInBounds 40 (.slice ao nn cc)).setIfInBounds 41 (.string (mk f.body))) 30 (0, 0)) from (blk_set HNx3.out (.string (mk f.body))))
  refine hK.out _ _ hq4 (fun hHeld => ?_)
  clear hK K g15_41 z15_41
  try simp only [Act.put, List.getElem_toArray, List.getElem_cons_zero, List.getElem_cons_succ, List.setIfInBounds_toArray, List.set_cons_succ, List.set_cons_zero]
  obtain ⟨wy4, hwy4⟩ : ∃ x, (wy3.setCell ⟨B3, 41, none⟩ (.string (mk f.body))) = x := ⟨_, rfl⟩
  rw [hwy4] at hq4 HNx4 hHeld ⊢
  refine wpAnyH_done (by kernel_rfl) ?_ _
  simp only [noPanic]
  clear hHeld
  go_upto_region 13 with fail
  have HN4 := hid (eq_rowFOnly2 HNx4.out HEQ.out)
  have HN5 := hid ((hq4.block (w.heap.size + 1) HG3.out).trans HN2.out)
  have HB4 := hid (show Below w.heap.size w wy4 from below_tr HB3.out (hq4.mono (by have := HLB.out; omega)))
  obtain ⟨FO, HFO⟩ : ∃ L, Hid (fcells (ownF f) (ownV f (.slice ao nn cc)) = L) := ⟨_, rfl⟩
  rw [HFO.out] at HSZ HON HOS HN4
  go_wp2_with (first
    | (refine ld_row (by rfl) 30 (.tmp 3) (by rfl) B3 (by rfl) FO 30 HN4.out _ Tryz.underlying30 rfl HSZ.out ?_)
    | (refine st_row (by rfl) 30 _ _ (by rfl) (w.heap.size + 1) FO (by rfl) (by rfl) 30 _ HN5.out HSZ.out HOS.out HON.out ?_; intro w5 hw5))
  refine ret_row 2 30 rfl (w.heap.size + 1) rfl FO 30 hw5.blk _ Tryz.underlying30 rfl HSZ.out rfl ⟨by rw [HFO.out], Below.of_gb HB4.out hw5.grown (by omega)⟩

end Go.Proofs.YtiibhccbbpgehaaGreat

/- The document's only: a frame with just the fields that its kind has. -/
namespace Go.Proofs.YtiibhccbbpgehaaGreat
open Go.RowKit Go.BigFrame

theorem eq_rowFOnly3 {w : World} {g : Nat} {a b : Array Value} {t : TypeId} (h : w.heap[g]? = some (.cells a t (0, 0))) (e : a = b) : w.heap[g]? = some (.cells b t (0, 0)) := by rw [← e]; exact h

theorem built_b3 : Tryz.prog.built 30 [(0, .int .i64 3)] = some (fcells ⟨3, 0, 0, 0, List.replicate 32 0, 0, (0, 0, 0), [], []⟩ nS).toArray := by kernel_rfl

set_option maxRecDepth 100000 in
set_option maxHeartbeats 4000000 in
theorem only3_any (f : Fr) (va : Value) (w : World) (hk : f.kind = 3) (hf : f.tool.length = 32) (hv : ∃ ao n c, va = .slice ao n c) :
    Calls Tryz.prog 90 #[.agg (fcells f va).toArray] w fun e w' => e = .returned (.agg (fcells (ownF f) (ownV f va)).toArray) ∧ Below w.heap.size w w' := by
  obtain ⟨ao, nn, cc, rfl⟩ := hv
  have HNB := hid (hp_two w (.cells (fcells f (.slice ao nn cc)).toArray 30) (.cells (fcells zF nS).toArray 30))
  have HBL := hid (below_walk2 w (.cells (fcells f (.slice ao nn cc)).toArray 30) (.cells (fcells zF nS).toArray 30))
  have HZ : Hid ((w.alloc (.cells (fcells f (.slice ao nn cc)).toArray 30)).heap.size = w.heap.size + 1) := hid (by simp)
  have HOW : Hid (fcells (ownF f) (ownV f (.slice ao nn cc)) = fcells (ownF f) (ownV f (.slice ao nn cc))) := hid rfl
  have HOT := hid (ownF_tool f hf)
  have HSZ := hid (frame_size (ownF f) (ownV f (.slice ao nn cc)) HOT.out)
  have HON := hid (fcells_one (ownF f) (ownV f (.slice ao nn cc)) (by unfold ownV; split <;> rfl))
  have HOS := hid (show (fcells zF nS).toArray.size = (fcells (ownF f) (ownV f (.slice ao nn cc))).length by rw [fcells_length _ _ HOT.out]; rfl)
  have HSB := hid (frame_size ⟨3, 0, 0, 0, List.replicate 32 0, 0, (0, 0, 0), [], []⟩ nS rfl)
  have HEQ : Hid (((((fcells ⟨3, 0, 0, 0, List.replicate 32 0, 0, (0, 0, 0), [], []⟩ nS).toArray.setIfInBounds 1 (.int .u64 f.id)).setIfInBounds 36 (.int .i64 f.status)).setIfInBounds 41 (.string (mk f.body))) = (fcells (ownF f) (ownV f (.slice ao nn cc))).toArray) := hid (by
    unfold ownF ownV
    rw [if_neg (show ¬ f.kind = 1 by omega), if_neg (show ¬ f.kind = 2 by omega), if_pos hk, if_neg (show ¬ f.kind = 2 by omega)]
    rfl)
  have HK := hid hk
  have HF := hid hf
  clear hk hf HOW
  go_enter Tryz.func90, Tryz.ntmps90
  go_upto_region 1 with (refine al_row (by rfl) 30 (by rfl) _ zeroFrame ?_)
  try rw [HZ.out]
  generalize (w.alloc (.cells (fcells f (.slice ao nn cc)).toArray 30)).alloc (.cells (fcells zF nS).toArray 30) = w2 at HNB HBL ⊢
  have x0 := (Fb.of HNB.out.1 HF.out).k
  rw [HK.out] at x0
  have HL2 := hid (hp_lt HNB.out.2)
  go_upto_region 2 with (first
    | (refine bd_row (by rfl) 30 #[(0, .tmp 5)] (by rfl) _ (by simp [Act.eval]) _ built_b3 ?_)
    | (refine al_row (by rfl) 30 (by rfl) _ zeroFrame ?_)
    | (refine st_new (by rfl) 30 _ _ (by rfl) (fcells ⟨3, 0, 0, 0, List.replicate 32 0, 0, (0, 0, 0), [], []⟩ nS) (by rfl) (by rfl) 30 _ HSB.out rfl (fcells_one _ nS rfl) ?_))
  have HN1 := hid ((below_walk w2 (.cells (fcells ⟨3, 0, 0, 0, List.replicate 32 0, 0, (0, 0, 0), [], []⟩ nS).toArray 30)).block _ (by have := HL2.out; omega) |>.trans HNB.out.1)
  have HN2 := hid ((below_walk w2 (.cells (fcells ⟨3, 0, 0, 0, List.replicate 32 0, 0, (0, 0, 0), [], []⟩ nS).toArray 30)).block _ HL2.out |>.trans HNB.out.2)
  have HN3 := hid (hp_new w2 (.cells (fcells ⟨3, 0, 0, 0, List.replicate 32 0, 0, (0, 0, 0), [], []⟩ nS).toArray 30))
  have HB3 := hid (below_then HBL.out (below_walk w2 (.cells (fcells ⟨3, 0, 0, 0, List.replicate 32 0, 0, (0, 0, 0), [], []⟩ nS).toArray 30)))
  have HG3 := hid (show w.heap.size + 1 < w2.heap.size from HL2.out)
  obtain ⟨B3, HE3⟩ : ∃ b : Nat, Hid (w2.heap.size = b) := ⟨_, rfl⟩
  rw [HE3.out] at HN3 HG3 ⊢
  generalize w2.alloc (.cells (fcells ⟨3, 0, 0, 0, List.replicate 32 0, 0, (0, 0, 0), [], []⟩ nS).toArray 30) = w3 at HN1 HN2 HN3 HB3 ⊢
  clear x0 HNB HBL HL2
  have HFB := hid (Fb.of HN1.out HF.out)
  have HFC := hid (Fb.of HN3.out (show (⟨3, 0, 0, 0, List.replicate 32 0, 0, (0, 0, 0), [], []⟩ : Fr).tool.length = 32 from rfl))
  have x1 := HFB.out.k
  rw [HK.out] at x1
  have y_i := HFB.out.i
  have y_st := HFB.out.st
  have y_bd := HFB.out.bd
  have c_i := HFC.out.i
  have c_st := HFC.out.st
  have c_bd := HFC.out.bd
  have f_1 := row_fz HN3.out 1
  have f_36 := row_fz HN3.out 36
  have f_41 := row_fz HN3.out 41
  have ne1 : ¬ w.heap.size = B3 := by have := HG3.out; omega
  have ne2 : ¬ B3 = w.heap.size := by have := HG3.out; omega
  go_upto_region 8 with fail
  go_region
  go_upto_region 13 with fail
  have HN4 := hid (show (((w3.setCell ⟨B3, 1, none⟩ (.int .u64 f.id)).setCell ⟨B3, 36, none⟩ (.int .i64 f.status)).setCell ⟨B3, 41, none⟩ (.string (mk f.body))).drew.heap[B3]? = some (.cells (fcells (ownF f) (ownV f (.slice ao nn cc))).toArray 30 (0, 0)) from eq_rowFOnly3 (blk_set (blk_set (blk_set HN3.out (.int .u64 f.id)) (.int .i64 f.status)) (.string (mk f.body))) HEQ.out)
  have HN5 := hid (show (((w3.setCell ⟨B3, 1, none⟩ (.int .u64 f.id)).setCell ⟨B3, 36, none⟩ (.int .i64 f.status)).setCell ⟨B3, 41, none⟩ (.string (mk f.body))).drew.heap[w.heap.size + 1]? = some (.cells (fcells zF nS).toArray 30 (0, 0)) from ((Below.heap_setCell _ _ _ (w.heap.size + 1) (by have := HG3.out; simp; omega)).trans ((Below.heap_setCell _ _ _ (w.heap.size + 1) (by have := HG3.out; simp; omega)).trans ((Below.heap_setCell _ _ _ (w.heap.size + 1) (by have := HG3.out; simp; omega)).trans HN2.out))))
  have HB4 := hid (show Below w.heap.size w (((w3.setCell ⟨B3, 1, none⟩ (.int .u64 f.id)).setCell ⟨B3, 36, none⟩ (.int .i64 f.status)).setCell ⟨B3, 41, none⟩ (.string (mk f.body))).drew from below_then (((HB3.out.setCell (p := ⟨B3, 1, none⟩) (by show w.heap.size ≤ B3; have := HG3.out; omega) _).setCell (p := ⟨B3, 36, none⟩) (by show w.heap.size ≤ B3; have := HG3.out; omega) _).setCell (p := ⟨B3, 41, none⟩) (by show w.heap.size ≤ B3; have := HG3.out; omega) _) ⟨rfl, rfl, rfl, Nat.le_refl _, fun _ _ => rfl⟩)
  generalize (((w3.setCell ⟨B3, 1, none⟩ (.int .u64 f.id)).setCell ⟨B3, 36, none⟩ (.int .i64 f.status)).setCell ⟨B3, 41, none⟩ (.string (mk f.body))).drew = w4 at HN4 HN5 HB4 ⊢
  obtain ⟨FO, HFO⟩ : ∃ L, Hid (fcells (ownF f) (ownV f (.slice ao nn cc)) = L) := ⟨_, rfl⟩
  rw [HFO.out] at HSZ HON HOS HN4
  go_wp2_with (first
    | (refine ld_row (by rfl) 30 (.tmp 3) (by rfl) B3 (by rfl) FO 30 HN4.out _ Tryz.underlying30 rfl HSZ.out ?_)
    | (refine st_row (by rfl) 30 _ _ (by rfl) (w.heap.size + 1) FO (by rfl) (by rfl) 30 _ HN5.out HSZ.out HOS.out HON.out ?_; intro w5 hw5))
  refine ret_row 2 30 rfl (w.heap.size + 1) rfl FO 30 hw5.blk _ Tryz.underlying30 rfl HSZ.out rfl ⟨by rw [HFO.out], Below.of_gb HB4.out hw5.grown (by omega)⟩

end Go.Proofs.YtiibhccbbpgehaaGreat
