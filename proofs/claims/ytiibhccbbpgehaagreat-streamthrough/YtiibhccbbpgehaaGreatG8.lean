/- Contracts and pure facts that the proof needs, joined. -/
import Derived.Test.YtiibhccbbpgehaaGreatG1
import Derived.Lib.SmallJoins
import Derived.Test.YtiibhccbbpgehaaGreatG6
import Derived.Test.YtiibhccbbpgehaaGreatG4
import Derived.Test.YtiibhccbbpgehaaGreatG3
import Derived.Test.YtiibhccbbpgehaaGreatG2
import Derived.Test.YtiibhccbbpgehaaGreatG7
import Derived.Test.YtiibhccbbpgehaaGreatG5
import Derived.Deep.Cut
import Derived.Deep.CutRange

/- A struct of four, out of its reading. -/

/- What was written is read back, plainly. -/
namespace Go.Proofs.YtiibhccbbpgehaaGreat
open Go.RowKit

theorem drop_on {bs x r : List UInt8} {a : Nat} (h : bs.drop a = x ++ r) : bs.drop (a + x.length) = r := by
  rw [← List.drop_drop, h]
  exact List.drop_left' rfl
theorem u_back (bs r : List UInt8) (a n : Nat) (T : Int) (h : bs.drop a = sn n ++ r) (hn : n < 18446744073709551616) : uS bs (a, 0, T) = (n, a + (sn n).length, 0, T) := by
  unfold uS uintF
  rw [if_neg (by simp), h, dec_sn n r hn]
  simp [watOf]
theorem c_back (bs r : List UInt8) (a n : Nat) (m T : Int) (h : bs.drop a = sn n ++ r) (hm : (n : Int) ≤ m) (hn : n < 18446744073709551616) : cS bs m (a, 0, T) = (n, a + (sn n).length, 0, T) := by
  unfold cS countF
  have hu := upTo_of (most := m.toNat) (t := 11) (dec_sn n r hn) (by omega)
  rw [if_neg (by simp), if_neg (by omega), h, hu]
  simp [watOf]
theorem c_over (bs r : List UInt8) (a n : Nat) (m T : Int) (h : bs.drop a = sn n ++ r) (h0 : 0 ≤ m) (hm : m < (n : Int)) (hn : n < 18446744073709551616) : cS bs m (a, 0, T) = (0, a, 11, (a : Int)) := by
  have hu : upTo (sn n ++ r) m.toNat 11 = (11, 0, 0) := by
    unfold upTo
    rw [dec_sn n r hn]
    simp only
    rw [if_neg (by simp), if_pos (by omega)]
  unfold cS countF
  rw [if_neg (by simp), if_neg (by omega), h, hu]
  simp [watOf]
theorem o_back (bs r : List UInt8) (a n : Nat) (m T : Int) (h : bs.drop a = sn n ++ r) (h1 : 1 ≤ n) (hm : (n : Int) ≤ m) (hn : n < 18446744073709551616) : oS bs m (a, 0, T) = (n, a + (sn n).length, 0, T) := by
  unfold oS
  rw [c_back bs r a n m T h hm hn, if_neg (by simp; omega)]
theorem t_back (bs r : List UInt8) (a : Nat) (t : List UInt8) (m T : Int) (h : bs.drop a = tx (mk t) ++ r) (hm : (t.length : Int) ≤ m) (hn : t.length < 18446744073709551616) : tS bs m (a, 0, T) = (t, a + (tx (mk t)).length, 0, T) := by
  have hb := txt_back t r m.toNat hn (by omega)
  have e : tx (mk t) ++ r = sn t.length ++ (t ++ r) := by rw [tx_mk, List.append_assoc]
  unfold tS textF
  rw [if_neg (by simp), if_neg (by omega), h, e, hb, tx_mk, List.length_append]
  simp [watOf]
theorem l_back (bs r : List UInt8) (a : Nat) (ts : List (List UInt8)) (T : Int) (h : bs.drop a = ls (ts.map mk) ++ r) (hn : ts.length ≤ 8) (he : ∀ t ∈ ts, t.length ≤ 4096) : lS bs 8 4096 (a, 0, T) = (ts, a + (ls (ts.map mk)).length, 0, T) := by
  have e1 : ls (ts.map mk) ++ r = sn ts.length ++ (txs (ts.map mk) ++ r) := by unfold ls; simp
  have hu := upTo_of (most := 8) (t := 11) (dec_sn ts.length (txs (ts.map mk) ++ r) (by omega)) hn
  have hdr : (sn ts.length ++ (txs (ts.map mk) ++ r)).drop (sn ts.length).length = txs (ts.map mk) ++ r := by simp
  have hl : lst (bs.drop a) 8 4096 = (0, ts, (ls (ts.map mk)).length) := by
    rw [h]
    unfold lst
    rw [e1, hu]
    simp only
    rw [if_neg (by simp), hdr, lstR_back ts r 4096 he (by omega)]
    unfold ls
    simp
  unfold lS listF
  rw [if_neg (by simp), if_neg (by omega), show (8 : Int).toNat = 8 from rfl, show (4096 : Int).toNat = 4096 from rfl, hl]
  simp
theorem r_back (bs r : List UInt8) (a : Nat) (t : List UInt8) (T : Int) (h : bs.drop a = t ++ r) (ht : t.length = 32) : rS bs 32 (a, 0, T) = (t, a + 32, 0, T) := by
  have hl : 32 ≤ bs.length - a := by
    have := congrArg List.length h
    rw [List.length_drop, List.length_append] at this
    omega
  unfold rS rawF
  rw [if_neg (by simp), if_neg (by omega), show (32 : Int).toNat = 32 from rfl, if_neg (by omega), h, List.take_left' ht]
theorem e_back (bs : List UInt8) (a : Nat) (T : Int) (h : bs.drop a = []) : eS bs (a, 0, T) = (0, T) := by
  unfold eS
  rw [if_neg (by simp), if_neg (by have := List.drop_eq_nil_iff.1 h; show ¬ a < bs.length; omega)]
theorem eS_over (bs : List UInt8) (s : St) (h : s.2.1 ≠ 0) : eS bs s = s.2 := by
  unfold eS
  rw [if_pos h]
/-- limits that are read -/
def limOk (f : Fr) : Bool := decide (f.lim.1 ≤ 2147483648 ∧ f.lim.2.1 ≤ 2147483648 ∧ f.lim.2.2 ≤ 2147483648)
theorem nat_lt {x : Int} (h : x ≤ 9223372036854775807) : x.toNat < 18446744073709551616 := by omega

/-- the fields of a frame that may be, read back -/
theorem fields_back (bs : List UInt8) (f : Fr) (a : Nat) (hr : Rng f) (ho : okFr f = true) (hB : f.body.length ≤ 2097152) (h : bs.drop a = layP f) (hlim : limOk f = true) :
    ∃ a', fieldsP bs f.kind (a, 0, 0) = (f, a', 0, 0) ∧ bs.drop a' = [] := by
  obtain ⟨hk, hsm, hm⟩ := okFr_of ho
  have e := same_eq hsm
  have hid : f.id.toNat < 18446744073709551616 := by have := hr.idh; omega
  have eid : ((f.id.toNat : Nat) : Int) = f.id := (toNat_eq hr.idl).symm
  have hL := of_decide_eq_true hlim
  have hc : f.kind = 1 ∨ f.kind = 2 ∨ f.kind = 3 ∨ f.kind = 4 ∨ f.kind = 5 ∨ f.kind = 6 := by omega
  rcases hc with k | k | k | k | k | k
  · rw [mayF_1 f k] at hm
    have m := mayHello_of hm
    rw [lay_1 f k, sns_two, List.append_assoc] at h
    rw [own_1 f k] at e
    have o1 := o_back bs _ a f.ver.toNat 1 0 h (by omega) (by omega) (by omega)
    have h2 := drop_on h
    have o2 := o_back bs _ _ f.slots.toNat 64 0 h2 (by omega) (by omega) (by omega)
    have h3 := drop_on h2
    have r3 := r_back bs [] _ f.tool 0 (by rw [List.append_nil]; exact h3) hr.tool
    have h4 : bs.drop (a + (sn f.ver.toNat).length + (sn f.slots.toNat).length + f.tool.length) = [] := drop_on (by rw [List.append_nil]; exact h3)
    rw [hr.tool] at h4
    refine ⟨_, ?_, h4⟩
    rw [k, fieldsP_1, o1]
    dsimp only
    rw [o2]
    dsimp only
    rw [r3]
    dsimp only
    have hp : pad32 f.tool = f.tool := by unfold pad32; rw [if_pos hr.tool]
    rw [hp, show ((f.ver.toNat : Nat) : Int) = f.ver from (toNat_eq (by omega)).symm, show ((f.slots.toNat : Nat) : Int) = f.slots from (toNat_eq (by omega)).symm, ← e]
  · rw [mayF_2 f k] at hm
    have m := mayReq_of hm
    rw [lay_2 f k] at h
    unfold layReqP at h
    rw [sns_thr] at h
    simp only [List.append_assoc] at h
    rw [own_2 f k] at e
    have l1 := hr.l1
    have l2 := hr.l2
    have l3 := hr.l3
    have o1 := u_back bs _ a f.id.toNat 0 h hid
    have h2 := drop_on h
    have o2 := c_back bs _ _ f.lim.1.toNat 2147483648 0 h2 (by omega) (by omega)
    have h3 := drop_on h2
    have o3 := c_back bs _ _ f.lim.2.1.toNat 2147483648 0 h3 (by omega) (by omega)
    have h4 := drop_on h3
    have o4 := c_back bs _ _ f.lim.2.2.toNat 2147483648 0 h4 (by omega) (by omega)
    have h5 := drop_on h4
    have o5 := l_back bs _ _ f.args 0 h5 m.2.2.2.1 (long_all m.2.2.2.2)
    have h6 := drop_on h5
    have o6 := t_back bs [] _ f.body 2097152 0 (by rw [List.append_nil]; exact h6) (by omega) (by omega)
    have h7 := drop_on (x := tx (mk f.body)) (r := []) (by rw [List.append_nil]; exact h6)
    refine ⟨_, ?_, h7⟩
    rw [k, fieldsP_2, o1]
    dsimp only
    rw [o2]
    dsimp only
    rw [o3]
    dsimp only
    rw [o4]
    dsimp only
    rw [o5]
    dsimp only
    rw [o6]
    dsimp only
    rw [eid, show ((f.lim.1.toNat : Nat) : Int) = f.lim.1 from (toNat_eq (by omega)).symm, show ((f.lim.2.1.toNat : Nat) : Int) = f.lim.2.1 from (toNat_eq (by omega)).symm, show ((f.lim.2.2.toNat : Nat) : Int) = f.lim.2.2 from (toNat_eq (by omega)).symm]
    exact congrArg (fun x => (x, _)) e.symm
  · rw [mayF_3 f k] at hm
    have m := mayRes_of hm
    rw [lay_3 f k, sns_one] at h
    rw [own_3 f k] at e
    have o1 := u_back bs _ a f.id.toNat 0 h hid
    have h2 := drop_on h
    have o2 := o_back bs _ _ f.status.toNat 3 0 h2 (by omega) (by omega) (by omega)
    have h3 := drop_on h2
    have o6 := t_back bs [] _ f.body 2097152 0 (by rw [List.append_nil]; exact h3) (by omega) (by omega)
    have h7 := drop_on (x := tx (mk f.body)) (r := []) (by rw [List.append_nil]; exact h3)
    refine ⟨_, ?_, h7⟩
    rw [k, fieldsP_3, o1]
    dsimp only
    rw [o2]
    dsimp only
    rw [o6]
    dsimp only
    rw [eid, show ((f.status.toNat : Nat) : Int) = f.status from (toNat_eq (by omega)).symm]
    exact congrArg (fun x => (x, _)) e.symm
  · rw [lay_4 f k] at h
    rw [own_4 f k] at e
    have o1 := u_back bs [] a f.id.toNat 0 (by rw [List.append_nil]; exact h) hid
    have h7 := drop_on (x := sn f.id.toNat) (r := []) (by rw [List.append_nil]; exact h)
    refine ⟨_, ?_, h7⟩
    rw [k, fieldsP_4, o1]
    dsimp only
    rw [eid]
    exact congrArg (fun x => (x, _)) e.symm
  · rw [lay_5 f k] at h
    rw [own_5 f k] at e
    refine ⟨a, ?_, h⟩
    rw [k, fieldsP_5]
    exact congrArg (fun x => (x, _)) e.symm
  · rw [lay_6 f k] at h
    rw [own_6 f k] at e
    have o6 := t_back bs [] _ f.body 2097152 0 (by rw [List.append_nil]; exact h) (by omega) (by omega)
    have h7 := drop_on (x := tx (mk f.body)) (r := []) (by rw [List.append_nil]; exact h)
    refine ⟨_, ?_, h7⟩
    rw [k, fieldsP_6, o6]
    dsimp only
    exact congrArg (fun x => (x, _)) e.symm
/-- limits that are too great are told -/
theorem fields_over (bs : List UInt8) (f : Fr) (a : Nat) (hr : Rng f) (ho : okFr f = true) (h : bs.drop a = layP f) (hlim : limOk f = false) :
    (eS bs (fieldsP bs f.kind (a, 0, 0)).2).1 = 11 := by
  obtain ⟨hk, hsm, hm⟩ := okFr_of ho
  have e := same_eq hsm
  have hid : f.id.toNat < 18446744073709551616 := by have := hr.idh; omega
  have hL : ¬ (f.lim.1 ≤ 2147483648 ∧ f.lim.2.1 ≤ 2147483648 ∧ f.lim.2.2 ≤ 2147483648) := of_decide_eq_false hlim
  have hc : f.kind = 1 ∨ f.kind = 2 ∨ f.kind = 3 ∨ f.kind = 4 ∨ f.kind = 5 ∨ f.kind = 6 := by omega
  have zero : f.lim = (0, 0, 0) → False := fun h9 => hL (by rw [h9]; simp)
  rcases hc with k | k | k | k | k | k
  · rw [own_1 f k] at e
    exact absurd (congrArg Fr.lim e) zero
  · rw [mayF_2 f k] at hm
    have m := mayReq_of hm
    rw [lay_2 f k] at h
    unfold layReqP at h
    rw [sns_thr] at h
    simp only [List.append_assoc] at h
    have l1 := hr.l1
    have l2 := hr.l2
    have l3 := hr.l3
    have o1 := u_back bs _ a f.id.toNat 0 h hid
    have h2 := drop_on h
    rw [k, fieldsP_2, o1]
    dsimp only
    by_cases g1 : f.lim.1 ≤ 2147483648
    · have o2 := c_back bs _ _ f.lim.1.toNat 2147483648 0 h2 (by omega) (by omega)
      have h3 := drop_on h2
      rw [o2]
      dsimp only
      by_cases g2 : f.lim.2.1 ≤ 2147483648
      · have o3 := c_back bs _ _ f.lim.2.1.toNat 2147483648 0 h3 (by omega) (by omega)
        have h4 := drop_on h3
        rw [o3]
        dsimp only
        have o4 := c_over bs _ _ f.lim.2.2.toNat 2147483648 0 h4 (by omega) (by omega) (by omega)
        rw [o4]
        dsimp only
        rw [over_l _ _ _ _ (by show (11 : Int) ≠ 0; decide)]
        dsimp only
        rw [over_t _ _ _ (by show (11 : Int) ≠ 0; decide), eS_over _ _ (by show (11 : Int) ≠ 0; decide)]
      · have o3 := c_over bs _ _ f.lim.2.1.toNat 2147483648 0 h3 (by omega) (by omega) (by omega)
        rw [o3]
        dsimp only
        rw [over_c _ _ _ (by show (11 : Int) ≠ 0; decide)]
        dsimp only
        rw [over_l _ _ _ _ (by show (11 : Int) ≠ 0; decide)]
        dsimp only
        rw [over_t _ _ _ (by show (11 : Int) ≠ 0; decide), eS_over _ _ (by show (11 : Int) ≠ 0; decide)]
    · have o2 := c_over bs _ _ f.lim.1.toNat 2147483648 0 h2 (by omega) (by omega) (by omega)
      rw [o2]
      dsimp only
      rw [over_c _ _ _ (by show (11 : Int) ≠ 0; decide)]
      dsimp only
      rw [over_c _ _ _ (by show (11 : Int) ≠ 0; decide)]
      dsimp only
      rw [over_l _ _ _ _ (by show (11 : Int) ≠ 0; decide)]
      dsimp only
      rw [over_t _ _ _ (by show (11 : Int) ≠ 0; decide), eS_over _ _ (by show (11 : Int) ≠ 0; decide)]
  · rw [own_3 f k] at e
    exact absurd (congrArg Fr.lim e) zero
  · rw [own_4 f k] at e
    exact absurd (congrArg Fr.lim e) zero
  · rw [own_5 f k] at e
    exact absurd (congrArg Fr.lim e) zero
  · rw [own_6 f k] at e
    exact absurd (congrArg Fr.lim e) zero

/-- how many bytes a frame's bytes say that they are, whatever comes behind -/
theorem need_enc (f : Fr) (h : chkE f = 0) (r : List UInt8) : needP (encP f ++ r) = ((encP f).length, (sn (bodyP f).length).length, 0) := by
  obtain ⟨ho, hl⟩ := chk_ok h
  have hk := (okFr_of ho).1
  have hb : 1 ≤ (bodyP f).length := by unfold bodyP; rw [List.length_append]; have := sn_length_pos f.kind.toNat; omega
  have e : encP f ++ r = sn (bodyP f).length ++ (bodyP f ++ (le4 (sumP (sn (bodyP f).length ++ bodyP f)) ++ r)) := by
    unfold encP sealP
    simp only [List.append_assoc]
  have hd : dec (encP f ++ r) 0 0 = (0, (bodyP f).length, (sn (bodyP f).length).length) := by rw [e]; exact dec_sn _ _ (by omega)
  have el : (encP f).length = (sn (bodyP f).length).length + (bodyP f).length + 4 := by
    unfold encP
    rw [sealP_length, List.length_append]
  unfold needP
  rw [hd]
  simp only
  rw [if_neg (by omega), if_neg (by omega), if_neg (by omega), if_neg (by omega), el]
theorem cok_enc (x : List UInt8) : cokP (sealP x) = true := by
  unfold cokP
  refine decide_eq_true ?_
  rw [sealP_length, show x.length + 4 - 4 = x.length by omega]
  unfold sealP
  rw [List.drop_left' rfl, List.take_left' rfl]
/-- what was written is read back -/
theorem dec_enc (f : Fr) (hr : Rng f) (h : chkE f = 0) : if limOk f = true then decP (encP f) = (f, 0, 0) else (decP (encP f)).1 = zF ∧ (decP (encP f)).2.1 = 11 := by
  obtain ⟨ho, hl⟩ := chk_ok h
  have hk := (okFr_of ho).1
  have hn := need_enc f h []
  rw [List.append_nil] at hn
  have hu : unsE (encP f) = (0, 0) := by
    unfold unsE
    rw [hn]
    simp only
    have hb := sn_length_pos (bodyP f).length
    have el : (encP f).length = (sn (bodyP f).length).length + (bodyP f).length + 4 := by
      unfold encP
      rw [sealP_length, List.length_append]
    rw [if_neg (by omega), if_neg (by omega), if_neg (by omega), if_pos (show cokP (encP f) = true from cok_enc _)]
  have ei : (encP f).take ((encP f).length - 4) = sn (bodyP f).length ++ bodyP f := by
    unfold encP
    rw [sealP_length, show (sn (bodyP f).length ++ bodyP f).length + 4 - 4 = (sn (bodyP f).length ++ bodyP f).length by omega]
    unfold sealP
    exact List.take_left' rfl
  have hd : decP (encP f) = frameP (sn (bodyP f).length ++ bodyP f) (sn (bodyP f).length).length := by
    rw [decP_uns, hu, if_neg (by simp), ei, hn]
  rw [hd]
  obtain ⟨bs, hbs⟩ : ∃ bs, sn (bodyP f).length ++ bodyP f = bs := ⟨_, rfl⟩
  obtain ⟨hd0, hhd⟩ : ∃ n, (sn (bodyP f).length).length = n := ⟨_, rfl⟩
  have hdr : bs.drop hd0 = sn f.kind.toNat ++ layP f := by
    rw [← hbs, ← hhd, List.drop_left' rfl]
    rfl
  rw [hbs, hhd]
  have hkn : f.kind = ((f.kind.toNat : Nat) : Int) := toNat_eq (by omega)
  have o1 := o_back bs _ hd0 f.kind.toNat 6 0 hdr (by omega) (by omega) (by omega)
  have h2 := drop_on hdr
  have hK : (oS bs 6 (hd0, 0, 0)).1 = f.kind.toNat := by rw [o1]
  have hBl : f.body.length ≤ 2097152 := by
    rcases Nat.lt_or_ge 2097152 f.body.length with h9 | h9
    · exfalso
      have hc : (f.kind = 1 ∨ f.kind = 4 ∨ f.kind = 5) ∨ (f.kind = 2 ∨ f.kind = 3 ∨ f.kind = 6) := by omega
      rcases hc with k | k
      · rw [same_own_body (okFr_of ho).2.1 k] at h9
        simp at h9
      · have := body_le f k hl
        omega
    · exact h9
  cases hlim : limOk f with
  | true =>
    rw [if_pos rfl]
    obtain ⟨a', hf, hz⟩ := fields_back bs f _ hr ho hBl h2 hlim
    have hf2 : fieldsP bs ((f.kind.toNat : Nat) : Int) (oS bs 6 (hd0, 0, 0)).2 = (f, a', 0, 0) := by rw [o1, ← hkn]; exact hf
    rw [frameP_ok bs hd0 f.kind.toNat hK (by omega) (by rw [hf2, e_back bs a' 0 hz]) (by rw [hf2]; exact (okFr_of ho).2.2), hf2]
  | false =>
    rw [if_neg (by decide)]
    have hf := fields_over bs f _ hr ho h2 hlim
    have hf2 : (eS bs (fieldsP bs ((f.kind.toNat : Nat) : Int) (oS bs 6 (hd0, 0, 0)).2).2).1 = 11 := by rw [o1, ← hkn]; exact hf
    rw [frameP_bad bs hd0 f.kind.toNat hK (by omega) (by rw [hf2]; decide)]
    exact ⟨rfl, hf2⟩
/-- no beginning of a frame's bytes is a frame -/
theorem dec_cut (f : Fr) (h : chkE f = 0) (c : Nat) (hc : c < (encP f).length) : decP ((encP f).take c) = (zF, 4, (c : Int)) := by
  obtain ⟨ho, hl⟩ := chk_ok h
  have hn := need_enc f h []
  rw [List.append_nil] at hn
  have hlen : ((encP f).take c).length = c := by rw [List.length_take]; omega
  have hdf : dec (encP f) 0 0 = (0, (bodyP f).length, (sn (bodyP f).length).length) := by
    have e : encP f = sn (bodyP f).length ++ (bodyP f ++ le4 (sumP (sn (bodyP f).length ++ bodyP f))) := by
      unfold encP sealP
      simp only [List.append_assoc]
    rw [e]
    exact dec_sn _ _ (by omega)
  have hu : unsE ((encP f).take c) = (4, (c : Int)) := by
    rcases dec_begin (encP f) c 0 0 with hb | hb
    · have hn2 : needP ((encP f).take c) = needP (encP f) := by unfold needP; rw [hb]
      unfold unsE
      rw [hn2, hn]
      simp only
      rw [if_neg (by omega), if_pos (by right; rw [hlen]; exact hc), hlen]
    · have hn2 : needP ((encP f).take c) = (0, 0, 0) := by unfold needP; rw [hb]; rfl
      unfold unsE
      rw [hn2]
      simp only
      rw [if_neg (by omega), if_pos (by left; trivial), hlen]
  rw [decP_uns, hu, if_pos (by show (4 : Int) ≠ 0; decide)]
end Go.Proofs.YtiibhccbbpgehaaGreat

/- Frames that are laid one behind the other come out one by one; frames that came out are the bytes that came. -/
namespace Go.Proofs.YtiibhccbbpgehaaGreat
open Go.RowKit

/-- frames told, and the rest, are the bytes that came -/
theorem takeC_bytes (M : Nat) (s : Sx) (X : List UInt8) : fl ((takeC M s X).2.map encP) ++ (takeC M s X).1.r = s.r ++ X ∧ ∀ f ∈ (takeC M s X).2, chkE f = 0 := by
  unfold takeC
  by_cases h1 : (needM M (s.r ++ X)).2 ≠ 0
  · rw [if_pos h1]
    exact ⟨rfl, fun f hf => by cases hf⟩
  · rw [if_neg h1]
    by_cases h2 : (needM M (s.r ++ X)).1 = 0 ∨ (s.r ++ X).length < (needM M (s.r ++ X)).1
    · rw [if_pos h2]
      exact ⟨rfl, fun f hf => by cases hf⟩
    · rw [if_neg h2]
      by_cases h3 : (decP (s.r ++ X)).2.1 ≠ 0
      · rw [if_pos h3]
        exact ⟨rfl, fun f hf => by cases hf⟩
      · rw [if_neg h3]
        obtain ⟨e1, e2, _⟩ := dec_form (s.r ++ X) (by omega)
        refine ⟨?_, fun f hf => by simp at hf; rw [hf]; exact e1⟩
        show fl [encP (decP (s.r ++ X)).1] ++ [] = s.r ++ X
        rw [e2]
        simp [fl]
theorem enc_len (f : Fr) : (encP f).length = (sn (bodyP f).length).length + (bodyP f).length + 4 := by
  unfold encP
  rw [sealP_length, List.length_append]
theorem needM_cut (f : Fr) (h : chkE f = 0) (j : Nat) : needM 2097152 ((encP f).take j) = (0, 0) ∨ needM 2097152 ((encP f).take j) = ((encP f).length, 0) := by
  obtain ⟨ho, hl⟩ := chk_ok h
  have hn := need_enc f h []
  rw [List.append_nil] at hn
  have el := enc_len f
  rcases dec_begin (encP f) j 0 0 with hb | hb
  · right
    have hn2 : needP ((encP f).take j) = needP (encP f) := by unfold needP; rw [hb]
    unfold needM
    rw [hn2, hn]
    simp only
    rw [if_neg (by simp), if_neg (by omega)]
  · left
    have hn2 : needP ((encP f).take j) = (0, 0, 0) := by unfold needP; rw [hb]; rfl
    unfold needM
    rw [hn2]
    rfl
theorem run_enc_cut (f : Fr) (h : chkE f = 0) (ca wh : Nat) (sz : List Nat) (out : List Fr) (k : Nat) : ∀ j, j < (encP f).length →
    runP 2097152 (fun _ => false) (⟨[], ca, wh, 0, 0, sz⟩, out, k) ((encP f).take j) = (⟨(encP f).take j, ca + j, wh, 0, 0, sz⟩, out, k + j)
  | 0, _ => by simp [runP_nil]
  | j + 1, hj => by
    rw [runP_snoc _ _ _ _ j (by omega), run_enc_cut f h ca wh sz out k j (by omega)]
    have e1 : (encP f).take j ++ [(encP f).getD j 0] = (encP f).take (j + 1) := by
      rw [List.take_succ_eq_append_getElem (by omega), List.getD_eq_getElem?_getD, List.getElem?_eq_getElem (by omega)]
      rfl
    unfold stepQ
    rw [if_neg (by simp)]
    have e2 : takeC 2097152 ⟨(encP f).take j, ca + j, wh, 0, 0, sz⟩ [(encP f).getD j 0] = (⟨(encP f).take (j + 1), ca + (j + 1), wh, 0, 0, sz⟩, []) := by
      unfold takeC
      simp only [e1]
      rcases needM_cut f h (j + 1) with e | e
      · rw [e, if_neg (by simp), if_pos (Or.inl rfl)]
        simp [Nat.add_assoc]
      · rw [e, if_neg (by simp), if_pos (Or.inr (by rw [List.length_take]; simp only; omega))]
        simp [Nat.add_assoc]
    simp only [e2, List.append_nil]
    rfl
/-- a frame's bytes are taken: it comes out -/
theorem run_enc (f : Fr) (hr : Rng f) (h : chkE f = 0) (hlim : limOk f = true) (ca wh : Nat) (sz : List Nat) (out : List Fr) (k : Nat) :
    runP 2097152 (fun _ => false) (⟨[], ca, wh, 0, 0, sz⟩, out, k) (encP f) = (⟨[], ca + (encP f).length, wh + 1, 0, 0, sz ++ [(encP f).length]⟩, out ++ [f], k + (encP f).length) := by
  have el := enc_len f
  obtain ⟨j, hj⟩ : ∃ j, (encP f).length = j + 1 := ⟨(encP f).length - 1, by omega⟩
  have e0 : (encP f).take (j + 1) = encP f := List.take_of_length_le (by omega)
  have hs := runP_snoc 2097152 (fun _ => false) (⟨[], ca, wh, 0, 0, sz⟩, out, k) (encP f) j (by omega)
  rw [e0, run_enc_cut f h ca wh sz out k j (by omega)] at hs
  have e1 : (encP f).take j ++ [(encP f).getD j 0] = encP f := by
    conv => rhs; rw [← e0]
    rw [List.take_succ_eq_append_getElem (by omega), List.getD_eq_getElem?_getD, List.getElem?_eq_getElem (by omega)]
    rfl
  have hd := dec_enc f hr h
  rw [if_pos hlim] at hd
  have hn : needM 2097152 (encP f) = ((encP f).length, 0) := by
    have hn := need_enc f h []
    rw [List.append_nil] at hn
    obtain ⟨ho, hl⟩ := chk_ok h
    unfold needM
    rw [hn]
    simp only
    rw [if_neg (by simp), if_neg (by omega)]
  rw [hs]
  unfold stepQ
  rw [if_neg (by simp)]
  have e2 : takeC 2097152 ⟨(encP f).take j, ca + j, wh, 0, 0, sz⟩ [(encP f).getD j 0] = (⟨[], ca + (encP f).length, wh + 1, 0, 0, sz ++ [(encP f).length]⟩, [f]) := by
    unfold takeC
    simp only [e1]
    rw [hn, if_neg (by simp), if_neg (by simp only; omega), hd, if_neg (by simp)]
    simp only [List.length_cons, List.length_nil, hj]
    simp [Nat.add_assoc]
  simp only [e2, hj]
  simp [Nat.add_assoc]
/-- frames one behind the other -/
theorem run_encs : ∀ (fs : List Fr) (ca wh : Nat) (sz : List Nat) (out : List Fr) (k : Nat), (∀ f ∈ fs, Rng f ∧ chkE f = 0 ∧ limOk f = true) →
    runP 2097152 (fun _ => false) (⟨[], ca, wh, 0, 0, sz⟩, out, k) (fl (fs.map encP)) = (⟨[], ca + (fl (fs.map encP)).length, wh + fs.length, 0, 0, sz ++ fs.map fun f => (encP f).length⟩, out ++ fs, k + (fl (fs.map encP)).length)
  | [], ca, wh, sz, out, k, _ => by simp [fl, runP_nil]
  | f :: fs, ca, wh, sz, out, k, h => by
    obtain ⟨h1, h2, h3⟩ := h f (by simp)
    have e : fl ((f :: fs).map encP) = encP f ++ fl (fs.map encP) := by simp [fl]
    rw [e, runP_app, run_enc f h1 h2 h3, run_encs fs _ _ _ _ _ (fun g hg => h g (by simp [hg]))]
    simp [Nat.add_assoc, Nat.add_comm 1]
end Go.Proofs.YtiibhccbbpgehaaGreat

/- The document's only: a frame with just the fields that its kind has. -/
namespace Go.Proofs.YtiibhccbbpgehaaGreat
open Go.RowKit Go.BigFrame

def setAll (a : Array Value) : Nat → List Value → Array Value
  | _, [] => a
  | o, v :: r => setAll (a.setIfInBounds o v) (o + 1) r
theorem blk_cells {b : Nat} {t : TypeId} : ∀ (cs : List Value) (o : Nat) {w : World} {a : Array Value}, w.heap[b]? = some (.cells a t (0, 0)) → (w.setCells b o cs).heap[b]? = some (.cells (setAll a o cs) t (0, 0))
  | [], _, _, _, h => h
  | _ :: r, o, _, _, h => blk_cells r (o + 1) (blk_set h _)
theorem below_cells {B b : Nat} {w0 : World} (hb : B ≤ b) : ∀ (cs : List Value) (o : Nat) {w : World}, Below B w0 w → Below B w0 (w.setCells b o cs)
  | [], _, _, h => h
  | v :: r, o, _, h => below_cells hb r (o + 1) (h.setCell (p := ⟨b, o, none⟩) hb v)
theorem there_row {w : World} {b : Nat} {a : Array Value} {t : TypeId} (h : w.heap[b]? = some (.cells a t (0, 0))) (o n : Nat) (hn : o + n ≤ a.size) : w.there b o n := fun j hj => by
  refine ⟨?_, row_fz h (o + j)⟩
  rw [cell_of_row w b (o + j) a t (0, 0) h, Array.getElem?_eq_getElem (by omega)]
  rfl
theorem step_store_mid2 {P : Program} {ops : Array Oper} {o : Oper} {a : Act} {w : World} {K : Act → World → Prop} {Q : Exit → Act → World → Prop} {E : Prop} (hgd : o.guard = none) (ty : TypeId) (x y : Operand) (ho : o.op = .store ty x y)
    (b off : Nat) (cs : List Value) (hx : a.eval x = .pointer (some ⟨b, off, none⟩)) (hy : a.eval y = .agg cs.toArray) (ht : w.there b off cs.length) (hi : (P.info? ty).map (·.size) = some cs.length) (h1 : ∀ v ∈ cs, v.oneCell' = true)
    (h : K (a.put o.dst undef) (w.setCells b off cs)) : if Region.wanted o (yielded ops a.tmps) = true then Oper.wp P o a w K Q else E := by
  rw [if_pos (by simp [Region.wanted, hgd])]
  have hrun := run_storeVar_mid (P := P) w b off ty cs.toArray (by simpa using ht) (by simpa using hi) (by simpa using h1)
  unfold Oper.wp execOp
  simp only [ho, hx, hy, Instr.storeAt, Instr.sureAddr, Sem.run_bind, Sem.run_pure, Result.andThen_ok, hrun]
  exact h
theorem heq1_32 (v s : Int) (t0 t1 t2 t3 t4 t5 t6 t7 t8 t9 t10 t11 t12 t13 t14 t15 t16 t17 t18 t19 t20 t21 t22 t23 t24 t25 t26 t27 t28 t29 t30 t31 : UInt8) : setAll ((((fcells ⟨1, 0, 0, 0, List.replicate 32 0, 0, (0, 0, 0), [], []⟩ nS).toArray).setIfInBounds 2 (.int .i64 v)).setIfInBounds 3 (.int .i64 s)) 4 (bytesV [t0, t1, t2, t3, t4, t5, t6, t7, t8, t9, t10, t11, t12, t13, t14, t15, t16, t17, t18, t19, t20, t21, t22, t23, t24, t25, t26, t27, t28, t29, t30, t31]) = (fcells ⟨1, 0, v, s, [t0, t1, t2, t3, t4, t5, t6, t7, t8, t9, t10, t11, t12, t13, t14, t15, t16, t17, t18, t19, t20, t21, t22, t23, t24, t25, t26, t27, t28, t29, t30, t31], 0, (0, 0, 0), [], []⟩ nS).toArray := by kernel_rfl
theorem heq1 (v s : Int) (T : List UInt8) (h : T.length = 32) : setAll ((((fcells ⟨1, 0, 0, 0, List.replicate 32 0, 0, (0, 0, 0), [], []⟩ nS).toArray).setIfInBounds 2 (.int .i64 v)).setIfInBounds 3 (.int .i64 s)) 4 (bytesV T) = (fcells ⟨1, 0, v, s, T, 0, (0, 0, 0), [], []⟩ nS).toArray := by
  obtain ⟨t0, t1, t2, t3, t4, t5, t6, t7, t8, t9, t10, t11, t12, t13, t14, t15, t16, t17, t18, t19, t20, t21, t22, t23, t24, t25, t26, t27, t28, t29, t30, t31, rfl⟩ := list32 h
  exact heq1_32 v s t0 t1 t2 t3 t4 t5 t6 t7 t8 t9 t10 t11 t12 t13 t14 t15 t16 t17 t18 t19 t20 t21 t22 t23 t24 t25 t26 t27 t28 t29 t30 t31
theorem eq_rowFOnly1 {w : World} {g : Nat} {a b : Array Value} {t : TypeId} (h : w.heap[g]? = some (.cells a t (0, 0))) (e : a = b) : w.heap[g]? = some (.cells b t (0, 0)) := by rw [← e]; exact h

theorem built_b1 : Tryz.prog.built 30 [(0, .int .i64 1)] = some (fcells ⟨1, 0, 0, 0, List.replicate 32 0, 0, (0, 0, 0), [], []⟩ nS).toArray := by kernel_rfl

set_option maxRecDepth 100000 in
set_option maxHeartbeats 4000000 in
theorem only1_any (f : Fr) (va : Value) (w : World) (hk : f.kind = 1) (hf : f.tool.length = 32) (hv : ∃ ao n c, va = .slice ao n c) :
    Calls Tryz.prog 90 #[.agg (fcells f va).toArray] w fun e w' => e = .returned (.agg (fcells (ownF f) (ownV f va)).toArray) ∧ Below w.heap.size w w' := by
  obtain ⟨ao, nn, cc, rfl⟩ := hv
  have HNB := hid (hp_two w (.cells (fcells f (.slice ao nn cc)).toArray 30) (.cells (fcells zF nS).toArray 30))
  have HBL := hid (below_walk2 w (.cells (fcells f (.slice ao nn cc)).toArray 30) (.cells (fcells zF nS).toArray 30))
  have HZ : Hid ((w.alloc (.cells (fcells f (.slice ao nn cc)).toArray 30)).heap.size = w.heap.size + 1) := hid (by simp)
  have HOW : Hid (fcells (ownF f) (ownV f (.slice ao nn cc)) = fcells (ownF f) (ownV f (.slice ao nn cc))) := hid rfl
  have HOT := hid (ownF_tool f hf)
  have HSZ := hid (frame_size (ownF f) (ownV f (.slice ao nn cc)) HOT.out)
  have HON := hid (fcells_one (ownF f) (ownV f (.slice ao nn cc)) (by unfold ownV; split <;> rfl))
  have HOS := hid (show (fcells zF nS).toArray.size = (fcells (ownF f) (ownV f (.slice ao nn cc))).length by rw [fcells_length _ _ HOT.out]; rfl)
  have HSB := hid (frame_size ⟨1, 0, 0, 0, List.replicate 32 0, 0, (0, 0, 0), [], []⟩ nS rfl)
  have HEQ : Hid (setAll ((((fcells ⟨1, 0, 0, 0, List.replicate 32 0, 0, (0, 0, 0), [], []⟩ nS).toArray).setIfInBounds 2 (.int .i64 f.ver)).setIfInBounds 3 (.int .i64 f.slots)) 4 (bytesV f.tool) = (fcells (ownF f) (ownV f (.slice ao nn cc))).toArray) := hid (by
    unfold ownF ownV
    rw [if_pos hk, if_neg (show ¬ f.kind = 2 by omega)]
    exact heq1 f.ver f.slots f.tool hf)
  have HK := hid hk
  have HF := hid hf
  clear hk hf HOW
  go_enter Tryz.func90, Tryz.ntmps90
  go_upto_region 1 with (refine al_row (by rfl) 30 (by rfl) _ zeroFrame ?_)
  try rw [HZ.out]
  generalize (w.alloc (.cells (fcells f (.slice ao nn cc)).toArray 30)).alloc (.cells (fcells zF nS).toArray 30) = w2 at HNB HBL ⊢
  have x0 := (Fb.of HNB.out.1 HF.out).k
  rw [HK.out] at x0
  have HL2 := hid (hp_lt HNB.out.2)
  go_upto_region 2 with (first
    | (refine bd_row (by rfl) 30 #[(0, .tmp 5)] (by rfl) _ (by simp [Act.eval]) _ built_b1 ?_)
    | (refine al_row (by rfl) 30 (by rfl) _ zeroFrame ?_)
    | (refine st_new (by rfl) 30 _ _ (by rfl) (fcells ⟨1, 0, 0, 0, List.replicate 32 0, 0, (0, 0, 0), [], []⟩ nS) (by rfl) (by rfl) 30 _ HSB.out rfl (fcells_one _ nS rfl) ?_))
  have HN1 := hid ((below_walk w2 (.cells (fcells ⟨1, 0, 0, 0, List.replicate 32 0, 0, (0, 0, 0), [], []⟩ nS).toArray 30)).block _ (by have := HL2.out; omega) |>.trans HNB.out.1)
  have HN2 := hid ((below_walk w2 (.cells (fcells ⟨1, 0, 0, 0, List.replicate 32 0, 0, (0, 0, 0), [], []⟩ nS).toArray 30)).block _ HL2.out |>.trans HNB.out.2)
  have HN3 := hid (hp_new w2 (.cells (fcells ⟨1, 0, 0, 0, List.replicate 32 0, 0, (0, 0, 0), [], []⟩ nS).toArray 30))
  have HB3 := hid (below_then HBL.out (below_walk w2 (.cells (fcells ⟨1, 0, 0, 0, List.replicate 32 0, 0, (0, 0, 0), [], []⟩ nS).toArray 30)))
  have HG3 := hid (show w.heap.size + 1 < w2.heap.size from HL2.out)
  obtain ⟨B3, HE3⟩ : ∃ b : Nat, Hid (w2.heap.size = b) := ⟨_, rfl⟩
  rw [HE3.out] at HN3 HG3 ⊢
  generalize w2.alloc (.cells (fcells ⟨1, 0, 0, 0, List.replicate 32 0, 0, (0, 0, 0), [], []⟩ nS).toArray 30) = w3 at HN1 HN2 HN3 HB3 ⊢
  clear x0 HNB HBL HL2
  have HFB := hid (Fb.of HN1.out HF.out)
  have HFC := hid (Fb.of HN3.out (show (⟨1, 0, 0, 0, List.replicate 32 0, 0, (0, 0, 0), [], []⟩ : Fr).tool.length = 32 from rfl))
  have x1 := HFB.out.k
  rw [HK.out] at x1
  have HYv := hid HFB.out.v
  have HYs := hid HFB.out.s
  have HYt := hid HFB.out.t
  have HTS := hid (tool_size f.tool HF.out)
  have ne1 : ¬ w.heap.size = B3 := by have := HG3.out; omega
  have ne2 : ¬ B3 = w.heap.size := by have := HG3.out; omega
  go_upto_region 4 with fail
  have HLB := hid (show w.heap.size < B3 by have := HG3.out; omega)
  refine wp_noPanic (wp_region_held_drew (S := fun W => Below B3 w3 W) (by kernel_rfl) ⟨rfl, rfl, rfl, Nat.le_refl _, fun _ _ => rfl⟩ ?_)
  intro hHeld
  refine wpAnyH_take (i := 0) (v := .pointer (some ⟨w.heap.size, 2, none⟩)) rfl (by kernel_rfl) (by kernel_rfl) (by kernel_rfl) (fun _ _ _ h => h) (Or.inl ⟨by rfl, fun W _ => by go_simp⟩) hHeld ?_
  simp only [Act.put, List.getElem_toArray, List.getElem_cons_zero, List.setIfInBounds_toArray, List.set_cons_succ, List.set_cons_zero]
  refine wpAnyH_take (i := 1) (v := .int .i64 f.ver) rfl (by kernel_rfl) (by kernel_rfl) (by kernel_rfl) (fun _ _ _ h => h) (Or.inl ⟨by rfl, fun W hW => by have hcell2 := (hW.cell (p := ⟨w.heap.size, 2, none⟩) HLB.out).trans HYv.out; clear hW; go_simp⟩) hHeld ?_
  simp only [Act.put, List.getElem_toArray, List.getElem_cons_zero, List.getElem_cons_succ, List.setIfInBounds_toArray, List.set_cons_succ, List.set_cons_zero]
  refine wpAnyH_take (i := 2) (v := .pointer (some ⟨w.heap.size, 3, none⟩)) rfl (by kernel_rfl) (by kernel_rfl) (by kernel_rfl) (fun _ _ _ h => h) (Or.inl ⟨by rfl, fun W _ => by go_simp⟩) hHeld ?_
  simp only [Act.put, List.getElem_toArray, List.getElem_cons_zero, List.getElem_cons_succ, List.setIfInBounds_toArray, List.set_cons_succ, List.set_cons_zero]
  refine wpAnyH_take (i := 3) (v := .int .i64 f.slots) rfl (by kernel_rfl) (by kernel_rfl) (by kernel_rfl) (fun _ _ _ h => h) (Or.inl ⟨by rfl, fun W hW => by have hcell3 := (hW.cell (p := ⟨w.heap.size, 3, none⟩) HLB.out).trans HYs.out; clear hW; go_simp⟩) hHeld ?_
  simp only [Act.put, List.getElem_toArray, List.getElem_cons_zero, List.getElem_cons_succ, List.setIfInBounds_toArray, List.set_cons_succ, List.set_cons_zero]
  refine wpAnyH_take (i := 4) (v := .pointer (some ⟨w.heap.size, 4, none⟩)) rfl (by kernel_rfl) (by kernel_rfl) (by kernel_rfl) (fun _ _ _ h => h) (Or.inl ⟨by rfl, fun W _ => by go_simp⟩) hHeld ?_
  simp only [Act.put, List.getElem_toArray, List.getElem_cons_zero, List.getElem_cons_succ, List.setIfInBounds_toArray, List.set_cons_succ, List.set_cons_zero]
  refine wpAnyH_take (i := 5) (v := .agg (bytesV f.tool).toArray) rfl (by kernel_rfl) (by kernel_rfl) (by kernel_rfl) (fun _ _ _ h => h) (yieldsIf_load_mid (by rfl) 25 (.tmp 15) rfl w.heap.size 4 rfl (bytesV f.tool) _ (fun W hW => fun j v hv => (hW.cell (p := ⟨w.heap.size, 4 + j, none⟩) HLB.out).trans (HYt.out j v hv)) Tryz.underlying25 rfl HTS.out) hHeld ?_
  simp only [Act.put, List.getElem_toArray, List.getElem_cons_zero, List.getElem_cons_succ, List.setIfInBounds_toArray, List.set_cons_succ, List.set_cons_zero]
  obtain ⟨wx, HWX⟩ : ∃ x, Hid (w3.drew = x) := ⟨_, rfl⟩
  rw [HWX.out] at hHeld ⊢
  have HNx0 := hid (show wx.heap[B3]? = some (.cells (fcells ⟨1, 0, 0, 0, List.replicate 32 0, 0, (0, 0, 0), [], []⟩ nS).toArray 30 (0, 0)) by rw [← HWX.out]; exact HN3.out)
  have hq0 : Below B3 w3 wx := hHeld
  refine wpAnyH_take (i := 6) (v := .pointer (some ⟨B3, 2, none⟩)) rfl (by kernel_rfl) (by kernel_rfl) (by kernel_rfl) (fun _ _ _ h => h) (Or.inl ⟨by rfl, fun W _ => by go_simp⟩) hHeld ?_
  simp only [Act.put, List.getElem_toArray, List.getElem_cons_zero, List.getElem_cons_succ, List.setIfInBounds_toArray, List.set_cons_succ, List.set_cons_zero]
  have g7 : wx.cell? ⟨B3, 2, none⟩ = some _ := cell_of_row wx B3 2 _ _ _ HNx0.out
  have z7 := row_fz HNx0.out 2
  refine wpAnyH_ready (rs := [7]) (by kernel_rfl) (by simp) ?_
  refine AllReadyH.cons rfl (fun K hK => ?_) AllReadyH.nil
  go_simp
  have hq1 : Below B3 w3 (wx.setCell ⟨B3, 2, none⟩ (.int .i64 f.ver)) := hq0.setCell (p := ⟨B3, 2, none⟩) (Nat.le_refl _) _
  have HNx1 := hid (show (wx.setCell ⟨B3, 2, none⟩ (.int .i64 f.ver)).heap[B3]? = some (.cells ((fcells ⟨1, 0, 0, 0, List.replicate 32 0, 0, (0, 0, 0), [], []⟩ nS).toArray.setIfInBounds 2 (.int .i64 f.ver)) 30 (0, 0)) from blk_set HNx0.out _)
  refine hK.out _ _ hq1 (fun hHeld => ?_)
  clear hK K g7 z7
  try simp only [Act.put, List.getElem_toArray, List.getElem_cons_zero, List.getElem_cons_succ, List.setIfInBounds_toArray, List.set_cons_succ, List.set_cons_zero]
  obtain ⟨wy1, hwy1⟩ : ∃ x, (wx.setCell ⟨B3, 2, none⟩ (.int .i64 f.ver)) = x := ⟨_, rfl⟩
  rw [hwy1] at hq1 HNx1 hHeld ⊢
  refine wpAnyH_take (i := 8) (v := .pointer (some ⟨B3, 3, none⟩)) rfl (by kernel_rfl) (by kernel_rfl) (by kernel_rfl) (fun _ _ _ h => h) (Or.inl ⟨by rfl, fun W _ => by go_simp⟩) hHeld ?_
  simp only [Act.put, List.getElem_toArray, List.getElem_cons_zero, List.getElem_cons_succ, List.setIfInBounds_toArray, List.set_cons_succ, List.set_cons_zero]
  have g9 : wy1.cell? ⟨B3, 3, none⟩ = some _ := cell_of_row wy1 B3 3 _ _ _ HNx1.out
  have z9 := row_fz HNx1.out 3
  refine wpAnyH_ready (rs := [9]) (by kernel_rfl) (by simp) ?_
  refine AllReadyH.cons rfl (fun K hK => ?_) AllReadyH.nil
  go_simp
  have hq2 : Below B3 w3 (wy1.setCell ⟨B3, 3, none⟩ (.int .i64 f.slots)) := hq1.setCell (p := ⟨B3, 3, none⟩) (Nat.le_refl _) _
  have HNx2 := hid (show (wy1.setCell ⟨B3, 3, none⟩ (.int .i64 f.slots)).heap[B3]? = some (.cells (((fcells ⟨1, 0, 0, 0, List.replicate 32 0, 0, (0, 0, 0), [], []⟩ nS).toArray.setIfInBounds 2 (.int .i64 f.ver)).setIfInBounds 3 (.int .i64 f.slots)) 30 (0, 0)) from blk_set HNx1.out _)
  refine hK.out _ _ hq2 (fun hHeld => ?_)
  clear hK K g9 z9
  try simp only [Act.put, List.getElem_toArray, List.getElem_cons_zero, List.getElem_cons_succ, List.setIfInBounds_toArray, List.set_cons_succ, List.set_cons_zero]
  obtain ⟨wy2, hwy2⟩ : ∃ x, (wy1.setCell ⟨B3, 3, none⟩ (.int .i64 f.slots)) = x := ⟨_, rfl⟩
  rw [hwy2] at hq2 HNx2 hHeld ⊢
  refine wpAnyH_take (i := 10) (v := .pointer (some ⟨B3, 4, none⟩)) rfl (by kernel_rfl) (by kernel_rfl) (by kernel_rfl) (fun _ _ _ h => h) (Or.inl ⟨by rfl, fun W _ => by go_simp⟩) hHeld ?_
  simp only [Act.put, List.getElem_toArray, List.getElem_cons_zero, List.getElem_cons_succ, List.setIfInBounds_toArray, List.set_cons_succ, List.set_cons_zero]
  refine wpAnyH_ready (rs := [11]) (by kernel_rfl) (by simp) ?_
  refine AllReadyH.cons rfl (fun K hK => ?_) AllReadyH.nil
  refine step_store_mid2 (by rfl) 25 (.tmp 19) (.tmp 16) (by rfl) B3 4 (bytesV f.tool) (by rfl) (by rfl) (there_row HNx2.out 4 _ (by rw [bytesV_length, HF.out, Array.size_setIfInBounds, Array.size_setIfInBounds]; decide)) HTS.out (bytesV_one _) ?_
  have hq3 : Below B3 w3 (wy2.setCells B3 4 (bytesV f.tool)) := below_cells (Nat.le_refl _) _ _ hq2
  have HNx3 := hid (blk_cells (bytesV f.tool) 4 HNx2.out)
  refine hK.out _ _ hq3 (fun hHeld => ?_)
  clear hK K
  try simp only [Act.put, List.getElem_toArray, List.getElem_cons_zero, List.getElem_cons_succ]
  obtain ⟨wy3, hwy3⟩ : ∃ x, wy2.setCells B3 4 (bytesV f.tool) = x := ⟨_, rfl⟩
  rw [hwy3] at hq3 HNx3 hHeld ⊢
  refine wpAnyH_done (by kernel_rfl) ?_ _
  simp only [noPanic]
  clear hHeld
  go_upto_region 13 with fail
  have HN4 := hid (eq_rowFOnly1 HNx3.out HEQ.out)
  have HN5 := hid ((hq3.block (w.heap.size + 1) HG3.out).trans HN2.out)
  have HB4 := hid (show Below w.heap.size w wy3 from below_tr HB3.out (hq3.mono (by have := HLB.out; omega)))
  obtain ⟨FO, HFO⟩ : ∃ L, Hid (fcells (ownF f) (ownV f (.slice ao nn cc)) = L) := ⟨_, rfl⟩
  rw [HFO.out] at HSZ HON HOS HN4
  go_wp2_with (first
    | (refine ld_row (by rfl) 30 (.tmp 3) (by rfl) B3 (by rfl) FO 30 HN4.out _ Tryz.underlying30 rfl HSZ.out ?_)
    | (refine st_row (by rfl) 30 _ _ (by rfl) (w.heap.size + 1) FO (by rfl) (by rfl) 30 _ HN5.out HSZ.out HOS.out HON.out ?_; intro w5 hw5))
  refine ret_row 2 30 rfl (w.heap.size + 1) rfl FO 30 hw5.blk _ Tryz.underlying30 rfl HSZ.out rfl ⟨by rw [HFO.out], Below.of_gb HB4.out hw5.grown (by omega)⟩

end Go.Proofs.YtiibhccbbpgehaaGreat

/- The document's only: a frame with just the fields that its kind has. -/
namespace Go.Proofs.YtiibhccbbpgehaaGreat
open Go.RowKit Go.BigFrame

theorem eq_rowFOnly2 {w : World} {g : Nat} {a b : Array Value} {t : TypeId} (h : w.heap[g]? = some (.cells a t (0, 0))) (e : a = b) : w.heap[g]? = some (.cells b t (0, 0)) := by rw [← e]; exact h

theorem built_b2 : Tryz.prog.built 30 [(0, .int .i64 2)] = some (fcells ⟨2, 0, 0, 0, List.replicate 32 0, 0, (0, 0, 0), [], []⟩ nS).toArray := by kernel_rfl

set_option maxRecDepth 100000 in
set_option maxHeartbeats 4000000 in
theorem only2_any (f : Fr) (va : Value) (w : World) (hk : f.kind = 2) (hf : f.tool.length = 32) (hv : ∃ ao n c, va = .slice ao n c) :
    Calls Tryz.prog 90 #[.agg (fcells f va).toArray] w fun e w' => e = .returned (.agg (fcells (ownF f) (ownV f va)).toArray) ∧ Below w.heap.size w w' := by
  obtain ⟨ao, nn, cc, rfl⟩ := hv
  have HNB := hid (hp_two w (.cells (fcells f (.slice ao nn cc)).toArray 30) (.cells (fcells zF nS).toArray 30))
  have HBL := hid (below_walk2 w (.cells (fcells f (.slice ao nn cc)).toArray 30) (.cells (fcells zF nS).toArray 30))
  have HZ : Hid ((w.alloc (.cells (fcells f (.slice ao nn cc)).toArray 30)).heap.size = w.heap.size + 1) := hid (by simp)
  have HOW : Hid (fcells (ownF f) (ownV f (.slice ao nn cc)) = fcells (ownF f) (ownV f (.slice ao nn cc))) := hid rfl
  have HOT := hid (ownF_tool f hf)
  have HSZ := hid (frame_size (ownF f) (ownV f (.slice ao nn cc)) HOT.out)
  have HON := hid (fcells_one (ownF f) (ownV f (.slice ao nn cc)) (by unfold ownV; split <;> rfl))
  have HOS := hid (show (fcells zF nS).toArray.size = (fcells (ownF f) (ownV f (.slice ao nn cc))).length by rw [fcells_length _ _ HOT.out]; rfl)
  have HSB := hid (frame_size ⟨2, 0, 0, 0, List.replicate 32 0, 0, (0, 0, 0), [], []⟩ nS rfl)
  have HEQ : Hid ((((((((fcells ⟨2, 0, 0, 0, List.replicate 32 0, 0, (0, 0, 0), [], []⟩ nS).toArray.setIfInBounds 1 (.int .u64 f.id)).setIfInBounds 37 (.int .i64 f.lim.1)).setIfInBounds 38 (.int .i64 f.lim.2.1)).setIfInBounds 39 (.int .i64 f.lim.2.2)).setIfInBounds 40 (.slice ao nn cc)).setIfInBounds 41 (.string (mk f.body))) = (fcells (ownF f) (ownV f (.slice ao nn cc))).toArray) := hid (by
    unfold ownF ownV
    rw [if_neg (show ¬ f.kind = 1 by omega), if_pos hk, if_pos hk]
    rfl)
  have HK := hid hk
  have HF := hid hf
  clear hk hf HOW
  go_enter Tryz.func90, Tryz.ntmps90
  go_upto_region 1 with (refine al_row (by rfl) 30 (by rfl) _ zeroFrame ?_)
  try rw [HZ.out]
  generalize (w.alloc (.cells (fcells f (.slice ao nn cc)).toArray 30)).alloc (.cells (fcells zF nS).toArray 30) = w2 at HNB HBL ⊢
  have x0 := (Fb.of HNB.out.1 HF.out).k
  rw [HK.out] at x0
  have HL2 := hid (hp_lt HNB.out.2)
  go_upto_region 2 with (first
    | (refine bd_row (by rfl) 30 #[(0, .tmp 5)] (by rfl) _ (by simp [Act.eval]) _ built_b2 ?_)
    | (refine al_row (by rfl) 30 (by rfl) _ zeroFrame ?_)
    | (refine st_new (by rfl) 30 _ _ (by rfl) (fcells ⟨2, 0, 0, 0, List.replicate 32 0, 0, (0, 0, 0), [], []⟩ nS) (by rfl) (by rfl) 30 _ HSB.out rfl (fcells_one _ nS rfl) ?_))
  have HN1 := hid ((below_walk w2 (.cells (fcells ⟨2, 0, 0, 0, List.replicate 32 0, 0, (0, 0, 0), [], []⟩ nS).toArray 30)).block _ (by have := HL2.out; omega) |>.trans HNB.out.1)
  have HN2 := hid ((below_walk w2 (.cells (fcells ⟨2, 0, 0, 0, List.replicate 32 0, 0, (0, 0, 0), [], []⟩ nS).toArray 30)).block _ HL2.out |>.trans HNB.out.2)
  have HN3 := hid (hp_new w2 (.cells (fcells ⟨2, 0, 0, 0, List.replicate 32 0, 0, (0, 0, 0), [], []⟩ nS).toArray 30))
  have HB3 := hid (below_then HBL.out (below_walk w2 (.cells (fcells ⟨2, 0, 0, 0, List.replicate 32 0, 0, (0, 0, 0), [], []⟩ nS).toArray 30)))
  have HG3 := hid (show w.heap.size + 1 < w2.heap.size from HL2.out)
  obtain ⟨B3, HE3⟩ : ∃ b : Nat, Hid (w2.heap.size = b) := ⟨_, rfl⟩
  rw [HE3.out] at HN3 HG3 ⊢
  generalize w2.alloc (.cells (fcells ⟨2, 0, 0, 0, List.replicate 32 0, 0, (0, 0, 0), [], []⟩ nS).toArray 30) = w3 at HN1 HN2 HN3 HB3 ⊢
  clear x0 HNB HBL HL2
  have HFB := hid (Fb.of HN1.out HF.out)
  have HFC := hid (Fb.of HN3.out (show (⟨2, 0, 0, 0, List.replicate 32 0, 0, (0, 0, 0), [], []⟩ : Fr).tool.length = 32 from rfl))
  have x1 := HFB.out.k
  rw [HK.out] at x1
  have y_i := HFB.out.i
  have y_l1 := HFB.out.l1
  have y_l2 := HFB.out.l2
  have y_l3 := HFB.out.l3
  have y_a := HFB.out.a
  have y_bd := HFB.out.bd
  have c_i := HFC.out.i
  have c_l1 := HFC.out.l1
  have c_l2 := HFC.out.l2
  have c_l3 := HFC.out.l3
  have c_a := HFC.out.a
  have c_bd := HFC.out.bd
  have f_1 := row_fz HN3.out 1
  have f_37 := row_fz HN3.out 37
  have f_38 := row_fz HN3.out 38
  have f_39 := row_fz HN3.out 39
  have f_40 := row_fz HN3.out 40
  have f_41 := row_fz HN3.out 41
  have ne1 : ¬ w.heap.size = B3 := by have := HG3.out; omega
  have ne2 : ¬ B3 = w.heap.size := by have := HG3.out; omega
  go_upto_region 6 with fail
  have HLB := hid (show w.heap.size < B3 by have := HG3.out; omega)
  have HYi := hid y_i
  have HYl1 := hid y_l1
  have HYl2 := hid y_l2
  have HYl3 := hid y_l3
  have HYa := hid y_a
  have HYbd := hid y_bd
  clear y_i y_l1 y_l2 y_l3 y_a y_bd c_i c_l1 c_l2 c_l3 c_a c_bd f_1 f_37 f_38 f_39 f_40 f_41
  refine wp_noPanic (wp_region_held_drew (S := fun W => Below B3 w3 W) (by kernel_rfl) ⟨rfl, rfl, rfl, Nat.le_refl _, fun _ _ => rfl⟩ ?_)
  intro hHeld
  refine wpAnyH_take (i := 0) (v := .pointer (some ⟨w.heap.size, 1, none⟩)) rfl (by kernel_rfl) (by kernel_rfl) (by kernel_rfl) (fun _ _ _ h => h) (Or.inl ⟨by rfl, fun W _ => by go_simp⟩) hHeld ?_
  simp only [Act.put, List.getElem_toArray, List.getElem_cons_zero, List.setIfInBounds_toArray, List.set_cons_succ, List.set_cons_zero]
  refine wpAnyH_take (i := 1) (v := .int .u64 f.id) rfl (by kernel_rfl) (by kernel_rfl) (by kernel_rfl) (fun _ _ _ h => h) (Or.inl ⟨by rfl, fun W hW => by have hcell1 := (hW.cell (p := ⟨w.heap.size, 1, none⟩) HLB.out).trans HYi.out; clear hW; go_simp⟩) hHeld ?_
  simp only [Act.put, List.getElem_toArray, List.getElem_cons_zero, List.getElem_cons_succ, List.setIfInBounds_toArray, List.set_cons_succ, List.set_cons_zero]
  refine wpAnyH_take (i := 2) (v := .pointer (some ⟨w.heap.size, 37, none⟩)) rfl (by kernel_rfl) (by kernel_rfl) (by kernel_rfl) (fun _ _ _ h => h) (Or.inl ⟨by rfl, fun W _ => by go_simp⟩) hHeld ?_
  simp only [Act.put, List.getElem_toArray, List.getElem_cons_zero, List.getElem_cons_succ, List.setIfInBounds_toArray, List.set_cons_succ, List.set_cons_zero]
  refine wpAnyH_take (i := 3) (v := .agg #[.int .i64 f.lim.1, .int .i64 f.lim.2.1, .int .i64 f.lim.2.2]) rfl (by kernel_rfl) (by kernel_rfl) (by kernel_rfl) (fun _ _ _ h => h) (Or.inl ⟨by rfl, fun W hW => by have hcell37 := (hW.cell (p := ⟨w.heap.size, 37, none⟩) HLB.out).trans HYl1.out; have hcell38 := (hW.cell (p := ⟨w.heap.size, 38, none⟩) HLB.out).trans HYl2.out; have hcell39 := (hW.cell (p := ⟨w.heap.size, 39, none⟩) HLB.out).trans HYl3.out; clear hW; go_simp⟩) hHeld ?_
  simp only [Act.put, List.getElem_toArray, List.getElem_cons_zero, List.getElem_cons_succ, List.setIfInBounds_toArray, List.set_cons_succ, List.set_cons_zero]
  refine wpAnyH_take (i := 4) (v := .pointer (some ⟨w.heap.size, 40, none⟩)) rfl (by kernel_rfl) (by kernel_rfl) (by kernel_rfl) (fun _ _ _ h => h) (Or.inl ⟨by rfl, fun W _ => by go_simp⟩) hHeld ?_
  simp only [Act.put, List.getElem_toArray, List.getElem_cons_zero, List.getElem_cons_succ, List.setIfInBounds_toArray, List.set_cons_succ, List.set_cons_zero]
  refine wpAnyH_take (i := 5) (v := .slice ao nn cc) rfl (by kernel_rfl) (by kernel_rfl) (by kernel_rfl) (fun _ _ _ h => h) (Or.inl ⟨by rfl, fun W hW => by have hcell40 := (hW.cell (p := ⟨w.heap.size, 40, none⟩) HLB.out).trans HYa.out; clear hW; go_simp⟩) hHeld ?_
  simp only [Act.put, List.getElem_toArray, List.getElem_cons_zero, List.getElem_cons_succ, List.setIfInBounds_toArray, List.set_cons_succ, List.set_cons_zero]
  refine wpAnyH_take (i := 6) (v := .pointer (some ⟨w.heap.size, 41, none⟩)) rfl (by kernel_rfl) (by kernel_rfl) (by kernel_rfl) (fun _ _ _ h => h) (Or.inl ⟨by rfl, fun W _ => by go_simp⟩) hHeld ?_
  simp only [Act.put, List.getElem_toArray, List.getElem_cons_zero, List.getElem_cons_succ, List.setIfInBounds_toArray, List.set_cons_succ, List.set_cons_zero]
  refine wpAnyH_take (i := 7) (v := .string (mk f.body)) rfl (by kernel_rfl) (by kernel_rfl) (by kernel_rfl) (fun _ _ _ h => h) (Or.inl ⟨by rfl, fun W hW => by have hcell41 := (hW.cell (p := ⟨w.heap.size, 41, none⟩) HLB.out).trans HYbd.out; clear hW; go_simp⟩) hHeld ?_
  simp only [Act.put, List.getElem_toArray, List.getElem_cons_zero, List.getElem_cons_succ, List.setIfInBounds_toArray, List.set_cons_succ, List.set_cons_zero]
  refine wpAnyH_take (i := 8) (v := .pointer (some ⟨B3, 1, none⟩)) rfl (by kernel_rfl) (by kernel_rfl) (by kernel_rfl) (fun _ _ _ h => h) (Or.inl ⟨by rfl, fun W _ => by go_simp⟩) hHeld ?_
  simp only [Act.put, List.getElem_toArray, List.getElem_cons_zero, List.getElem_cons_succ, List.setIfInBounds_toArray, List.set_cons_succ, List.set_cons_zero]
  obtain ⟨wx, HWX⟩ : ∃ x, Hid (w3.drew = x) := ⟨_, rfl⟩
  rw [HWX.out] at hHeld ⊢
  have HNx0 := hid (show wx.heap[B3]? = some (.cells (fcells ⟨2, 0, 0, 0, List.replicate 32 0, 0, (0, 0, 0), [], []⟩ nS).toArray 30 (0, 0)) by rw [← HWX.out]; exact HN3.out)
  have hq0 : Below B3 w3 wx := hHeld
  have g9_1 : wx.cell? ⟨B3, 1, none⟩ = some _ := cell_of_row wx B3 1 _ _ _ HNx0.out
  have z9_1 := row_fz HNx0.out 1
  refine wpAnyH_ready (rs := [9]) (by kernel_rfl) (by simp) ?_
  refine AllReadyH.cons rfl (fun K hK => ?_) AllReadyH.nil
  go_simp
  have hq1 : Below B3 w3 (wx.setCell ⟨B3, 1, none⟩ (.int .u64 f.id)) := (hq0.setCell (p := ⟨B3, 1, none⟩) (Nat.le_refl _) _)
  have HNx1 := hid (show (wx.setCell ⟨B3, 1, none⟩ (.int .u64 f.id)).heap[B3]? = some (.cells ((fcells ⟨2, 0, 0, 0, List.replicate 32 0, 0, (0, 0, 0), [], []⟩ nS).toArray.setIfInBounds 1 (.int .u64 f.id)) 30 (0, 0)) from (blk_set HNx0.out (.int .u64 f.id)))
  refine hK.out _ _ hq1 (fun hHeld => ?_)
  clear hK K g9_1 z9_1
  try simp only [Act.put, List.getElem_toArray, List.getElem_cons_zero, List.getElem_cons_succ, List.setIfInBounds_toArray, List.set_cons_succ, List.set_cons_zero]
  obtain ⟨wy1, hwy1⟩ : ∃ x, (wx.setCell ⟨B3, 1, none⟩ (.int .u64 f.id)) = x := ⟨_, rfl⟩
  rw [hwy1] at hq1 HNx1 hHeld ⊢
  have g11_37 : wy1.cell? ⟨B3, 37, none⟩ = some _ := cell_of_row wy1 B3 37 _ _ _ HNx1.out
  have g11_38 : wy1.cell? ⟨B3, 38, none⟩ = some _ := cell_of_row wy1 B3 38 _ _ _ HNx1.out
  have g11_39 : wy1.cell? ⟨B3, 39, none⟩ = some _ := cell_of_row wy1 B3 39 _ _ _ HNx1.out
  have z11_37 := row_fz HNx1.out 37
  have z11_38 := row_fz HNx1.out 38
  have z11_39 := row_fz HNx1.out 39
  refine wpAnyH_take (i := 10) (v := .pointer (some ⟨B3, 37, none⟩)) rfl (by kernel_rfl) (by kernel_rfl) (by kernel_rfl) (fun _ _ _ h => h) (Or.inl ⟨by rfl, fun W _ => by go_simp⟩) hHeld ?_
  simp only [Act.put, List.getElem_toArray, List.getElem_cons_zero, List.getElem_cons_succ, List.setIfInBounds_toArray, List.set_cons_succ, List.set_cons_zero]
  refine wpAnyH_ready (rs := [11]) (by kernel_rfl) (by simp) ?_
  refine AllReadyH.cons rfl (fun K hK => ?_) AllReadyH.nil
  go_simp
  have hq2 : Below B3 w3 (((wy1.setCell ⟨B3, 37, none⟩ (.int .i64 f.lim.1)).setCell ⟨B3, 38, none⟩ (.int .i64 f.lim.2.1)).setCell ⟨B3, 39, none⟩ (.int .i64 f.lim.2.2)) := (((hq1.setCell (p := ⟨B3, 37, none⟩) (Nat.le_refl _) _).setCell (p := ⟨B3, 38, none⟩) (Nat.le_refl _) _).setCell (p := ⟨B3, 39, none⟩) (Nat.le_refl _) _)
  have HNx2 := hid (show (((wy1.setCell ⟨B3, 37, none⟩ (.int .i64 f.lim.1)).setCell ⟨B3, 38, none⟩ (.int .i64 f.lim.2.1)).setCell ⟨B3, 39, none⟩ (.int .i64 f.lim.2.2)).heap[B3]? = some (.cells (((((fcells ⟨2, 0, 0, 0, List.replicate 32 0, 0, (0, 0, 0), [], []⟩ nS).toArray.setIfInBounds 1 (.int .u64 f.id)).setIfInBounds 37 (.int .i64 f.lim.1)).setIfInBounds 38 (.int .i64 f.lim.2.1)).setIfInBounds 39 (.int .i64 f.lim.2.2)) 30 (0, 0)) from (blk_set (blk_set (blk_set HNx1.out (.int .i64 f.lim.1)) (.int .i64 f.lim.2.1)) (.int .i64 f.lim.2.2)))
  refine hK.out _ _ hq2 (fun hHeld => ?_)
  clear hK K g11_37 z11_37 g11_38 z11_38 g11_39 z11_39
  try simp only [Act.put, List.getElem_toArray, List.getElem_cons_zero, List.getElem_cons_succ, List.setIfInBounds_toArray, List.set_cons_succ, List.set_cons_zero]
  obtain ⟨wy2, hwy2⟩ : ∃ x, (((wy1.setCell ⟨B3, 37, none⟩ (.int .i64 f.lim.1)).setCell ⟨B3, 38, none⟩ (.int .i64 f.lim.2.1)).setCell ⟨B3, 39, none⟩ (.int .i64 f.lim.2.2)) = x := ⟨_, rfl⟩
  rw [hwy2] at hq2 HNx2 hHeld ⊢
  have g13_40 : wy2.cell? ⟨B3, 40, none⟩ = some _ := cell_of_row wy2 B3 40 _ _ _ HNx2.out
  have z13_40 := row_fz HNx2.out 40
  refine wpAnyH_take (i := 12) (v := .pointer (some ⟨B3, 40, none⟩)) rfl (by kernel_rfl) (by kernel_rfl) (by kernel_rfl) (fun _ _ _ h => h) (Or.inl ⟨by rfl, fun W _ => by go_simp⟩) hHeld ?_
  simp only [Act.put, List.getElem_toArray, List.getElem_cons_zero, List.getElem_cons_succ, List.setIfInBounds_toArray, List.set_cons_succ, List.set_cons_zero]
  refine wpAnyH_ready (rs := [13]) (by kernel_rfl) (by simp) ?_
  refine AllReadyH.cons rfl (fun K hK => ?_) AllReadyH.nil
  go_simp
  have hq3 : Below B3 w3 (wy2.setCell ⟨B3, 40, none⟩ (.slice ao nn cc)) := (hq2.setCell (p := ⟨B3, 40, none⟩) (Nat.le_refl _) _)
  have HNx3 := hid (show (wy2.setCell ⟨B3, 40, none⟩ (.slice ao nn cc)).heap[B3]? = some (.cells ((((((fcells ⟨2, 0, 0, 0, List.replicate 32 0, 0, (0, 0, 0), [], []⟩ nS).toArray.setIfInBounds 1 (.int .u64 f.id)).setIfInBounds 37 (.int .i64 f.lim.1)).setIfInBounds 38 (.int .i64 f.lim.2.1)).setIfInBounds 39 (.int .i64 f.lim.2.2)).setIfInBounds 40 (.slice ao nn cc)) 30 (0, 0)) from (blk_set HNx2.out (.slice ao nn cc)))
  refine hK.out _ _ hq3 (fun hHeld => ?_)
  clear hK K g13_40 z13_40
  try simp only [Act.put, List.getElem_toArray, List.getElem_cons_zero, List.getElem_cons_succ, List.setIfInBounds_toArray, List.set_cons_succ, List.set_cons_zero]
  obtain ⟨wy3, hwy3⟩ : ∃ x, (wy2.setCell ⟨B3, 40, none⟩ (.slice ao nn cc)) = x := ⟨_, rfl⟩
  rw [hwy3] at hq3 HNx3 hHeld ⊢
  have g15_41 : wy3.cell? ⟨B3, 41, none⟩ = some _ := cell_of_row wy3 B3 41 _ _ _ HNx3.out
  have z15_41 := row_fz HNx3.out 41
  refine wpAnyH_take (i := 14) (v := .pointer (some ⟨B3, 41, none⟩)) rfl (by kernel_rfl) (by kernel_rfl) (by kernel_rfl) (fun _ _ _ h => h) (Or.inl ⟨by rfl, fun W _ => by go_simp⟩) hHeld ?_
  simp only [Act.put, List.getElem_toArray, List.getElem_cons_zero, List.getElem_cons_succ, List.setIfInBounds_toArray, List.set_cons_succ, List.set_cons_zero]
  refine wpAnyH_ready (rs := [15]) (by kernel_rfl) (by simp) ?_
  refine AllReadyH.cons rfl (fun K hK => ?_) AllReadyH.nil
  go_simp
  have hq4 : Below B3 w3 (wy3.setCell ⟨B3, 41, none⟩ (.string (mk f.body))) := (hq3.setCell (p := ⟨B3, 41, none⟩) (Nat.le_refl _) _)
  have HNx4 := hid (show (wy3.setCell ⟨B3, 41, none⟩ (.string (mk f.body))).heap[B3]? = some (.cells (((((((fcells ⟨2, 0, 0, 0, List.replicate 32 0, 0, (0, 0, 0), [], []⟩ nS).toArray.setIfInBounds 1 (.int .u64 f.id)).setIfInBounds 37 (.int .i64 f.lim.1)).setIfInBounds 38 (.int .i64 f.lim.2.1)).setIfInBounds 39 (.int .i64 f.lim.2.2)).setIfInBounds 40 (.slice ao nn cc)).setIfInBounds 41 (.string (mk f.body))) 30 (0, 0)) from (blk_set HNx3.out (.string (mk f.body))))
  refine hK.out _ _ hq4 (fun hHeld => ?_)
  clear hK K g15_41 z15_41
  try simp only [Act.put, List.getElem_toArray, List.getElem_cons_zero, List.getElem_cons_succ, List.setIfInBounds_toArray, List.set_cons_succ, List.set_cons_zero]
  obtain ⟨wy4, hwy4⟩ : ∃ x, (wy3.setCell ⟨B3, 41, none⟩ (.string (mk f.body))) = x := ⟨_, rfl⟩
  rw [hwy4] at hq4 HNx4 hHeld ⊢
  refine wpAnyH_done (by kernel_rfl) ?_ _
  simp only [noPanic]
  clear hHeld
  go_upto_region 13 with fail
  have HN4 := hid (eq_rowFOnly2 HNx4.out HEQ.out)
  have HN5 := hid ((hq4.block (w.heap.size + 1) HG3.out).trans HN2.out)
  have HB4 := hid (show Below w.heap.size w wy4 from below_tr HB3.out (hq4.mono (by have := HLB.out; omega)))
  obtain ⟨FO, HFO⟩ : ∃ L, Hid (fcells (ownF f) (ownV f (.slice ao nn cc)) = L) := ⟨_, rfl⟩
  rw [HFO.out] at HSZ HON HOS HN4
  go_wp2_with (first
    | (refine ld_row (by rfl) 30 (.tmp 3) (by rfl) B3 (by rfl) FO 30 HN4.out _ Tryz.underlying30 rfl HSZ.out ?_)
    | (refine st_row (by rfl) 30 _ _ (by rfl) (w.heap.size + 1) FO (by rfl) (by rfl) 30 _ HN5.out HSZ.out HOS.out HON.out ?_; intro w5 hw5))
  refine ret_row 2 30 rfl (w.heap.size + 1) rfl FO 30 hw5.blk _ Tryz.underlying30 rfl HSZ.out rfl ⟨by rw [HFO.out], Below.of_gb HB4.out hw5.grown (by omega)⟩

end Go.Proofs.YtiibhccbbpgehaaGreat

/- The document's only: a frame with just the fields that its kind has. -/
namespace Go.Proofs.YtiibhccbbpgehaaGreat
open Go.RowKit Go.BigFrame

theorem eq_rowFOnly3 {w : World} {g : Nat} {a b : Array Value} {t : TypeId} (h : w.heap[g]? = some (.cells a t (0, 0))) (e : a = b) : w.heap[g]? = some (.cells b t (0, 0)) := by rw [← e]; exact h

theorem built_b3 : Tryz.prog.built 30 [(0, .int .i64 3)] = some (fcells ⟨3, 0, 0, 0, List.replicate 32 0, 0, (0, 0, 0), [], []⟩ nS).toArray := by kernel_rfl

set_option maxRecDepth 100000 in
set_option maxHeartbeats 4000000 in
theorem only3_any (f : Fr) (va : Value) (w : World) (hk : f.kind = 3) (hf : f.tool.length = 32) (hv : ∃ ao n c, va = .slice ao n c) :
    Calls Tryz.prog 90 #[.agg (fcells f va).toArray] w fun e w' => e = .returned (.agg (fcells (ownF f) (ownV f va)).toArray) ∧ Below w.heap.size w w' := by
  obtain ⟨ao, nn, cc, rfl⟩ := hv
  have HNB := hid (hp_two w (.cells (fcells f (.slice ao nn cc)).toArray 30) (.cells (fcells zF nS).toArray 30))
  have HBL := hid (below_walk2 w (.cells (fcells f (.slice ao nn cc)).toArray 30) (.cells (fcells zF nS).toArray 30))
  have HZ : Hid ((w.alloc (.cells (fcells f (.slice ao nn cc)).toArray 30)).heap.size = w.heap.size + 1) := hid (by simp)
  have HOW : Hid (fcells (ownF f) (ownV f (.slice ao nn cc)) = fcells (ownF f) (ownV f (.slice ao nn cc))) := hid rfl
  have HOT := hid (ownF_tool f hf)
  have HSZ := hid (frame_size (ownF f) (ownV f (.slice ao nn cc)) HOT.out)
  have HON := hid (fcells_one (ownF f) (ownV f (.slice ao nn cc)) (by unfold ownV; split <;> rfl))
  have HOS := hid (show (fcells zF nS).toArray.size = (fcells (ownF f) (ownV f (.slice ao nn cc))).length by rw [fcells_length _ _ HOT.out]; rfl)
  have HSB := hid (frame_size ⟨3, 0, 0, 0, List.replicate 32 0, 0, (0, 0, 0), [], []⟩ nS rfl)
  have HEQ : Hid (((((fcells ⟨3, 0, 0, 0, List.replicate 32 0, 0, (0, 0, 0), [], []⟩ nS).toArray.setIfInBounds 1 (.int .u64 f.id)).setIfInBounds 36 (.int .i64 f.status)).setIfInBounds 41 (.string (mk f.body))) = (fcells (ownF f) (ownV f (.slice ao nn cc))).toArray) := hid (by
    unfold ownF ownV
    rw [if_neg (show ¬ f.kind = 1 by omega), if_neg (show ¬ f.kind = 2 by omega), if_pos hk, if_neg (show ¬ f.kind = 2 by omega)]
    rfl)
  have HK := hid hk
  have HF := hid hf
  clear hk hf HOW
  go_enter Tryz.func90, Tryz.ntmps90
  go_upto_region 1 with (refine al_row (by rfl) 30 (by rfl) _ zeroFrame ?_)
  try rw [HZ.out]
  generalize (w.alloc (.cells (fcells f (.slice ao nn cc)).toArray 30)).alloc (.cells (fcells zF nS).toArray 30) = w2 at HNB HBL ⊢
  have x0 := (Fb.of HNB.out.1 HF.out).k
  rw [HK.out] at x0
  have HL2 := hid (hp_lt HNB.out.2)
  go_upto_region 2 with (first
    | (refine bd_row (by rfl) 30 #[(0, .tmp 5)] (by rfl) _ (by simp [Act.eval]) _ built_b3 ?_)
    | (refine al_row (by rfl) 30 (by rfl) _ zeroFrame ?_)
    | (refine st_new (by rfl) 30 _ _ (by rfl) (fcells ⟨3, 0, 0, 0, List.replicate 32 0, 0, (0, 0, 0), [], []⟩ nS) (by rfl) (by rfl) 30 _ HSB.out rfl (fcells_one _ nS rfl) ?_))
  have HN1 := hid ((below_walk w2 (.cells (fcells ⟨3, 0, 0, 0, List.replicate 32 0, 0, (0, 0, 0), [], []⟩ nS).toArray 30)).block _ (by have := HL2.out; omega) |>.trans HNB.out.1)
  have HN2 := hid ((below_walk w2 (.cells (fcells ⟨3, 0, 0, 0, List.replicate 32 0, 0, (0, 0, 0), [], []⟩ nS).toArray 30)).block _ HL2.out |>.trans HNB.out.2)
  have HN3 := hid (hp_new w2 (.cells (fcells ⟨3, 0, 0, 0, List.replicate 32 0, 0, (0, 0, 0), [], []⟩ nS).toArray 30))
  have HB3 := hid (below_then HBL.out (below_walk w2 (.cells (fcells ⟨3, 0, 0, 0, List.replicate 32 0, 0, (0, 0, 0), [], []⟩ nS).toArray 30)))
  have HG3 := hid (show w.heap.size + 1 < w2.heap.size from HL2.out)
  obtain ⟨B3, HE3⟩ : ∃ b : Nat, Hid (w2.heap.size = b) := ⟨_, rfl⟩
  rw [HE3.out] at HN3 HG3 ⊢
  generalize w2.alloc (.cells (fcells ⟨3, 0, 0, 0, List.replicate 32 0, 0, (0, 0, 0), [], []⟩ nS).toArray 30) = w3 at HN1 HN2 HN3 HB3 ⊢
  clear x0 HNB HBL HL2
  have HFB := hid (Fb.of HN1.out HF.out)
  have HFC := hid (Fb.of HN3.out (show (⟨3, 0, 0, 0, List.replicate 32 0, 0, (0, 0, 0), [], []⟩ : Fr).tool.length = 32 from rfl))
  have x1 := HFB.out.k
  rw [HK.out] at x1
  have y_i := HFB.out.i
  have y_st := HFB.out.st
  have y_bd := HFB.out.bd
  have c_i := HFC.out.i
  have c_st := HFC.out.st
  have c_bd := HFC.out.bd
  have f_1 := row_fz HN3.out 1
  have f_36 := row_fz HN3.out 36
  have f_41 := row_fz HN3.out 41
  have ne1 : ¬ w.heap.size = B3 := by have := HG3.out; omega
  have ne2 : ¬ B3 = w.heap.size := by have := HG3.out; omega
  go_upto_region 8 with fail
  go_region
  go_upto_region 13 with fail
  have HN4 := hid (show (((w3.setCell ⟨B3, 1, none⟩ (.int .u64 f.id)).setCell ⟨B3, 36, none⟩ (.int .i64 f.status)).setCell ⟨B3, 41, none⟩ (.string (mk f.body))).drew.heap[B3]? = some (.cells (fcells (ownF f) (ownV f (.slice ao nn cc))).toArray 30 (0, 0)) from eq_rowFOnly3 (blk_set (blk_set (blk_set HN3.out (.int .u64 f.id)) (.int .i64 f.status)) (.string (mk f.body))) HEQ.out)
  have HN5 := hid (show (((w3.setCell ⟨B3, 1, none⟩ (.int .u64 f.id)).setCell ⟨B3, 36, none⟩ (.int .i64 f.status)).setCell ⟨B3, 41, none⟩ (.string (mk f.body))).drew.heap[w.heap.size + 1]? = some (.cells (fcells zF nS).toArray 30 (0, 0)) from ((Below.heap_setCell _ _ _ (w.heap.size + 1) (by have := HG3.out; simp; omega)).trans ((Below.heap_setCell _ _ _ (w.heap.size + 1) (by have := HG3.out; simp; omega)).trans ((Below.heap_setCell _ _ _ (w.heap.size + 1) (by have := HG3.out; simp; omega)).trans HN2.out))))
  have HB4 := hid (show Below w.heap.size w (((w3.setCell ⟨B3, 1, none⟩ (.int .u64 f.id)).setCell ⟨B3, 36, none⟩ (.int .i64 f.status)).setCell ⟨B3, 41, none⟩ (.string (mk f.body))).drew from below_then (((HB3.out.setCell (p := ⟨B3, 1, none⟩) (by show w.heap.size ≤ B3; have := HG3.out; omega) _).setCell (p := ⟨B3, 36, none⟩) (by show w.heap.size ≤ B3; have := HG3.out; omega) _).setCell (p := ⟨B3, 41, none⟩) (by show w.heap.size ≤ B3; have := HG3.out; omega) _) ⟨rfl, rfl, rfl, Nat.le_refl _, fun _ _ => rfl⟩)
  generalize (((w3.setCell ⟨B3, 1, none⟩ (.int .u64 f.id)).setCell ⟨B3, 36, none⟩ (.int .i64 f.status)).setCell ⟨B3, 41, none⟩ (.string (mk f.body))).drew = w4 at HN4 HN5 HB4 ⊢
  obtain ⟨FO, HFO⟩ : ∃ L, Hid (fcells (ownF f) (ownV f (.slice ao nn cc)) = L) := ⟨_, rfl⟩
  rw [HFO.out] at HSZ HON HOS HN4
  go_wp2_with (first
    | (refine ld_row (by rfl) 30 (.tmp 3) (by rfl) B3 (by rfl) FO 30 HN4.out _ Tryz.underlying30 rfl HSZ.out ?_)
    | (refine st_row (by rfl) 30 _ _ (by rfl) (w.heap.size + 1) FO (by rfl) (by rfl) 30 _ HN5.out HSZ.out HOS.out HON.out ?_; intro w5 hw5))
  refine ret_row 2 30 rfl (w.heap.size + 1) rfl FO 30 hw5.blk _ Tryz.underlying30 rfl HSZ.out rfl ⟨by rw [HFO.out], Below.of_gb HB4.out hw5.grown (by omega)⟩

end Go.Proofs.YtiibhccbbpgehaaGreat

/- The document's only: a frame with just the fields that its kind has. -/
namespace Go.Proofs.YtiibhccbbpgehaaGreat
open Go.RowKit Go.BigFrame

theorem eq_rowFOnly4 {w : World} {g : Nat} {a b : Array Value} {t : TypeId} (h : w.heap[g]? = some (.cells a t (0, 0))) (e : a = b) : w.heap[g]? = some (.cells b t (0, 0)) := by rw [← e]; exact h

theorem built_b4 : Tryz.prog.built 30 [(0, .int .i64 4)] = some (fcells ⟨4, 0, 0, 0, List.replicate 32 0, 0, (0, 0, 0), [], []⟩ nS).toArray := by kernel_rfl

set_option maxRecDepth 100000 in
set_option maxHeartbeats 4000000 in
theorem only4_any (f : Fr) (va : Value) (w : World) (hk : f.kind = 4) (hf : f.tool.length = 32) (hv : ∃ ao n c, va = .slice ao n c) :
    Calls Tryz.prog 90 #[.agg (fcells f va).toArray] w fun e w' => e = .returned (.agg (fcells (ownF f) (ownV f va)).toArray) ∧ Below w.heap.size w w' := by
  obtain ⟨ao, nn, cc, rfl⟩ := hv
  have HNB := hid (hp_two w (.cells (fcells f (.slice ao nn cc)).toArray 30) (.cells (fcells zF nS).toArray 30))
  have HBL := hid (below_walk2 w (.cells (fcells f (.slice ao nn cc)).toArray 30) (.cells (fcells zF nS).toArray 30))
  have HZ : Hid ((w.alloc (.cells (fcells f (.slice ao nn cc)).toArray 30)).heap.size = w.heap.size + 1) := hid (by simp)
  have HOW : Hid (fcells (ownF f) (ownV f (.slice ao nn cc)) = fcells (ownF f) (ownV f (.slice ao nn cc))) := hid rfl
  have HOT := hid (ownF_tool f hf)
  have HSZ := hid (frame_size (ownF f) (ownV f (.slice ao nn cc)) HOT.out)
  have HON := hid (fcells_one (ownF f) (ownV f (.slice ao nn cc)) (by unfold ownV; split <;> rfl))
  have HOS := hid (show (fcells zF nS).toArray.size = (fcells (ownF f) (ownV f (.slice ao nn cc))).length by rw [fcells_length _ _ HOT.out]; rfl)
  have HSB := hid (frame_size ⟨4, 0, 0, 0, List.replicate 32 0, 0, (0, 0, 0), [], []⟩ nS rfl)
  have HEQ : Hid (((fcells ⟨4, 0, 0, 0, List.replicate 32 0, 0, (0, 0, 0), [], []⟩ nS).toArray.setIfInBounds 1 (.int .u64 f.id)) = (fcells (ownF f) (ownV f (.slice ao nn cc))).toArray) := hid (by
    unfold ownF ownV
    rw [if_neg (show ¬ f.kind = 1 by omega), if_neg (show ¬ f.kind = 2 by omega), if_neg (show ¬ f.kind = 3 by omega), if_pos hk, if_neg (show ¬ f.kind = 2 by omega)]
    rfl)
  have HK := hid hk
  have HF := hid hf
  clear hk hf HOW
  go_enter Tryz.func90, Tryz.ntmps90
  go_upto_region 1 with (refine al_row (by rfl) 30 (by rfl) _ zeroFrame ?_)
  try rw [HZ.out]
  generalize (w.alloc (.cells (fcells f (.slice ao nn cc)).toArray 30)).alloc (.cells (fcells zF nS).toArray 30) = w2 at HNB HBL ⊢
  have x0 := (Fb.of HNB.out.1 HF.out).k
  rw [HK.out] at x0
  have HL2 := hid (hp_lt HNB.out.2)
  go_upto_region 2 with (first
    | (refine bd_row (by rfl) 30 #[(0, .tmp 5)] (by rfl) _ (by simp [Act.eval]) _ built_b4 ?_)
    | (refine al_row (by rfl) 30 (by rfl) _ zeroFrame ?_)
    | (refine st_new (by rfl) 30 _ _ (by rfl) (fcells ⟨4, 0, 0, 0, List.replicate 32 0, 0, (0, 0, 0), [], []⟩ nS) (by rfl) (by rfl) 30 _ HSB.out rfl (fcells_one _ nS rfl) ?_))
  have HN1 := hid ((below_walk w2 (.cells (fcells ⟨4, 0, 0, 0, List.replicate 32 0, 0, (0, 0, 0), [], []⟩ nS).toArray 30)).block _ (by have := HL2.out; omega) |>.trans HNB.out.1)
  have HN2 := hid ((below_walk w2 (.cells (fcells ⟨4, 0, 0, 0, List.replicate 32 0, 0, (0, 0, 0), [], []⟩ nS).toArray 30)).block _ HL2.out |>.trans HNB.out.2)
  have HN3 := hid (hp_new w2 (.cells (fcells ⟨4, 0, 0, 0, List.replicate 32 0, 0, (0, 0, 0), [], []⟩ nS).toArray 30))
  have HB3 := hid (below_then HBL.out (below_walk w2 (.cells (fcells ⟨4, 0, 0, 0, List.replicate 32 0, 0, (0, 0, 0), [], []⟩ nS).toArray 30)))
  have HG3 := hid (show w.heap.size + 1 < w2.heap.size from HL2.out)
  obtain ⟨B3, HE3⟩ : ∃ b : Nat, Hid (w2.heap.size = b) := ⟨_, rfl⟩
  rw [HE3.out] at HN3 HG3 ⊢
  generalize w2.alloc (.cells (fcells ⟨4, 0, 0, 0, List.replicate 32 0, 0, (0, 0, 0), [], []⟩ nS).toArray 30) = w3 at HN1 HN2 HN3 HB3 ⊢
  clear x0 HNB HBL HL2
  have HFB := hid (Fb.of HN1.out HF.out)
  have HFC := hid (Fb.of HN3.out (show (⟨4, 0, 0, 0, List.replicate 32 0, 0, (0, 0, 0), [], []⟩ : Fr).tool.length = 32 from rfl))
  have x1 := HFB.out.k
  rw [HK.out] at x1
  have y_i := HFB.out.i
  have c_i := HFC.out.i
  have f_1 := row_fz HN3.out 1
  have ne1 : ¬ w.heap.size = B3 := by have := HG3.out; omega
  have ne2 : ¬ B3 = w.heap.size := by have := HG3.out; omega
  go_upto_region 13 with fail
  have HN4 := hid (show (w3.setCell ⟨B3, 1, none⟩ (.int .u64 f.id)).heap[B3]? = some (.cells (fcells (ownF f) (ownV f (.slice ao nn cc))).toArray 30 (0, 0)) from eq_rowFOnly4 (blk_set HN3.out (.int .u64 f.id)) HEQ.out)
  have HN5 := hid (show (w3.setCell ⟨B3, 1, none⟩ (.int .u64 f.id)).heap[w.heap.size + 1]? = some (.cells (fcells zF nS).toArray 30 (0, 0)) from ((Below.heap_setCell _ _ _ (w.heap.size + 1) (by have := HG3.out; simp; omega)).trans HN2.out))
  have HB4 := hid (show Below w.heap.size w (w3.setCell ⟨B3, 1, none⟩ (.int .u64 f.id)) from  (HB3.out.setCell (p := ⟨B3, 1, none⟩) (by show w.heap.size ≤ B3; have := HG3.out; omega) _))
  generalize (w3.setCell ⟨B3, 1, none⟩ (.int .u64 f.id)) = w4 at HN4 HN5 HB4 ⊢
  obtain ⟨FO, HFO⟩ : ∃ L, Hid (fcells (ownF f) (ownV f (.slice ao nn cc)) = L) := ⟨_, rfl⟩
  rw [HFO.out] at HSZ HON HOS HN4
  go_wp2_with (first
    | (refine ld_row (by rfl) 30 (.tmp 3) (by rfl) B3 (by rfl) FO 30 HN4.out _ Tryz.underlying30 rfl HSZ.out ?_)
    | (refine st_row (by rfl) 30 _ _ (by rfl) (w.heap.size + 1) FO (by rfl) (by rfl) 30 _ HN5.out HSZ.out HOS.out HON.out ?_; intro w5 hw5))
  refine ret_row 2 30 rfl (w.heap.size + 1) rfl FO 30 hw5.blk _ Tryz.underlying30 rfl HSZ.out rfl ⟨by rw [HFO.out], Below.of_gb HB4.out hw5.grown (by omega)⟩

theorem built_b6 : Tryz.prog.built 30 [(0, .int .i64 6)] = some (fcells ⟨6, 0, 0, 0, List.replicate 32 0, 0, (0, 0, 0), [], []⟩ nS).toArray := by kernel_rfl

set_option maxRecDepth 100000 in
set_option maxHeartbeats 4000000 in
theorem only6_any (f : Fr) (va : Value) (w : World) (hk : f.kind = 6) (hf : f.tool.length = 32) (hv : ∃ ao n c, va = .slice ao n c) :
    Calls Tryz.prog 90 #[.agg (fcells f va).toArray] w fun e w' => e = .returned (.agg (fcells (ownF f) (ownV f va)).toArray) ∧ Below w.heap.size w w' := by
  obtain ⟨ao, nn, cc, rfl⟩ := hv
  have HNB := hid (hp_two w (.cells (fcells f (.slice ao nn cc)).toArray 30) (.cells (fcells zF nS).toArray 30))
  have HBL := hid (below_walk2 w (.cells (fcells f (.slice ao nn cc)).toArray 30) (.cells (fcells zF nS).toArray 30))
  have HZ : Hid ((w.alloc (.cells (fcells f (.slice ao nn cc)).toArray 30)).heap.size = w.heap.size + 1) := hid (by simp)
  have HOW : Hid (fcells (ownF f) (ownV f (.slice ao nn cc)) = fcells (ownF f) (ownV f (.slice ao nn cc))) := hid rfl
  have HOT := hid (ownF_tool f hf)
  have HSZ := hid (frame_size (ownF f) (ownV f (.slice ao nn cc)) HOT.out)
  have HON := hid (fcells_one (ownF f) (ownV f (.slice ao nn cc)) (by unfold ownV; split <;> rfl))
  have HOS := hid (show (fcells zF nS).toArray.size = (fcells (ownF f) (ownV f (.slice ao nn cc))).length by rw [fcells_length _ _ HOT.out]; rfl)
  have HSB := hid (frame_size ⟨6, 0, 0, 0, List.replicate 32 0, 0, (0, 0, 0), [], []⟩ nS rfl)
  have HEQ : Hid (((fcells ⟨6, 0, 0, 0, List.replicate 32 0, 0, (0, 0, 0), [], []⟩ nS).toArray.setIfInBounds 41 (.string (mk f.body))) = (fcells (ownF f) (ownV f (.slice ao nn cc))).toArray) := hid (by
    unfold ownF ownV
    rw [if_neg (show ¬ f.kind = 1 by omega), if_neg (show ¬ f.kind = 2 by omega), if_neg (show ¬ f.kind = 3 by omega), if_neg (show ¬ f.kind = 4 by omega), if_neg (show ¬ f.kind = 5 by omega), if_pos hk, if_neg (show ¬ f.kind = 2 by omega)]
    rfl)
  have HK := hid hk
  have HF := hid hf
  clear hk hf HOW
  go_enter Tryz.func90, Tryz.ntmps90
  go_upto_region 1 with (refine al_row (by rfl) 30 (by rfl) _ zeroFrame ?_)
  try rw [HZ.out]
  generalize (w.alloc (.cells (fcells f (.slice ao nn cc)).toArray 30)).alloc (.cells (fcells zF nS).toArray 30) = w2 at HNB HBL ⊢
  have x0 := (Fb.of HNB.out.1 HF.out).k
  rw [HK.out] at x0
  have HL2 := hid (hp_lt HNB.out.2)
  go_upto_region 2 with (first
    | (refine bd_row (by rfl) 30 #[(0, .tmp 5)] (by rfl) _ (by simp [Act.eval]) _ built_b6 ?_)
    | (refine al_row (by rfl) 30 (by rfl) _ zeroFrame ?_)
    | (refine st_new (by rfl) 30 _ _ (by rfl) (fcells ⟨6, 0, 0, 0, List.replicate 32 0, 0, (0, 0, 0), [], []⟩ nS) (by rfl) (by rfl) 30 _ HSB.out rfl (fcells_one _ nS rfl) ?_))
  have HN1 := hid ((below_walk w2 (.cells (fcells ⟨6, 0, 0, 0, List.replicate 32 0, 0, (0, 0, 0), [], []⟩ nS).toArray 30)).block _ (by have := HL2.out; omega) |>.trans HNB.out.1)
  have HN2 := hid ((below_walk w2 (.cells (fcells ⟨6, 0, 0, 0, List.replicate 32 0, 0, (0, 0, 0), [], []⟩ nS).toArray 30)).block _ HL2.out |>.trans HNB.out.2)
  have HN3 := hid (hp_new w2 (.cells (fcells ⟨6, 0, 0, 0, List.replicate 32 0, 0, (0, 0, 0), [], []⟩ nS).toArray 30))
  have HB3 := hid (below_then HBL.out (below_walk w2 (.cells (fcells ⟨6, 0, 0, 0, List.replicate 32 0, 0, (0, 0, 0), [], []⟩ nS).toArray 30)))
  have HG3 := hid (show w.heap.size + 1 < w2.heap.size from HL2.out)
  obtain ⟨B3, HE3⟩ : ∃ b : Nat, Hid (w2.heap.size = b) := ⟨_, rfl⟩
  rw [HE3.out] at HN3 HG3 ⊢
  generalize w2.alloc (.cells (fcells ⟨6, 0, 0, 0, List.replicate 32 0, 0, (0, 0, 0), [], []⟩ nS).toArray 30) = w3 at HN1 HN2 HN3 HB3 ⊢
  clear x0 HNB HBL HL2
  have HFB := hid (Fb.of HN1.out HF.out)
  have HFC := hid (Fb.of HN3.out (show (⟨6, 0, 0, 0, List.replicate 32 0, 0, (0, 0, 0), [], []⟩ : Fr).tool.length = 32 from rfl))
  have x1 := HFB.out.k
  rw [HK.out] at x1
  have y_bd := HFB.out.bd
  have c_bd := HFC.out.bd
  have f_41 := row_fz HN3.out 41
  have ne1 : ¬ w.heap.size = B3 := by have := HG3.out; omega
  have ne2 : ¬ B3 = w.heap.size := by have := HG3.out; omega
  go_upto_region 13 with fail
  have HN4 := hid (show (w3.setCell ⟨B3, 41, none⟩ (.string (mk f.body))).heap[B3]? = some (.cells (fcells (ownF f) (ownV f (.slice ao nn cc))).toArray 30 (0, 0)) from eq_rowFOnly4 (blk_set HN3.out (.string (mk f.body))) HEQ.out)
  have HN5 := hid (show (w3.setCell ⟨B3, 41, none⟩ (.string (mk f.body))).heap[w.heap.size + 1]? = some (.cells (fcells zF nS).toArray 30 (0, 0)) from ((Below.heap_setCell _ _ _ (w.heap.size + 1) (by have := HG3.out; simp; omega)).trans HN2.out))
  have HB4 := hid (show Below w.heap.size w (w3.setCell ⟨B3, 41, none⟩ (.string (mk f.body))) from  (HB3.out.setCell (p := ⟨B3, 41, none⟩) (by show w.heap.size ≤ B3; have := HG3.out; omega) _))
  generalize (w3.setCell ⟨B3, 41, none⟩ (.string (mk f.body))) = w4 at HN4 HN5 HB4 ⊢
  obtain ⟨FO, HFO⟩ : ∃ L, Hid (fcells (ownF f) (ownV f (.slice ao nn cc)) = L) := ⟨_, rfl⟩
  rw [HFO.out] at HSZ HON HOS HN4
  go_wp2_with (first
    | (refine ld_row (by rfl) 30 (.tmp 3) (by rfl) B3 (by rfl) FO 30 HN4.out _ Tryz.underlying30 rfl HSZ.out ?_)
    | (refine st_row (by rfl) 30 _ _ (by rfl) (w.heap.size + 1) FO (by rfl) (by rfl) 30 _ HN5.out HSZ.out HOS.out HON.out ?_; intro w5 hw5))
  refine ret_row 2 30 rfl (w.heap.size + 1) rfl FO 30 hw5.blk _ Tryz.underlying30 rfl HSZ.out rfl ⟨by rw [HFO.out], Below.of_gb HB4.out hw5.grown (by omega)⟩

end Go.Proofs.YtiibhccbbpgehaaGreat

/- The document's only: a frame with just the fields that its kind has. -/
namespace Go.Proofs.YtiibhccbbpgehaaGreat
open Go.RowKit Go.BigFrame

theorem eq_rowFOnly5 {w : World} {g : Nat} {a b : Array Value} {t : TypeId} (h : w.heap[g]? = some (.cells a t (0, 0))) (e : a = b) : w.heap[g]? = some (.cells b t (0, 0)) := by rw [← e]; exact h

theorem built_b5 : Tryz.prog.built 30 [(0, .int .i64 5)] = some (fcells ⟨5, 0, 0, 0, List.replicate 32 0, 0, (0, 0, 0), [], []⟩ nS).toArray := by kernel_rfl

set_option maxRecDepth 100000 in
set_option maxHeartbeats 4000000 in
theorem only5_any (f : Fr) (va : Value) (w : World) (hk : f.kind = 5) (hf : f.tool.length = 32) (hv : ∃ ao n c, va = .slice ao n c) :
    Calls Tryz.prog 90 #[.agg (fcells f va).toArray] w fun e w' => e = .returned (.agg (fcells (ownF f) (ownV f va)).toArray) ∧ Below w.heap.size w w' := by
  obtain ⟨ao, nn, cc, rfl⟩ := hv
  have HNB := hid (hp_two w (.cells (fcells f (.slice ao nn cc)).toArray 30) (.cells (fcells zF nS).toArray 30))
  have HBL := hid (below_walk2 w (.cells (fcells f (.slice ao nn cc)).toArray 30) (.cells (fcells zF nS).toArray 30))
  have HZ : Hid ((w.alloc (.cells (fcells f (.slice ao nn cc)).toArray 30)).heap.size = w.heap.size + 1) := hid (by simp)
  have HOW : Hid (fcells (ownF f) (ownV f (.slice ao nn cc)) = fcells (ownF f) (ownV f (.slice ao nn cc))) := hid rfl
  have HOT := hid (ownF_tool f hf)
  have HSZ := hid (frame_size (ownF f) (ownV f (.slice ao nn cc)) HOT.out)
  have HON := hid (fcells_one (ownF f) (ownV f (.slice ao nn cc)) (by unfold ownV; split <;> rfl))
  have HOS := hid (show (fcells zF nS).toArray.size = (fcells (ownF f) (ownV f (.slice ao nn cc))).length by rw [fcells_length _ _ HOT.out]; rfl)
  have HSB := hid (frame_size ⟨5, 0, 0, 0, List.replicate 32 0, 0, (0, 0, 0), [], []⟩ nS rfl)
  have HEQ : Hid ((fcells ⟨5, 0, 0, 0, List.replicate 32 0, 0, (0, 0, 0), [], []⟩ nS).toArray = (fcells (ownF f) (ownV f (.slice ao nn cc))).toArray) := hid (by
    unfold ownF ownV
    rw [if_neg (show ¬ f.kind = 1 by omega), if_neg (show ¬ f.kind = 2 by omega), if_neg (show ¬ f.kind = 3 by omega), if_neg (show ¬ f.kind = 4 by omega), if_pos hk, if_neg (show ¬ f.kind = 2 by omega)]
    rfl)
  have HK := hid hk
  have HF := hid hf
  clear hk hf HOW
  go_enter Tryz.func90, Tryz.ntmps90
  go_upto_region 1 with (refine al_row (by rfl) 30 (by rfl) _ zeroFrame ?_)
  try rw [HZ.out]
  generalize (w.alloc (.cells (fcells f (.slice ao nn cc)).toArray 30)).alloc (.cells (fcells zF nS).toArray 30) = w2 at HNB HBL ⊢
  have x0 := (Fb.of HNB.out.1 HF.out).k
  rw [HK.out] at x0
  have HL2 := hid (hp_lt HNB.out.2)
  go_upto_region 2 with (first
    | (refine bd_row (by rfl) 30 #[(0, .tmp 5)] (by rfl) _ (by simp [Act.eval]) _ built_b5 ?_)
    | (refine al_row (by rfl) 30 (by rfl) _ zeroFrame ?_)
    | (refine st_new (by rfl) 30 _ _ (by rfl) (fcells ⟨5, 0, 0, 0, List.replicate 32 0, 0, (0, 0, 0), [], []⟩ nS) (by rfl) (by rfl) 30 _ HSB.out rfl (fcells_one _ nS rfl) ?_))
  have HN1 := hid ((below_walk w2 (.cells (fcells ⟨5, 0, 0, 0, List.replicate 32 0, 0, (0, 0, 0), [], []⟩ nS).toArray 30)).block _ (by have := HL2.out; omega) |>.trans HNB.out.1)
  have HN2 := hid ((below_walk w2 (.cells (fcells ⟨5, 0, 0, 0, List.replicate 32 0, 0, (0, 0, 0), [], []⟩ nS).toArray 30)).block _ HL2.out |>.trans HNB.out.2)
  have HN3 := hid (hp_new w2 (.cells (fcells ⟨5, 0, 0, 0, List.replicate 32 0, 0, (0, 0, 0), [], []⟩ nS).toArray 30))
  have HB3 := hid (below_then HBL.out (below_walk w2 (.cells (fcells ⟨5, 0, 0, 0, List.replicate 32 0, 0, (0, 0, 0), [], []⟩ nS).toArray 30)))
  have HG3 := hid (show w.heap.size + 1 < w2.heap.size from HL2.out)
  obtain ⟨B3, HE3⟩ : ∃ b : Nat, Hid (w2.heap.size = b) := ⟨_, rfl⟩
  rw [HE3.out] at HN3 HG3 ⊢
  generalize w2.alloc (.cells (fcells ⟨5, 0, 0, 0, List.replicate 32 0, 0, (0, 0, 0), [], []⟩ nS).toArray 30) = w3 at HN1 HN2 HN3 HB3 ⊢
  clear x0 HNB HBL HL2
  have HFB := hid (Fb.of HN1.out HF.out)
  have HFC := hid (Fb.of HN3.out (show (⟨5, 0, 0, 0, List.replicate 32 0, 0, (0, 0, 0), [], []⟩ : Fr).tool.length = 32 from rfl))
  have x1 := HFB.out.k
  rw [HK.out] at x1
  have ne1 : ¬ w.heap.size = B3 := by have := HG3.out; omega
  have ne2 : ¬ B3 = w.heap.size := by have := HG3.out; omega
  go_upto_region 13 with fail
  have HN4 := hid (show w3.heap[B3]? = some (.cells (fcells (ownF f) (ownV f (.slice ao nn cc))).toArray 30 (0, 0)) from eq_rowFOnly5 HN3.out HEQ.out)
  have HN5 := hid (show w3.heap[w.heap.size + 1]? = some (.cells (fcells zF nS).toArray 30 (0, 0)) from HN2.out)
  have HB4 := hid (show Below w.heap.size w w3 from  HB3.out)
  generalize w3 = w4 at HN4 HN5 HB4 ⊢
  obtain ⟨FO, HFO⟩ : ∃ L, Hid (fcells (ownF f) (ownV f (.slice ao nn cc)) = L) := ⟨_, rfl⟩
  rw [HFO.out] at HSZ HON HOS HN4
  go_wp2_with (first
    | (refine ld_row (by rfl) 30 (.tmp 3) (by rfl) B3 (by rfl) FO 30 HN4.out _ Tryz.underlying30 rfl HSZ.out ?_)
    | (refine st_row (by rfl) 30 _ _ (by rfl) (w.heap.size + 1) FO (by rfl) (by rfl) 30 _ HN5.out HSZ.out HOS.out HON.out ?_; intro w5 hw5))
  refine ret_row 2 30 rfl (w.heap.size + 1) rfl FO 30 hw5.blk _ Tryz.underlying30 rfl HSZ.out rfl ⟨by rw [HFO.out], Below.of_gb HB4.out hw5.grown (by omega)⟩

end Go.Proofs.YtiibhccbbpgehaaGreat

/- The document's only, of every kind. -/
namespace Go.Proofs.YtiibhccbbpgehaaGreat
open Go.RowKit Go.BigFrame

theorem only_any (f : Fr) (va : Value) (w : World) (hk : 1 ≤ f.kind ∧ f.kind ≤ 6) (hf : f.tool.length = 32) (hv : ∃ ao n c, va = .slice ao n c) :
    Calls Tryz.prog 90 #[.agg (fcells f va).toArray] w fun e w' => e = .returned (.agg (fcells (ownF f) (ownV f va)).toArray) ∧ Below w.heap.size w w' := by
  have h : f.kind = 1 ∨ f.kind = 2 ∨ f.kind = 3 ∨ f.kind = 4 ∨ f.kind = 5 ∨ f.kind = 6 := by omega
  rcases h with h | h | h | h | h | h
  · exact only1_any f va w h hf hv
  · exact only2_any f va w h hf hv
  · exact only3_any f va w h hf hv
  · exact only4_any f va w h hf hv
  · exact only5_any f va w h hf hv
  · exact only6_any f va w h hf hv

/-- whether a frame is what its kind owns, as the document asks it -/
theorem rsame_own (f : Fr) (va : Value) (w : World) (hf : f.tool.length = 32) (ha : Strs w va f.args) (hn : f.args.length ≤ 9223372036854775807) :
    Calls Tryz.prog 11 #[.agg (fcells f va).toArray, .agg (fcells (ownF f) (ownV f va)).toArray] w fun e w' => e = .returned (.bool (sameP f (ownF f))) ∧ Below w.heap.size w w' :=
  rsame_any f (ownF f) va (ownV f va) w hf (ownF_tool f hf) ha (own_strs ha) hn

end Go.Proofs.YtiibhccbbpgehaaGreat

/- The document's body of a frame. -/
namespace Go.Proofs.YtiibhccbbpgehaaGreat
open Go.RowKit Go.BigFrame

theorem fb_at {w w' : World} {b B : Nat} {f : Fr} {va : Value} (h : Fb w b f va) (hb : b < B) (hB : Below B w w') : Fb w' b f va := by
  have c : ∀ {i : Nat} {v : Value}, w.cell? ⟨b, i, none⟩ = some v → w'.cell? ⟨b, i, none⟩ = some v := fun {i v} hc => (hB.cell (p := ⟨b, i, none⟩) hb).trans hc
  exact ⟨c h.k, c h.i, c h.v, c h.s, fun j v hv => c (h.t j v hv), c h.st, c h.l1, c h.l2, c h.l3, c h.a, c h.bd⟩
/-- texts that lay there before B lie there still -/
theorem strs_at {w0 w w' : World} {v : Value} {ts : List (List UInt8)} (h : Strs w v ts) (h0 : Strs w0 v ts) (hB : Below w0.heap.size w w') : Strs w' v ts := by
  rcases h with h | ⟨g, o, c, hv, hlt, h1, hc⟩
  · exact Or.inl h
  · rcases h0 with ⟨ao, c0, hv0, rfl, hn⟩ | ⟨g0, o0, c0, hv0, hlt0, _, _⟩
    · exact Or.inl ⟨ao, c0, hv0, rfl, hn⟩
    · have e := hv.symm.trans hv0
      injection e with e1 _ _
      injection e1 with e1
      injection e1 with e2 _ _
      exact Or.inr ⟨g, o, c, hv, Nat.lt_of_lt_of_le hlt hB.size, h1, fun j hj => (hB.cell (p := ⟨g, o + j, none⟩) (by show g < w0.heap.size; rw [e2]; exact hlt0)).trans (hc j hj)⟩

set_option maxRecDepth 100000 in
set_option maxHeartbeats 4000000 in
theorem body4_any (f : Fr) (va : Value) (w : World) (hf : f.tool.length = 32) (hk : f.kind = 4) (I : Nat) (hi : f.id = (I : Int)) (hI : I < 18446744073709551616) :
    Calls Tryz.prog 60 #[.agg (fcells f va).toArray] w fun e w' => ∃ v, e = .returned v ∧ Src w' v (sn 4 ++ sn I) ∧ Below w.heap.size w w' := by
  have HNB := hid (hp_new w (.cells (fcells f va).toArray 30))
  have HBL := hid (below_walk w (.cells (fcells f va).toArray 30))
  have HF := hid hf
  have HK := hid hk
  have E_i := hid hi
  have len_I := sn_length_le I
  have len0 := sn_length_le 4
  have w0 : IntKind.u64.wrap 4 = 4 := rfl
  clear hf hk hi 
  go_enter Tryz.func60, Tryz.ntmps60
  go_upto_region 1 with fail
  generalize w.alloc (.cells (fcells f va).toArray 30) = w1 at HNB HBL  ⊢
  have HFB1 := hid (Fb.of HNB.out HF.out)
  have HL1 := hid (hp_lt HNB.out)
  have x0 := HFB1.out.k
  rw [HK.out] at x0
  go_wp2_with fail
  refine (refUint_any 4 w1 (by decide)).mono ?_
  rintro e w2 ⟨v2, rfl, ho2, hb2⟩
  have HO2 := hid ho2
  have HB2 := hid (below_then HBL.out hb2)
  have HFB2 := hid (HFB1.out.below HL1.out hb2)
  have HL2 := hid (Nat.lt_of_lt_of_le HL1.out hb2.size)
  have HZ2 := hid hb2.size
  have x1 := HFB2.out.k
  rw [HK.out] at x1
  obtain ⟨a2, n2, c2, e2⟩ := src_named (ho2.src (by omega))
  subst e2
  clear ho2 hb2 x0 HFB1 HNB
  have y3 := HFB2.out.i
  rw [E_i.out] at y3
  go_wp2_with fail
  refine (refUint_any I w2 (by omega)).mono ?_
  rintro e p3 ⟨u3, rfl, hou3, hbu3⟩
  have HU3 := hid (hou3.src (by omega))
  have HP3 := hid (HO2.out.below hbu3)
  have HBP3 := hid (below_then HB2.out hbu3)
  have HFP3 := hid (HFB2.out.below HL2.out hbu3)
  have HLP3 := hid (Nat.lt_of_lt_of_le HL2.out hbu3.size)
  have HZP3 := hid (Nat.le_trans HZ2.out hbu3.size)
  obtain ⟨au3, nu3, cu3, eu3⟩ := src_named HU3.out
  subst eu3
  clear hou3 hbu3 y3 HO2 HB2 HFB2 HL2 HZ2  x1
  go_wp2_with (at_builtin; refine app_src rfl _ _ rfl w1.heap.size _ _ rfl HP3.out _ _ rfl HU3.out (by (try simp only [List.length_append]); omega) HZP3.out ?_)
  intro v3 w3 ho3 hg3
  have HO3 := hid ho3
  have hbb3 : Below w1.heap.size p3 w3 := ⟨hg3.os, hg3.tape, hg3.output, hg3.size, fun k hk => hg3.block k (by have := HZP3.out; omega) (fun e => by have := (HP3.out.lt k e.symm).1; omega)⟩
  have HB3 := hid (show Below w.heap.size w w3 from below_tr HBP3.out (hbb3.mono (by have := HBL.out.size; omega)))
  have HFB3 := hid (show Fb w3 w.heap.size f va from fb_at HFP3.out HL1.out hbb3)
  have HL3 := hid (Nat.lt_of_lt_of_le HLP3.out hg3.size)
  have HZ3 := hid (Nat.le_trans HZP3.out hg3.size)
  obtain ⟨a3, n3, c3, e3⟩ := src_named (ho3.src (by (try simp only [List.length_append]); omega))
  subst e3
  clear ho3 hg3 hbb3 HP3 HU3 HBP3 HFP3 HLP3 HZP3 
  have xz := HFB3.out.k
  have hz9 := HO3.out.src (by (try simp only [List.length_append]); omega)
  have HSZ := hid (show Src w3 (.slice a3 n3 c3) (sn 4 ++ sn I) by first | exact hz9 | simpa only [List.append_assoc] using hz9)
  clear hz9
  go_wp2
  go_ret
  exact ⟨_, rfl, HSZ.out, HB3.out⟩

set_option maxRecDepth 100000 in
set_option maxHeartbeats 4000000 in
theorem body6_any (f : Fr) (va : Value) (w : World) (hf : f.tool.length = 32) (hk : f.kind = 6) (hB : f.body.length ≤ 2097152) :
    Calls Tryz.prog 60 #[.agg (fcells f va).toArray] w fun e w' => ∃ v, e = .returned v ∧ Src w' v (sn 6 ++ tx (mk f.body)) ∧ Below w.heap.size w w' := by
  have HNB := hid (hp_new w (.cells (fcells f va).toArray 30))
  have HBL := hid (below_walk w (.cells (fcells f va).toArray 30))
  have HF := hid hf
  have HK := hid hk
  have HTX := hid (tx_len2 (mk f.body))
  rw [mk_size] at HTX
  have len0 := sn_length_le 6
  have w0 : IntKind.u64.wrap 6 = 6 := rfl
  clear hf hk  
  go_enter Tryz.func60, Tryz.ntmps60
  go_upto_region 1 with fail
  generalize w.alloc (.cells (fcells f va).toArray 30) = w1 at HNB HBL  ⊢
  have HFB1 := hid (Fb.of HNB.out HF.out)
  have HL1 := hid (hp_lt HNB.out)
  have x0 := HFB1.out.k
  rw [HK.out] at x0
  go_wp2_with fail
  refine (refUint_any 6 w1 (by decide)).mono ?_
  rintro e w2 ⟨v2, rfl, ho2, hb2⟩
  have HO2 := hid ho2
  have HB2 := hid (below_then HBL.out hb2)
  have HFB2 := hid (HFB1.out.below HL1.out hb2)
  have HL2 := hid (Nat.lt_of_lt_of_le HL1.out hb2.size)
  have HZ2 := hid hb2.size
  have x1 := HFB2.out.k
  rw [HK.out] at x1
  obtain ⟨a2, n2, c2, e2⟩ := src_named (ho2.src (by omega))
  subst e2
  clear ho2 hb2 x0 HFB1 HNB
  have y3 := HFB2.out.bd
  go_wp2_with fail
  refine (refText_any (mk f.body) w2 (by rw [mk_size]; omega)).mono ?_
  rintro e p3 ⟨u3, rfl, hou3, hbu3⟩
  have HU3 := hid (hou3.src (by have := HTX.out; omega))
  have HP3 := hid (HO2.out.below hbu3)
  have HBP3 := hid (below_then HB2.out hbu3)
  have HFP3 := hid (HFB2.out.below HL2.out hbu3)
  have HLP3 := hid (Nat.lt_of_lt_of_le HL2.out hbu3.size)
  have HZP3 := hid (Nat.le_trans HZ2.out hbu3.size)
  obtain ⟨au3, nu3, cu3, eu3⟩ := src_named HU3.out
  subst eu3
  clear hou3 hbu3 y3 HO2 HB2 HFB2 HL2 HZ2  x1
  go_wp2_with (at_builtin; refine app_src rfl _ _ rfl w1.heap.size _ _ rfl HP3.out _ _ rfl HU3.out (by (try simp only [List.length_append]); have := HTX.out; omega) HZP3.out ?_)
  intro v3 w3 ho3 hg3
  have HO3 := hid ho3
  have hbb3 : Below w1.heap.size p3 w3 := ⟨hg3.os, hg3.tape, hg3.output, hg3.size, fun k hk => hg3.block k (by have := HZP3.out; omega) (fun e => by have := (HP3.out.lt k e.symm).1; omega)⟩
  have HB3 := hid (show Below w.heap.size w w3 from below_tr HBP3.out (hbb3.mono (by have := HBL.out.size; omega)))
  have HFB3 := hid (show Fb w3 w.heap.size f va from fb_at HFP3.out HL1.out hbb3)
  have HL3 := hid (Nat.lt_of_lt_of_le HLP3.out hg3.size)
  have HZ3 := hid (Nat.le_trans HZP3.out hg3.size)
  obtain ⟨a3, n3, c3, e3⟩ := src_named (ho3.src (by (try simp only [List.length_append]); have := HTX.out; omega))
  subst e3
  clear ho3 hg3 hbb3 HP3 HU3 HBP3 HFP3 HLP3 HZP3 
  have xz := HFB3.out.k
  have hz9 := HO3.out.src (by (try simp only [List.length_append]); have := HTX.out; omega)
  have HSZ := hid (show Src w3 (.slice a3 n3 c3) (sn 6 ++ tx (mk f.body)) by first | exact hz9 | simpa only [List.append_assoc] using hz9)
  clear hz9
  go_wp2
  go_ret
  exact ⟨_, rfl, HSZ.out, HB3.out⟩

set_option maxRecDepth 100000 in
set_option maxHeartbeats 4000000 in
theorem body3_any (f : Fr) (va : Value) (w : World) (hf : f.tool.length = 32) (hk : f.kind = 3) (I S : Nat) (hi : f.id = (I : Int)) (hI : I < 18446744073709551616) (hst : f.status = (S : Int)) (kS : S ≤ 9223372036854775807) (hB : f.body.length ≤ 2097152) :
    Calls Tryz.prog 60 #[.agg (fcells f va).toArray] w fun e w' => ∃ v, e = .returned v ∧ Src w' v (sn 3 ++ sn I ++ sn S ++ tx (mk f.body)) ∧ Below w.heap.size w w' := by
  have HNB := hid (hp_new w (.cells (fcells f va).toArray 30))
  have HBL := hid (below_walk w (.cells (fcells f va).toArray 30))
  have HF := hid hf
  have HK := hid hk
  have E_i := hid hi
  have E_st := hid hst
  have HTX := hid (tx_len2 (mk f.body))
  rw [mk_size] at HTX
  have len_I := sn_length_le I
  have len_S := sn_length_le S
  have wr_S : IntKind.u64.wrap (S : Int) = (S : Int) := by rw [IntKind.wrap_u64]; omega
  have len0 := sn_length_le 3
  have w0 : IntKind.u64.wrap 3 = 3 := rfl
  clear hf hk hi hst 
  go_enter Tryz.func60, Tryz.ntmps60
  go_upto_region 1 with fail
  generalize w.alloc (.cells (fcells f va).toArray 30) = w1 at HNB HBL  ⊢
  have HFB1 := hid (Fb.of HNB.out HF.out)
  have HL1 := hid (hp_lt HNB.out)
  have x0 := HFB1.out.k
  rw [HK.out] at x0
  go_wp2_with fail
  refine (refUint_any 3 w1 (by decide)).mono ?_
  rintro e w2 ⟨v2, rfl, ho2, hb2⟩
  have HO2 := hid ho2
  have HB2 := hid (below_then HBL.out hb2)
  have HFB2 := hid (HFB1.out.below HL1.out hb2)
  have HL2 := hid (Nat.lt_of_lt_of_le HL1.out hb2.size)
  have HZ2 := hid hb2.size
  have x1 := HFB2.out.k
  rw [HK.out] at x1
  obtain ⟨a2, n2, c2, e2⟩ := src_named (ho2.src (by omega))
  subst e2
  clear ho2 hb2 x0 HFB1 HNB
  have y3 := HFB2.out.i
  rw [E_i.out] at y3
  go_wp2_with fail
  refine (refUint_any I w2 (by omega)).mono ?_
  rintro e p3 ⟨u3, rfl, hou3, hbu3⟩
  have HU3 := hid (hou3.src (by omega))
  have HP3 := hid (HO2.out.below hbu3)
  have HBP3 := hid (below_then HB2.out hbu3)
  have HFP3 := hid (HFB2.out.below HL2.out hbu3)
  have HLP3 := hid (Nat.lt_of_lt_of_le HL2.out hbu3.size)
  have HZP3 := hid (Nat.le_trans HZ2.out hbu3.size)
  obtain ⟨au3, nu3, cu3, eu3⟩ := src_named HU3.out
  subst eu3
  clear hou3 hbu3 y3 HO2 HB2 HFB2 HL2 HZ2  x1
  go_wp2_with (at_builtin; refine app_src rfl _ _ rfl w1.heap.size _ _ rfl HP3.out _ _ rfl HU3.out (by (try simp only [List.length_append]); have := HTX.out; omega) HZP3.out ?_)
  intro v3 w3 ho3 hg3
  have HO3 := hid ho3
  have hbb3 : Below w1.heap.size p3 w3 := ⟨hg3.os, hg3.tape, hg3.output, hg3.size, fun k hk => hg3.block k (by have := HZP3.out; omega) (fun e => by have := (HP3.out.lt k e.symm).1; omega)⟩
  have HB3 := hid (show Below w.heap.size w w3 from below_tr HBP3.out (hbb3.mono (by have := HBL.out.size; omega)))
  have HFB3 := hid (show Fb w3 w.heap.size f va from fb_at HFP3.out HL1.out hbb3)
  have HL3 := hid (Nat.lt_of_lt_of_le HLP3.out hg3.size)
  have HZ3 := hid (Nat.le_trans HZP3.out hg3.size)
  obtain ⟨a3, n3, c3, e3⟩ := src_named (ho3.src (by (try simp only [List.length_append]); have := HTX.out; omega))
  subst e3
  clear ho3 hg3 hbb3 HP3 HU3 HBP3 HFP3 HLP3 HZP3 
  have y4 := HFB3.out.st
  rw [E_st.out] at y4
  go_wp2_with fail
  refine (refUint_any S w3 (by omega)).mono ?_
  rintro e p4 ⟨u4, rfl, hou4, hbu4⟩
  have HU4 := hid (hou4.src (by omega))
  have HP4 := hid (HO3.out.below hbu4)
  have HBP4 := hid (below_then HB3.out hbu4)
  have HFP4 := hid (HFB3.out.below HL3.out hbu4)
  have HLP4 := hid (Nat.lt_of_lt_of_le HL3.out hbu4.size)
  have HZP4 := hid (Nat.le_trans HZ3.out hbu4.size)
  obtain ⟨au4, nu4, cu4, eu4⟩ := src_named HU4.out
  subst eu4
  clear hou4 hbu4 y4 HO3 HB3 HFB3 HL3 HZ3  
  go_wp2_with (at_builtin; refine app_src rfl _ _ rfl w1.heap.size _ _ rfl HP4.out _ _ rfl HU4.out (by (try simp only [List.length_append]); have := HTX.out; omega) HZP4.out ?_)
  intro v4 w4 ho4 hg4
  have HO4 := hid ho4
  have hbb4 : Below w1.heap.size p4 w4 := ⟨hg4.os, hg4.tape, hg4.output, hg4.size, fun k hk => hg4.block k (by have := HZP4.out; omega) (fun e => by have := (HP4.out.lt k e.symm).1; omega)⟩
  have HB4 := hid (show Below w.heap.size w w4 from below_tr HBP4.out (hbb4.mono (by have := HBL.out.size; omega)))
  have HFB4 := hid (show Fb w4 w.heap.size f va from fb_at HFP4.out HL1.out hbb4)
  have HL4 := hid (Nat.lt_of_lt_of_le HLP4.out hg4.size)
  have HZ4 := hid (Nat.le_trans HZP4.out hg4.size)
  obtain ⟨a4, n4, c4, e4⟩ := src_named (ho4.src (by (try simp only [List.length_append]); have := HTX.out; omega))
  subst e4
  clear ho4 hg4 hbb4 HP4 HU4 HBP4 HFP4 HLP4 HZP4 
  have y5 := HFB4.out.bd
  go_wp2_with fail
  refine (refText_any (mk f.body) w4 (by rw [mk_size]; omega)).mono ?_
  rintro e p5 ⟨u5, rfl, hou5, hbu5⟩
  have HU5 := hid (hou5.src (by have := HTX.out; omega))
  have HP5 := hid (HO4.out.below hbu5)
  have HBP5 := hid (below_then HB4.out hbu5)
  have HFP5 := hid (HFB4.out.below HL4.out hbu5)
  have HLP5 := hid (Nat.lt_of_lt_of_le HL4.out hbu5.size)
  have HZP5 := hid (Nat.le_trans HZ4.out hbu5.size)
  obtain ⟨au5, nu5, cu5, eu5⟩ := src_named HU5.out
  subst eu5
  clear hou5 hbu5 y5 HO4 HB4 HFB4 HL4 HZ4  
  go_wp2_with (at_builtin; refine app_src rfl _ _ rfl w1.heap.size _ _ rfl HP5.out _ _ rfl HU5.out (by (try simp only [List.length_append]); have := HTX.out; omega) HZP5.out ?_)
  intro v5 w5 ho5 hg5
  have HO5 := hid ho5
  have hbb5 : Below w1.heap.size p5 w5 := ⟨hg5.os, hg5.tape, hg5.output, hg5.size, fun k hk => hg5.block k (by have := HZP5.out; omega) (fun e => by have := (HP5.out.lt k e.symm).1; omega)⟩
  have HB5 := hid (show Below w.heap.size w w5 from below_tr HBP5.out (hbb5.mono (by have := HBL.out.size; omega)))
  have HFB5 := hid (show Fb w5 w.heap.size f va from fb_at HFP5.out HL1.out hbb5)
  have HL5 := hid (Nat.lt_of_lt_of_le HLP5.out hg5.size)
  have HZ5 := hid (Nat.le_trans HZP5.out hg5.size)
  obtain ⟨a5, n5, c5, e5⟩ := src_named (ho5.src (by (try simp only [List.length_append]); have := HTX.out; omega))
  subst e5
  clear ho5 hg5 hbb5 HP5 HU5 HBP5 HFP5 HLP5 HZP5 
  have xz := HFB5.out.k
  have hz9 := HO5.out.src (by (try simp only [List.length_append]); have := HTX.out; omega)
  have HSZ := hid (show Src w5 (.slice a5 n5 c5) (sn 3 ++ sn I ++ sn S ++ tx (mk f.body)) by first | exact hz9 | simpa only [List.append_assoc] using hz9)
  clear hz9
  go_wp2
  go_ret
  exact ⟨_, rfl, HSZ.out, HB5.out⟩

set_option maxRecDepth 100000 in
set_option maxHeartbeats 4000000 in
theorem body2_any (f : Fr) (va : Value) (w : World) (hf : f.tool.length = 32) (hk : f.kind = 2) (I a b c : Nat) (hi : f.id = (I : Int)) (hI : I < 18446744073709551616) (h1 : f.lim.1 = (a : Int)) (h2 : f.lim.2.1 = (b : Int)) (h3 : f.lim.2.2 = (c : Int)) (ka : a ≤ 9223372036854775807) (kb : b ≤ 9223372036854775807) (kc : c ≤ 9223372036854775807) (ha : Strs w va f.args) (hA : (txs (f.args.map mk)).length ≤ 100000) (hB : f.body.length ≤ 2097152) :
    Calls Tryz.prog 60 #[.agg (fcells f va).toArray] w fun e w' => ∃ v, e = .returned v ∧ Src w' v (sn 2 ++ sn I ++ sn a ++ sn b ++ sn c ++ ls (f.args.map mk) ++ tx (mk f.body)) ∧ Below w.heap.size w w' := by
  obtain ⟨av, cv, ev⟩ := ha.shape
  have HEV := hid ev
  clear ev
  have HNB := hid (hp_new w (.cells (fcells f va).toArray 30))
  have HBL := hid (below_walk w (.cells (fcells f va).toArray 30))
  have HSA := hid (ha.below HBL.out)
  have HF := hid hf
  have HK := hid hk
  have E_i := hid hi
  have E_l1 := hid h1
  have E_l2 := hid h2
  have E_l3 := hid h3
  have HTX := hid (tx_len2 (mk f.body))
  rw [mk_size] at HTX
  have hll : (ls (f.args.map mk)).length ≤ 100010 := by
    have := sn_length_le (f.args.map mk).length
    unfold ls
    rw [List.length_append]
    omega
  have len_I := sn_length_le I
  have len_a := sn_length_le a
  have wr_a : IntKind.u64.wrap (a : Int) = (a : Int) := by rw [IntKind.wrap_u64]; omega
  have len_b := sn_length_le b
  have wr_b : IntKind.u64.wrap (b : Int) = (b : Int) := by rw [IntKind.wrap_u64]; omega
  have len_c := sn_length_le c
  have wr_c : IntKind.u64.wrap (c : Int) = (c : Int) := by rw [IntKind.wrap_u64]; omega
  have len0 := sn_length_le 2
  have w0 : IntKind.u64.wrap 2 = 2 := rfl
  clear hf hk hi h1 h2 h3 ha
  go_enter Tryz.func60, Tryz.ntmps60
  go_upto_region 1 with fail
  generalize w.alloc (.cells (fcells f va).toArray 30) = w1 at HNB HBL HSA ⊢
  have HFB1 := hid (Fb.of HNB.out HF.out)
  have HL1 := hid (hp_lt HNB.out)
  have x0 := HFB1.out.k
  rw [HK.out] at x0
  go_wp2_with fail
  refine (refUint_any 2 w1 (by decide)).mono ?_
  rintro e w2 ⟨v2, rfl, ho2, hb2⟩
  have HO2 := hid ho2
  have HB2 := hid (below_then HBL.out hb2)
  have HFB2 := hid (HFB1.out.below HL1.out hb2)
  have HL2 := hid (Nat.lt_of_lt_of_le HL1.out hb2.size)
  have HZ2 := hid hb2.size
  have HSA2 := hid (HSA.out.below hb2)
  have x1 := HFB2.out.k
  rw [HK.out] at x1
  obtain ⟨a2, n2, c2, e2⟩ := src_named (ho2.src (by omega))
  subst e2
  clear ho2 hb2 x0 HFB1 HNB
  have y3 := HFB2.out.i
  rw [E_i.out] at y3
  go_wp2_with fail
  refine (refUint_any I w2 (by omega)).mono ?_
  rintro e p3 ⟨u3, rfl, hou3, hbu3⟩
  have HU3 := hid (hou3.src (by omega))
  have HP3 := hid (HO2.out.below hbu3)
  have HBP3 := hid (below_then HB2.out hbu3)
  have HFP3 := hid (HFB2.out.below HL2.out hbu3)
  have HLP3 := hid (Nat.lt_of_lt_of_le HL2.out hbu3.size)
  have HZP3 := hid (Nat.le_trans HZ2.out hbu3.size)
  have HSP3 := hid (HSA2.out.below hbu3)
  obtain ⟨au3, nu3, cu3, eu3⟩ := src_named HU3.out
  subst eu3
  clear hou3 hbu3 y3 HO2 HB2 HFB2 HL2 HZ2 HSA2 x1
  go_wp2_with (at_builtin; refine app_src rfl _ _ rfl w1.heap.size _ _ rfl HP3.out _ _ rfl HU3.out (by (try simp only [List.length_append]); have := HTX.out; omega) HZP3.out ?_)
  intro v3 w3 ho3 hg3
  have HO3 := hid ho3
  have hbb3 : Below w1.heap.size p3 w3 := ⟨hg3.os, hg3.tape, hg3.output, hg3.size, fun k hk => hg3.block k (by have := HZP3.out; omega) (fun e => by have := (HP3.out.lt k e.symm).1; omega)⟩
  have HB3 := hid (show Below w.heap.size w w3 from below_tr HBP3.out (hbb3.mono (by have := HBL.out.size; omega)))
  have HFB3 := hid (show Fb w3 w.heap.size f va from fb_at HFP3.out HL1.out hbb3)
  have HL3 := hid (Nat.lt_of_lt_of_le HLP3.out hg3.size)
  have HZ3 := hid (Nat.le_trans HZP3.out hg3.size)
  have HSA3 := hid (strs_at HSP3.out HSA.out hbb3)
  obtain ⟨a3, n3, c3, e3⟩ := src_named (ho3.src (by (try simp only [List.length_append]); have := HTX.out; omega))
  subst e3
  clear ho3 hg3 hbb3 HP3 HU3 HBP3 HFP3 HLP3 HZP3 HSP3
  have y4 := HFB3.out.l1
  rw [E_l1.out] at y4
  go_wp2_with fail
  refine (refUint_any a w3 (by omega)).mono ?_
  rintro e p4 ⟨u4, rfl, hou4, hbu4⟩
  have HU4 := hid (hou4.src (by omega))
  have HP4 := hid (HO3.out.below hbu4)
  have HBP4 := hid (below_then HB3.out hbu4)
  have HFP4 := hid (HFB3.out.below HL3.out hbu4)
  have HLP4 := hid (Nat.lt_of_lt_of_le HL3.out hbu4.size)
  have HZP4 := hid (Nat.le_trans HZ3.out hbu4.size)
  have HSP4 := hid (HSA3.out.below hbu4)
  obtain ⟨au4, nu4, cu4, eu4⟩ := src_named HU4.out
  subst eu4
  clear hou4 hbu4 y4 HO3 HB3 HFB3 HL3 HZ3 HSA3 
  go_wp2_with (at_builtin; refine app_src rfl _ _ rfl w1.heap.size _ _ rfl HP4.out _ _ rfl HU4.out (by (try simp only [List.length_append]); have := HTX.out; omega) HZP4.out ?_)
  intro v4 w4 ho4 hg4
  have HO4 := hid ho4
  have hbb4 : Below w1.heap.size p4 w4 := ⟨hg4.os, hg4.tape, hg4.output, hg4.size, fun k hk => hg4.block k (by have := HZP4.out; omega) (fun e => by have := (HP4.out.lt k e.symm).1; omega)⟩
  have HB4 := hid (show Below w.heap.size w w4 from below_tr HBP4.out (hbb4.mono (by have := HBL.out.size; omega)))
  have HFB4 := hid (show Fb w4 w.heap.size f va from fb_at HFP4.out HL1.out hbb4)
  have HL4 := hid (Nat.lt_of_lt_of_le HLP4.out hg4.size)
  have HZ4 := hid (Nat.le_trans HZP4.out hg4.size)
  have HSA4 := hid (strs_at HSP4.out HSA.out hbb4)
  obtain ⟨a4, n4, c4, e4⟩ := src_named (ho4.src (by (try simp only [List.length_append]); have := HTX.out; omega))
  subst e4
  clear ho4 hg4 hbb4 HP4 HU4 HBP4 HFP4 HLP4 HZP4 HSP4
  have y5 := HFB4.out.l2
  rw [E_l2.out] at y5
  go_wp2_with fail
  refine (refUint_any b w4 (by omega)).mono ?_
  rintro e p5 ⟨u5, rfl, hou5, hbu5⟩
  have HU5 := hid (hou5.src (by omega))
  have HP5 := hid (HO4.out.below hbu5)
  have HBP5 := hid (below_then HB4.out hbu5)
  have HFP5 := hid (HFB4.out.below HL4.out hbu5)
  have HLP5 := hid (Nat.lt_of_lt_of_le HL4.out hbu5.size)
  have HZP5 := hid (Nat.le_trans HZ4.out hbu5.size)
  have HSP5 := hid (HSA4.out.below hbu5)
  obtain ⟨au5, nu5, cu5, eu5⟩ := src_named HU5.out
  subst eu5
  clear hou5 hbu5 y5 HO4 HB4 HFB4 HL4 HZ4 HSA4 
  go_wp2_with (at_builtin; refine app_src rfl _ _ rfl w1.heap.size _ _ rfl HP5.out _ _ rfl HU5.out (by (try simp only [List.length_append]); have := HTX.out; omega) HZP5.out ?_)
  intro v5 w5 ho5 hg5
  have HO5 := hid ho5
  have hbb5 : Below w1.heap.size p5 w5 := ⟨hg5.os, hg5.tape, hg5.output, hg5.size, fun k hk => hg5.block k (by have := HZP5.out; omega) (fun e => by have := (HP5.out.lt k e.symm).1; omega)⟩
  have HB5 := hid (show Below w.heap.size w w5 from below_tr HBP5.out (hbb5.mono (by have := HBL.out.size; omega)))
  have HFB5 := hid (show Fb w5 w.heap.size f va from fb_at HFP5.out HL1.out hbb5)
  have HL5 := hid (Nat.lt_of_lt_of_le HLP5.out hg5.size)
  have HZ5 := hid (Nat.le_trans HZP5.out hg5.size)
  have HSA5 := hid (strs_at HSP5.out HSA.out hbb5)
  obtain ⟨a5, n5, c5, e5⟩ := src_named (ho5.src (by (try simp only [List.length_append]); have := HTX.out; omega))
  subst e5
  clear ho5 hg5 hbb5 HP5 HU5 HBP5 HFP5 HLP5 HZP5 HSP5
  have y6 := HFB5.out.l3
  rw [E_l3.out] at y6
  go_wp2_with fail
  refine (refUint_any c w5 (by omega)).mono ?_
  rintro e p6 ⟨u6, rfl, hou6, hbu6⟩
  have HU6 := hid (hou6.src (by omega))
  have HP6 := hid (HO5.out.below hbu6)
  have HBP6 := hid (below_then HB5.out hbu6)
  have HFP6 := hid (HFB5.out.below HL5.out hbu6)
  have HLP6 := hid (Nat.lt_of_lt_of_le HL5.out hbu6.size)
  have HZP6 := hid (Nat.le_trans HZ5.out hbu6.size)
  have HSP6 := hid (HSA5.out.below hbu6)
  obtain ⟨au6, nu6, cu6, eu6⟩ := src_named HU6.out
  subst eu6
  clear hou6 hbu6 y6 HO5 HB5 HFB5 HL5 HZ5 HSA5 
  go_wp2_with (at_builtin; refine app_src rfl _ _ rfl w1.heap.size _ _ rfl HP6.out _ _ rfl HU6.out (by (try simp only [List.length_append]); have := HTX.out; omega) HZP6.out ?_)
  intro v6 w6 ho6 hg6
  have HO6 := hid ho6
  have hbb6 : Below w1.heap.size p6 w6 := ⟨hg6.os, hg6.tape, hg6.output, hg6.size, fun k hk => hg6.block k (by have := HZP6.out; omega) (fun e => by have := (HP6.out.lt k e.symm).1; omega)⟩
  have HB6 := hid (show Below w.heap.size w w6 from below_tr HBP6.out (hbb6.mono (by have := HBL.out.size; omega)))
  have HFB6 := hid (show Fb w6 w.heap.size f va from fb_at HFP6.out HL1.out hbb6)
  have HL6 := hid (Nat.lt_of_lt_of_le HLP6.out hg6.size)
  have HZ6 := hid (Nat.le_trans HZP6.out hg6.size)
  have HSA6 := hid (strs_at HSP6.out HSA.out hbb6)
  obtain ⟨a6, n6, c6, e6⟩ := src_named (ho6.src (by (try simp only [List.length_append]); have := HTX.out; omega))
  subst e6
  clear ho6 hg6 hbb6 HP6 HU6 HBP6 HFP6 HLP6 HZP6 HSP6
  have y7 := HFB6.out.a
  rw [HEV.out] at y7
  go_wp2_with fail
  refine (refList_any _ (f.args.map mk) w6 (by rw [← HEV.out]; exact wstrs_of HSA6.out) (by omega)).mono ?_
  rintro e p7 ⟨u7, rfl, hou7, hbu7⟩
  have HU7 := hid (hou7.src (by omega))
  have HP7 := hid (HO6.out.below hbu7)
  have HBP7 := hid (below_then HB6.out hbu7)
  have HFP7 := hid (HFB6.out.below HL6.out hbu7)
  have HLP7 := hid (Nat.lt_of_lt_of_le HL6.out hbu7.size)
  have HZP7 := hid (Nat.le_trans HZ6.out hbu7.size)
  have HSP7 := hid (HSA6.out.below hbu7)
  obtain ⟨au7, nu7, cu7, eu7⟩ := src_named HU7.out
  subst eu7
  clear hou7 hbu7 y7 HO6 HB6 HFB6 HL6 HZ6 HSA6 
  go_wp2_with (at_builtin; refine app_src rfl _ _ rfl w1.heap.size _ _ rfl HP7.out _ _ rfl HU7.out (by (try simp only [List.length_append]); have := HTX.out; omega) HZP7.out ?_)
  intro v7 w7 ho7 hg7
  have HO7 := hid ho7
  have hbb7 : Below w1.heap.size p7 w7 := ⟨hg7.os, hg7.tape, hg7.output, hg7.size, fun k hk => hg7.block k (by have := HZP7.out; omega) (fun e => by have := (HP7.out.lt k e.symm).1; omega)⟩
  have HB7 := hid (show Below w.heap.size w w7 from below_tr HBP7.out (hbb7.mono (by have := HBL.out.size; omega)))
  have HFB7 := hid (show Fb w7 w.heap.size f va from fb_at HFP7.out HL1.out hbb7)
  have HL7 := hid (Nat.lt_of_lt_of_le HLP7.out hg7.size)
  have HZ7 := hid (Nat.le_trans HZP7.out hg7.size)
  have HSA7 := hid (strs_at HSP7.out HSA.out hbb7)
  obtain ⟨a7, n7, c7, e7⟩ := src_named (ho7.src (by (try simp only [List.length_append]); have := HTX.out; omega))
  subst e7
  clear ho7 hg7 hbb7 HP7 HU7 HBP7 HFP7 HLP7 HZP7 HSP7
  have y8 := HFB7.out.bd
  go_wp2_with fail
  refine (refText_any (mk f.body) w7 (by rw [mk_size]; omega)).mono ?_
  rintro e p8 ⟨u8, rfl, hou8, hbu8⟩
  have HU8 := hid (hou8.src (by have := HTX.out; omega))
  have HP8 := hid (HO7.out.below hbu8)
  have HBP8 := hid (below_then HB7.out hbu8)
  have HFP8 := hid (HFB7.out.below HL7.out hbu8)
  have HLP8 := hid (Nat.lt_of_lt_of_le HL7.out hbu8.size)
  have HZP8 := hid (Nat.le_trans HZ7.out hbu8.size)
  have HSP8 := hid (HSA7.out.below hbu8)
  obtain ⟨au8, nu8, cu8, eu8⟩ := src_named HU8.out
  subst eu8
  clear hou8 hbu8 y8 HO7 HB7 HFB7 HL7 HZ7 HSA7 
  go_wp2_with (at_builtin; refine app_src rfl _ _ rfl w1.heap.size _ _ rfl HP8.out _ _ rfl HU8.out (by (try simp only [List.length_append]); have := HTX.out; omega) HZP8.out ?_)
  intro v8 w8 ho8 hg8
  have HO8 := hid ho8
  have hbb8 : Below w1.heap.size p8 w8 := ⟨hg8.os, hg8.tape, hg8.output, hg8.size, fun k hk => hg8.block k (by have := HZP8.out; omega) (fun e => by have := (HP8.out.lt k e.symm).1; omega)⟩
  have HB8 := hid (show Below w.heap.size w w8 from below_tr HBP8.out (hbb8.mono (by have := HBL.out.size; omega)))
  have HFB8 := hid (show Fb w8 w.heap.size f va from fb_at HFP8.out HL1.out hbb8)
  have HL8 := hid (Nat.lt_of_lt_of_le HLP8.out hg8.size)
  have HZ8 := hid (Nat.le_trans HZP8.out hg8.size)
  have HSA8 := hid (strs_at HSP8.out HSA.out hbb8)
  obtain ⟨a8, n8, c8, e8⟩ := src_named (ho8.src (by (try simp only [List.length_append]); have := HTX.out; omega))
  subst e8
  clear ho8 hg8 hbb8 HP8 HU8 HBP8 HFP8 HLP8 HZP8 HSP8
  have xz := HFB8.out.k
  have hz9 := HO8.out.src (by (try simp only [List.length_append]); have := HTX.out; omega)
  have HSZ := hid (show Src w8 (.slice a8 n8 c8) (sn 2 ++ sn I ++ sn a ++ sn b ++ sn c ++ ls (f.args.map mk) ++ tx (mk f.body)) by first | exact hz9 | simpa only [List.append_assoc] using hz9)
  clear hz9
  go_wp2
  go_ret
  exact ⟨_, rfl, HSZ.out, HB8.out⟩

end Go.Proofs.YtiibhccbbpgehaaGreat

/- The document's body of a hello. -/
namespace Go.Proofs.YtiibhccbbpgehaaGreat
open Go.RowKit Go.BigFrame

set_option maxRecDepth 100000 in
set_option maxHeartbeats 4000000 in
theorem body1_any (f : Fr) (va : Value) (w : World) (hf : f.tool.length = 32) (hk : f.kind = 1) (V S : Nat) (hv : f.ver = (V : Int)) (hs : f.slots = (S : Int)) (kV : V ≤ 9223372036854775807) (kS : S ≤ 9223372036854775807) :
    Calls Tryz.prog 60 #[.agg (fcells f va).toArray] w fun e w' => ∃ v, e = .returned v ∧ Src w' v (sn 1 ++ sn V ++ sn S ++ f.tool) ∧ Below w.heap.size w w' := by
  have HNB := hid (hp_new w (.cells (fcells f va).toArray 30))
  have HBL := hid (below_walk w (.cells (fcells f va).toArray 30))
  have HF := hid hf
  have HK := hid hk
  have E_v := hid hv
  have E_s := hid hs
  have len_V := sn_length_le V
  have wr_V : IntKind.u64.wrap (V : Int) = (V : Int) := by rw [IntKind.wrap_u64]; omega
  have len_S := sn_length_le S
  have wr_S : IntKind.u64.wrap (S : Int) = (S : Int) := by rw [IntKind.wrap_u64]; omega
  have len0 := sn_length_le 1
  have w0 : IntKind.u64.wrap 1 = 1 := rfl
  clear hf hk hv hs 
  go_enter Tryz.func60, Tryz.ntmps60
  go_upto_region 1 with fail
  generalize w.alloc (.cells (fcells f va).toArray 30) = w1 at HNB HBL  ⊢
  have HFB1 := hid (Fb.of HNB.out HF.out)
  have HL1 := hid (hp_lt HNB.out)
  have x0 := HFB1.out.k
  rw [HK.out] at x0
  go_wp2_with fail
  refine (refUint_any 1 w1 (by decide)).mono ?_
  rintro e w2 ⟨v2, rfl, ho2, hb2⟩
  have HO2 := hid ho2
  have HB2 := hid (below_then HBL.out hb2)
  have HFB2 := hid (HFB1.out.below HL1.out hb2)
  have HL2 := hid (Nat.lt_of_lt_of_le HL1.out hb2.size)
  have HZ2 := hid hb2.size
  have x1 := HFB2.out.k
  rw [HK.out] at x1
  obtain ⟨a2, n2, c2, e2⟩ := src_named (ho2.src (by omega))
  subst e2
  clear ho2 hb2 x0 HFB1 HNB
  have y3 := HFB2.out.v
  rw [E_v.out] at y3
  go_wp2_with fail
  refine (refUint_any V w2 (by omega)).mono ?_
  rintro e p3 ⟨u3, rfl, hou3, hbu3⟩
  have HU3 := hid (hou3.src (by omega))
  have HP3 := hid (HO2.out.below hbu3)
  have HBP3 := hid (below_then HB2.out hbu3)
  have HFP3 := hid (HFB2.out.below HL2.out hbu3)
  have HLP3 := hid (Nat.lt_of_lt_of_le HL2.out hbu3.size)
  have HZP3 := hid (Nat.le_trans HZ2.out hbu3.size)
  obtain ⟨au3, nu3, cu3, eu3⟩ := src_named HU3.out
  subst eu3
  clear hou3 hbu3 y3 HO2 HB2 HFB2 HL2 HZ2  x1
  go_wp2_with (at_builtin; refine app_src rfl _ _ rfl w1.heap.size _ _ rfl HP3.out _ _ rfl HU3.out (by (try simp only [List.length_append]); omega) HZP3.out ?_)
  intro v3 w3 ho3 hg3
  have HO3 := hid ho3
  have hbb3 : Below w1.heap.size p3 w3 := ⟨hg3.os, hg3.tape, hg3.output, hg3.size, fun k hk => hg3.block k (by have := HZP3.out; omega) (fun e => by have := (HP3.out.lt k e.symm).1; omega)⟩
  have HB3 := hid (show Below w.heap.size w w3 from below_tr HBP3.out (hbb3.mono (by have := HBL.out.size; omega)))
  have HFB3 := hid (show Fb w3 w.heap.size f va from fb_at HFP3.out HL1.out hbb3)
  have HL3 := hid (Nat.lt_of_lt_of_le HLP3.out hg3.size)
  have HZ3 := hid (Nat.le_trans HZP3.out hg3.size)
  obtain ⟨a3, n3, c3, e3⟩ := src_named (ho3.src (by (try simp only [List.length_append]); omega))
  subst e3
  clear ho3 hg3 hbb3 HP3 HU3 HBP3 HFP3 HLP3 HZP3 
  have y4 := HFB3.out.s
  rw [E_s.out] at y4
  go_wp2_with fail
  refine (refUint_any S w3 (by omega)).mono ?_
  rintro e p4 ⟨u4, rfl, hou4, hbu4⟩
  have HU4 := hid (hou4.src (by omega))
  have HP4 := hid (HO3.out.below hbu4)
  have HBP4 := hid (below_then HB3.out hbu4)
  have HFP4 := hid (HFB3.out.below HL3.out hbu4)
  have HLP4 := hid (Nat.lt_of_lt_of_le HL3.out hbu4.size)
  have HZP4 := hid (Nat.le_trans HZ3.out hbu4.size)
  obtain ⟨au4, nu4, cu4, eu4⟩ := src_named HU4.out
  subst eu4
  clear hou4 hbu4 y4 HO3 HB3 HFB3 HL3 HZ3  
  go_wp2_with (at_builtin; refine app_src rfl _ _ rfl w1.heap.size _ _ rfl HP4.out _ _ rfl HU4.out (by (try simp only [List.length_append]); omega) HZP4.out ?_)
  intro v4 w4 ho4 hg4
  have HO4 := hid ho4
  have hbb4 : Below w1.heap.size p4 w4 := ⟨hg4.os, hg4.tape, hg4.output, hg4.size, fun k hk => hg4.block k (by have := HZP4.out; omega) (fun e => by have := (HP4.out.lt k e.symm).1; omega)⟩
  have HB4 := hid (show Below w.heap.size w w4 from below_tr HBP4.out (hbb4.mono (by have := HBL.out.size; omega)))
  have HFB4 := hid (show Fb w4 w.heap.size f va from fb_at HFP4.out HL1.out hbb4)
  have HL4 := hid (Nat.lt_of_lt_of_le HLP4.out hg4.size)
  have HZ4 := hid (Nat.le_trans HZP4.out hg4.size)
  obtain ⟨a4, n4, c4, e4⟩ := src_named (ho4.src (by (try simp only [List.length_append]); omega))
  subst e4
  clear ho4 hg4 hbb4 HP4 HU4 HBP4 HFP4 HLP4 HZP4 
  obtain ⟨X, HX⟩ : ∃ X, Hid (sn 1 ++ sn V ++ sn S = X) := ⟨_, rfl⟩
  have HO5 := hid (show OwnB w4 w1.heap.size (.slice a4 n4 c4) X by rw [← HX.out]; first | exact HO4.out | simpa only [List.append_assoc] using HO4.out)
  have hXl : X.length ≤ 30 := by rw [← HX.out]; simp only [List.length_append]; omega
  clear HO4
  go_wp2_with fail
  go_loopw [3, 4] (fun v i wr => ∃ k : Nat, k ≤ 32 ∧ i = .int .i64 k ∧ Hid (OwnB wr w1.heap.size v (X ++ f.tool.take k)) ∧ Hid (Below w.heap.size w wr) ∧ Hid (Fb wr w.heap.size f va) ∧ Hid (w1.heap.size ≤ wr.heap.size)) (fun _ i _ => 32 - (intOf i).toNat)
  case atStart => exact ⟨0, by omega, rfl, hid (by simpa using HO5.out), HB4, HFB4, HZ4⟩
  case round =>
    obtain ⟨k, hk, rfl, HO, HB, HFB, HZ⟩ := hrel
    have HTL := hid (show (f.tool.take k).length ≤ 32 by rw [List.length_take]; omega)
    obtain ⟨av, nv, cv, ev⟩ := src_named (HO.out.src (by rw [List.length_append]; have := HTL.out; omega))
    subst ev
    by_cases hlt : k < 32
    · have hki : (k : Int) < 32 := by omega
      have hd : decide ((k : Int) < 32) = true := by simpa using hki
      have hkt : k < f.tool.length := by rw [HF.out]; exact hlt
      have c1 : wr.cell? ⟨w.heap.size, 4 + k, none⟩ = some (.int .u8 ((f.tool.getD k 0).toNat : Nat)) := HFB.out.t k _ (by rw [bytesV_get, List.getElem?_eq_getElem hkt]; simp [List.getD_eq_getElem?_getD, List.getElem?_eq_getElem hkt])
      have HTK := hid (show f.tool.take k ++ [f.tool.getD k 0] = f.tool.take (k + 1) by rw [List.take_succ_eq_append_getElem hkt, List.getD_eq_getElem?_getD, List.getElem?_eq_getElem hkt]; rfl)
      have hkw : IntKind.i64.wrap ((k : Int) + 1) = (k : Int) + 1 := by rw [IntKind.wrap_i64]; omega
      have hpa : (⟨w.heap.size, 4, none⟩ : Addr).add k = ⟨w.heap.size, 4 + k, none⟩ := Addr.add_mid w.heap.size 4 k
      obtain ⟨T, HT⟩ : ∃ T, Hid (f.tool.getD k 0 = T) := ⟨_, rfl⟩
      rw [HT.out] at c1 HTK
      go_wp2_with (at_builtin; refine app_src rfl _ _ rfl w1.heap.size _ _ rfl (HO.out.below (below_walk wr _)) _ [T] rfl (src_lit (hp_new wr _) rfl (by simp) _ rfl) (by rw [List.length_append]; have := HTL.out; simp; omega) (by have := HZ.out; simp; omega) ?_)
      intro v9 w9 ho9 hg9
      have HO9 := hid (show OwnB w9 w1.heap.size v9 (X ++ f.tool.take (k + 1)) by rw [← HTK.out]; first | exact ho9 | simpa only [List.append_assoc] using ho9)
      have hbb : Below w1.heap.size (wr.alloc (.cells #[.int .u8 (T.toNat : Nat)] 5)) w9 := ⟨hg9.os, hg9.tape, hg9.output, hg9.size, fun j hj => hg9.block j (by have := HZ.out; simp; omega) (fun e => by have := (HO.out.lt j e.symm).1; omega)⟩
      have HB9 := hid (below_tr (below_then HB.out (below_walk wr (.cells #[.int .u8 (T.toNat : Nat)] 5))) (hbb.mono HBL.out.size))
      have HFB9 := hid (show Fb w9 w.heap.size f va from fb_at (HFB.out.below (Nat.lt_of_lt_of_le HL1.out HZ.out) (below_walk wr (.cells #[.int .u8 (T.toNat : Nat)] 5))) HL1.out hbb)
      have HZ9 := hid (show w1.heap.size ≤ w9.heap.size by have := hg9.size; have := HZ.out; simp at *; omega)
      have HT9 := hid (show (f.tool.take (k + 1)).length ≤ 32 by rw [List.length_take]; omega)
      obtain ⟨a9, n9, c9, e9⟩ := src_named (HO9.out.src (by rw [List.length_append]; have := HT9.out; omega))
      subst e9
      clear ho9 hg9 hbb c1 HO HB HFB HZ
      go_wp2
      exact ⟨⟨k + 1, by omega, by simp, HO9, HB9, HFB9, HZ9⟩, by simp [intOf]; omega⟩
    · obtain rfl : k = 32 := by omega
      have HS9 := hid (show Src wr (.slice av nv cv) (sn 1 ++ sn V ++ sn S ++ f.tool) by
        have h9 := HO.out.src (by rw [List.length_append]; have := HTL.out; omega)
        rw [List.take_of_length_le (by rw [HF.out]; omega)] at h9
        rw [HX.out]
        exact h9)
      have xz := HFB.out.k
      rw [HK.out] at xz
      go_wp2
      go_ret
      exact ⟨_, rfl, HS9.out, HB.out⟩

end Go.Proofs.YtiibhccbbpgehaaGreat

/- The document's Check of every frame. -/
namespace Go.Proofs.YtiibhccbbpgehaaGreat
open Go.RowKit Go.BigFrame

def bad1 (f : Fr) : Bool := decide (¬ (1 ≤ f.kind ∧ f.kind ≤ 6) ∨ sameP f (ownF f) = false ∨ 8 < f.args.length)
def bad2 (f : Fr) : Bool := bad1 f || decide (f.lim.1 < 0 ∨ f.lim.2.1 < 0 ∨ f.lim.2.2 < 0)
def bad3 (f : Fr) : Bool := bad2 f || decide (f.kind = 1 ∧ (f.ver ≠ 1 ∨ f.slots < 1 ∨ 64 < f.slots))
def bad4 (f : Fr) : Bool := bad3 f || decide (f.kind = 3 ∧ (f.status < 1 ∨ 3 < f.status ∨ (f.status ≠ 1 ∧ f.body ≠ [])))
theorem bad_ok (f : Fr) : (bad4 f || longA f.args) = !okFr f := by
  by_cases hk : 1 ≤ f.kind ∧ f.kind ≤ 6
  · by_cases hs : sameP f (ownF f) = true
    · have e := same_eq hs
      have hc : f.kind = 1 ∨ f.kind = 2 ∨ f.kind = 3 ∨ f.kind = 4 ∨ f.kind = 5 ∨ f.kind = 6 := by omega
      unfold bad4 bad3 bad2 bad1 okFr
      rw [hs, decide_eq_true hk]
      simp only [hk, Bool.true_and]
      rcases hc with k | k | k | k | k | k
      · rw [mayF_1 f k, own_1 f k] at *
        have eA := congrArg Fr.args e
        have eL := congrArg Fr.lim e
        simp only at eA eL
        rw [Bool.eq_iff_iff]
        simp [eA, eL, mayHelloP, longA, k]
        try omega
      · rw [mayF_2 f k]
        rw [Bool.eq_iff_iff]
        cases hl : longA f.args <;> simp [mayReqP, k, hl] <;> omega
      · rw [mayF_3 f k, own_3 f k] at *
        have eA := congrArg Fr.args e
        have eL := congrArg Fr.lim e
        simp only [resF] at eA eL
        rw [Bool.eq_iff_iff]
        by_cases hb : f.body = []
        · simp [eA, eL, mayResP, longA, k, hb]
          omega
        · simp [eA, eL, mayResP, longA, k, hb]
          omega
      · rw [mayF_4 f k, own_4 f k] at *
        have eA := congrArg Fr.args e
        have eL := congrArg Fr.lim e
        simp only [canF] at eA eL
        simp [eA, eL, longA, k]
      · rw [mayF_5 f k, own_5 f k] at *
        have eA := congrArg Fr.args e
        have eL := congrArg Fr.lim e
        simp only [byeF] at eA eL
        simp [eA, eL, longA, k]
      · rw [mayF_6 f k, own_6 f k] at *
        have eA := congrArg Fr.args e
        have eL := congrArg Fr.lim e
        simp only [noteF] at eA eL
        simp [eA, eL, longA, k]
    · have hs' : sameP f (ownF f) = false := by simpa using hs
      unfold bad4 bad3 bad2 bad1 okFr
      simp [hs']
  · unfold bad4 bad3 bad2 bad1 okFr
    rw [decide_eq_true (show ¬ (1 ≤ f.kind ∧ f.kind ≤ 6) ∨ sameP f (ownF f) = false ∨ 8 < f.args.length from Or.inl hk), decide_eq_false hk]
    rfl

set_option maxRecDepth 100000 in
set_option maxHeartbeats 4000000 in
theorem body5_any (f : Fr) (va : Value) (w : World) (hf : f.tool.length = 32) (hk : f.kind = 5) :
    Calls Tryz.prog 60 #[.agg (fcells f va).toArray] w fun e w' => ∃ v, e = .returned v ∧ Src w' v (sn 5) ∧ Below w.heap.size w w' := by
  have HNB := hid (hp_new w (.cells (fcells f va).toArray 30))
  have HBL := hid (below_walk w (.cells (fcells f va).toArray 30))
  go_enter Tryz.func60, Tryz.ntmps60
  go_upto_region 1 with fail
  generalize w.alloc (.cells (fcells f va).toArray 30) = w1 at HNB HBL ⊢
  have x0 : w1.cell? ⟨w.heap.size, 0, none⟩ = some (.int .i64 5) := by have := (Fb.of HNB.out hf).k; rw [hk] at this; exact this
  have hw5 : IntKind.u64.wrap 5 = 5 := rfl
  have HF := hid hf
  have HK := hid hk
  clear hk hf
  go_wp2_with fail
  refine (ruint_five w1).mono ?_
  rintro e w2 ⟨ao, c, rfl, ho2, hb2⟩
  have HS2 := hid (ho2.src (by simp))
  have HN2 := hid ((hb2.block _ (hp_lt HNB.out)).trans HNB.out)
  have HB2 := hid (below_then HBL.out hb2)
  have x1 : w2.cell? ⟨w.heap.size, 0, none⟩ = some (.int .i64 5) := by have := (Fb.of HN2.out HF.out).k; rw [HK.out] at this; exact this
  clear x0 hw5 ho2 hb2 HNB HBL HN2
  go_wp2
  go_ret
  exact ⟨_, rfl, HS2.out, HB2.out⟩

/-- the document's body of a frame that may be -/
theorem rbodyF_any (f : Fr) (va : Value) (W : World) (hr : Rng f) (ha : Strs W va f.args) (hk : 1 ≤ f.kind ∧ f.kind ≤ 6) (hm : mayF f = true) (hB : f.body.length ≤ 2097152) :
    Calls Tryz.prog 60 #[.agg (fcells f va).toArray] W fun e w' => ∃ v, e = .returned v ∧ Src w' v (bodyP f) ∧ Below W.heap.size W w' := by
  have hc : f.kind = 1 ∨ f.kind = 2 ∨ f.kind = 3 ∨ f.kind = 4 ∨ f.kind = 5 ∨ f.kind = 6 := by omega
  unfold bodyP
  rcases hc with k | k | k | k | k | k
  · rw [mayF_1 f k] at hm
    have h := mayHello_of hm
    rw [lay_1 f k, k, sns_two, ← List.append_assoc, ← List.append_assoc]
    exact body1_any f va W hr.tool k f.ver.toNat f.slots.toNat (toNat_eq (by omega)) (toNat_eq (by omega)) (by have := hr.ver; omega) (by have := hr.slots; omega)
  · rw [mayF_2 f k] at hm
    have h := mayReq_of hm
    rw [lay_2 f k, k]
    unfold layReqP
    rw [sns_thr]
    simp only [← List.append_assoc]
    exact body2_any f va W hr.tool k f.id.toNat f.lim.1.toNat f.lim.2.1.toNat f.lim.2.2.toNat (toNat_eq hr.idl) (by have := hr.idh; omega) (toNat_eq h.1) (toNat_eq h.2.1) (toNat_eq h.2.2.1) (by have := hr.l1; omega) (by have := hr.l2; omega) (by have := hr.l3; omega) ha (args_len h.2.2.2.2 h.2.2.2.1) hB
  · rw [mayF_3 f k] at hm
    have h := mayRes_of hm
    rw [lay_3 f k, k, sns_one]
    simp only [← List.append_assoc]
    exact body3_any f va W hr.tool k f.id.toNat f.status.toNat (toNat_eq hr.idl) (by have := hr.idh; omega) (toNat_eq (by omega)) (by have := hr.status; omega) hB
  · rw [lay_4 f k, k]
    exact body4_any f va W hr.tool k f.id.toNat (toNat_eq hr.idl) (by have := hr.idh; omega)
  · rw [lay_5 f k, k, List.append_nil]
    exact body5_any f va W hr.tool k
  · rw [lay_6 f k, k]
    exact body6_any f va W hr.tool k hB
end Go.Proofs.YtiibhccbbpgehaaGreat

/- The document's Check of every frame. -/
namespace Go.Proofs.YtiibhccbbpgehaaGreat
open Go.RowKit Go.BigFrame

theorem body_gt (f : Fr) (ho : okFr f = true) (h : 2097152 < f.body.length) : 2097152 < (bodyP f).length := by
  obtain ⟨hk, hs, hm⟩ := okFr_of ho
  rcases Nat.lt_or_ge 2097152 (bodyP f).length with h1 | h1
  · exact h1
  · exfalso
    have hc : (f.kind = 1 ∨ f.kind = 4 ∨ f.kind = 5) ∨ (f.kind = 2 ∨ f.kind = 3 ∨ f.kind = 6) := by omega
    rcases hc with k | k
    · rw [same_own_body hs k] at h
      simp at h
    · have := body_le f k h1
      omega
theorem bad1_kind (f : Fr) (h : ¬ (1 ≤ f.kind ∧ f.kind ≤ 6)) : bad1 f = true := by
  unfold bad1
  exact decide_eq_true (Or.inl h)
theorem bad1_same (f : Fr) (h : sameP f (ownF f) = false) : bad1 f = true := by
  unfold bad1
  exact decide_eq_true (Or.inr (Or.inl h))
theorem long_take {A : List (List UInt8)} {k : Nat} (h : longA (A.take k) = true) : longA A = true := by
  unfold longA at h ⊢
  rw [List.any_eq_true] at h ⊢
  obtain ⟨x, hx, hp⟩ := h
  exact ⟨x, List.mem_of_mem_take hx, hp⟩

set_option maxRecDepth 100000 in
set_option maxHeartbeats 8000000 in
theorem rcheckF_any (f : Fr) (va : Value) (w : World) (hr : Rng f) (ha : Strs w va f.args) :
    Calls Tryz.prog 59 #[.agg (fcells f va).toArray] w fun e w' => e = .returned (.int .i64 (chkE f)) ∧ Below w.heap.size w w' := by
  obtain ⟨ao, c, rfl⟩ := ha.shape
  have HNB := hid (hp_new w (.cells (fcells f (.slice ao f.args.length c)).toArray 30))
  have HBL := hid (below_walk w (.cells (fcells f (.slice ao f.args.length c)).toArray 30))
  have HSZ := hid (frame_size f (.slice ao f.args.length c) hr.tool)
  have HR := hid hr
  have HA := hid ha
  clear ha hr
  go_enter Tryz.func59, Tryz.ntmps59
  go_upto_region 1 with fail
  have HA1 := hid (HA.out.below HBL.out)
  generalize w.alloc (.cells (fcells f (.slice ao f.args.length c)).toArray 30) = w1 at HNB HBL HA1 ⊢
  have HL := hid (hp_lt HNB.out)
  go_cut [3] from 5 (fun s3 wx => s3 = .bool (bad1 f) ∧ Below w1.heap.size w1 wx)
  case first =>
    as_aux_lemma =>
      have x0 : w1.cell? ⟨w.heap.size, 0, none⟩ = some (.int .i64 f.kind) := (Fb.of HNB.out HR.out.tool).k
      have x7 : w1.cell? ⟨w.heap.size, 40, none⟩ = some (.slice ao f.args.length c) := (Fb.of HNB.out HR.out.tool).a
      have z0 := fun p : Bel w1 => p.cell x0 HL.out
      have z7 := fun p : Bel w1 => p.cell x7 HL.out
      have ib : Nonempty (Bel w1) := bel_some w1
      have HRA := hid (Bel.range (range_row HNB.out) HL.out)
      clear x0 x7
      by_cases h1 : f.kind < 1
      · have q1 : decide (f.kind < 1) = true := decide_eq_true h1
        have HB := hid ((bad1_kind f (fun h => by omega)).symm)
        refine wp_region_quiet_bel (by kernel_rfl) (by kernel_rfl) ?_
        repeat (go_big_quiet_step (fail))
        refine wpQuiet_nil ?_
        rintro w2 ⟨⟨w2', hb2⟩, hw2⟩
        obtain rfl : w2 = w2' := hw2
        go_wp2
        go_meet
        case rel => exact ⟨congrArg Value.bool HB.out, hb2⟩
      · by_cases h6 : 6 < f.kind
        · have q1 : decide (f.kind < 1) = false := decide_eq_false h1
          have q2 : decide (6 < f.kind) = true := decide_eq_true h6
          have HB := hid ((bad1_kind f (fun h => by omega)).symm)
          refine wp_region_quiet_bel (by kernel_rfl) (by kernel_rfl) ?_
          repeat (go_big_quiet_step (fail))
          refine wpQuiet_nil ?_
          rintro w2 ⟨⟨w2', hb2⟩, hw2⟩
          obtain rfl : w2 = w2' := hw2
          go_wp2
          go_meet
          case rel => exact ⟨congrArg Value.bool HB.out, hb2⟩
        · have q1 : decide (f.kind < 1) = false := decide_eq_false h1
          have q2 : decide (6 < f.kind) = false := decide_eq_false h6
          have HON := hid (fun p : Bel w1 => only_any f (.slice ao f.args.length c) p.out ⟨by omega, by omega⟩ HR.out.tool ⟨_, _, _, rfl⟩)
          have HSM := hid (fun p : Bel w1 => rsame_own f (.slice ao f.args.length c) p.out HR.out.tool (HA1.out.below p.bel) HR.out.many)
          obtain ⟨S, HS⟩ : ∃ S, Hid (sameP f (ownF f) = S) := ⟨_, rfl⟩
          rw [HS.out] at HSM
          cases S with
          | false =>
            have HB := hid ((bad1_same f HS.out).symm)
            refine wp_region_quiet_bel (by kernel_rfl) (by kernel_rfl) ?_
            go_big_quiet_step (fail)
            go_big_quiet_step (fail)
            go_big_quiet_step (fail)
            go_big_quiet_step (fail)
            go_big_quiet_step (fail)
            go_big_quiet_step (fail)
            go_big_quiet_step (fail)
            go_big_quiet_step (fail)
            go_big_quiet_step (fail)
            refine wpQuiet_want (by rfl) fun K hK => quiet_ld 30 (.tmp 1) (by rfl) w.heap.size 0 (by rfl) _ _ HRA.out Tryz.underlying30 rfl HSZ.out (hK _ ?_)
            simp only [Act.put, List.setIfInBounds_toArray, List.set_cons_succ, List.set_cons_zero]
            refine wpQuiet_want (by rfl) fun K hK => quiet_ld 30 (.tmp 1) (by rfl) w.heap.size 0 (by rfl) _ _ HRA.out Tryz.underlying30 rfl HSZ.out (hK _ ?_)
            simp only [Act.put, List.setIfInBounds_toArray, List.set_cons_succ, List.set_cons_zero]
            go_big_quiet_step (first | (go_at_call 90; exact bel_of (HON.out _)))
            go_big_quiet_step (first | (go_at_call 11; exact bel_of (HSM.out _)))
            go_big_quiet_step (fail)
            go_big_quiet_step (fail)
            go_big_quiet_step (fail)
            go_big_quiet_step (fail)
            go_big_quiet_step (fail)
            go_big_quiet_step (fail)
            go_big_quiet_step (fail)
            go_big_quiet_step (fail)
            go_big_quiet_step (fail)
            refine wpQuiet_nil ?_
            rintro w2 ⟨⟨w2', hb2⟩, hw2⟩
            obtain rfl : w2 = w2' := hw2
            go_wp2
            go_meet
            case rel => exact ⟨congrArg Value.bool HB.out, hb2⟩
          | true =>
            have HB := hid (show decide ((8 : Int) < (f.args.length : Int)) = bad1 f by
              unfold bad1
              rw [HS.out]
              refine decide_eq_decide.2 ⟨fun h => Or.inr (Or.inr (by omega)), fun h => ?_⟩
              rcases h with h | h | h
              · exact absurd (⟨by omega, by omega⟩ : 1 ≤ f.kind ∧ f.kind ≤ 6) h
              · cases h
              · omega)
            refine wp_region_quiet_bel (by kernel_rfl) (by kernel_rfl) ?_
            go_big_quiet_step (fail)
            go_big_quiet_step (fail)
            go_big_quiet_step (fail)
            go_big_quiet_step (fail)
            go_big_quiet_step (fail)
            go_big_quiet_step (fail)
            go_big_quiet_step (fail)
            go_big_quiet_step (fail)
            go_big_quiet_step (fail)
            refine wpQuiet_want (by rfl) fun K hK => quiet_ld 30 (.tmp 1) (by rfl) w.heap.size 0 (by rfl) _ _ HRA.out Tryz.underlying30 rfl HSZ.out (hK _ ?_)
            simp only [Act.put, List.setIfInBounds_toArray, List.set_cons_succ, List.set_cons_zero]
            refine wpQuiet_want (by rfl) fun K hK => quiet_ld 30 (.tmp 1) (by rfl) w.heap.size 0 (by rfl) _ _ HRA.out Tryz.underlying30 rfl HSZ.out (hK _ ?_)
            simp only [Act.put, List.setIfInBounds_toArray, List.set_cons_succ, List.set_cons_zero]
            go_big_quiet_step (first | (go_at_call 90; exact bel_of (HON.out _)))
            go_big_quiet_step (first | (go_at_call 11; exact bel_of (HSM.out _)))
            go_big_quiet_step (fail)
            go_big_quiet_step (fail)
            go_big_quiet_step (fail)
            go_big_quiet_step (fail)
            go_big_quiet_step (fail)
            go_big_quiet_step (fail)
            go_big_quiet_step (fail)
            go_big_quiet_step (fail)
            go_big_quiet_step (fail)
            refine wpQuiet_nil ?_
            rintro w2 ⟨⟨w2', hb2⟩, hw2⟩
            obtain rfl : w2 = w2' := hw2
            go_wp2
            go_meet
            case rel => exact ⟨congrArg Value.bool HB.out, hb2⟩
  case rest =>
    as_aux_lemma =>
      obtain ⟨rfl, hb2⟩ := hcut
      have HN2 := hid ((hb2.block _ HL.out).trans HNB.out)
      have HA2 := hid (HA1.out.below hb2)
      have HB2 := hid (below_then HBL.out hb2)
      clear hb2 HA1 HBL HNB HL
      have HFB := hid (Fb.of HN2.out HR.out.tool)
      have x0 := HFB.out.k
      have x2 := HFB.out.v
      have x3 := HFB.out.s
      have x5 := HFB.out.st
      have l1 := HFB.out.l1
      have l2 := HFB.out.l2
      have l3 := HFB.out.l3
      have x7 := HFB.out.a
      have x8 := HFB.out.bd
      clear HFB
      obtain ⟨b1, Hb1⟩ : ∃ b, Hid (bad1 f = b) := ⟨_, rfl⟩
      rw [Hb1.out]
      go_upto_region 2 with fail
      go_cut [3] from 5 (fun s3 wx => s3 = .bool (bad2 f) ∧ wx = wc)
      case first =>
        as_aux_lemma =>
          clear HN2 HA2 HB2 HSZ
          cases b1 with
          | true =>
            have HX := hid (show true = bad2 f from by unfold bad2; rw [Hb1.out]; rfl)
            as_aux_lemma =>
              go_wp2
              go_meet
              case rel => exact ⟨congrArg Value.bool HX.out, rfl⟩
          | false =>
            by_cases a1 : f.lim.1 < 0
            · have da1 : decide (f.lim.1 < 0) = true := decide_eq_true a1
              have HX := hid (show true = bad2 f from by unfold bad2; rw [Hb1.out, decide_eq_true (Or.inl a1)]; rfl)
              as_aux_lemma =>
                go_wp2
                go_meet
                case rel => exact ⟨congrArg Value.bool HX.out, rfl⟩
            · have da1 : decide (f.lim.1 < 0) = false := decide_eq_false a1
              by_cases a2 : f.lim.2.1 < 0
              · have da2 : decide (f.lim.2.1 < 0) = true := decide_eq_true a2
                have HX := hid (show true = bad2 f from by unfold bad2; rw [Hb1.out, decide_eq_true (Or.inr (Or.inl a2))]; rfl)
                as_aux_lemma =>
                  go_wp2
                  go_meet
                  case rel => exact ⟨congrArg Value.bool HX.out, rfl⟩
              · have da2 : decide (f.lim.2.1 < 0) = false := decide_eq_false a2
                by_cases a3 : f.lim.2.2 < 0
                · have da3 : decide (f.lim.2.2 < 0) = true := decide_eq_true a3
                  have HX := hid (show true = bad2 f from by unfold bad2; rw [Hb1.out, decide_eq_true (Or.inr (Or.inr a3))]; rfl)
                  as_aux_lemma =>
                    go_wp2
                    go_meet
                    case rel => exact ⟨congrArg Value.bool HX.out, rfl⟩
                · have da3 : decide (f.lim.2.2 < 0) = false := decide_eq_false a3
                  have HX := hid (show false = bad2 f from by unfold bad2; rw [Hb1.out, decide_eq_false (by rintro (h | h | h) <;> omega)]; rfl)
                  as_aux_lemma =>
                    go_wp2
                    go_meet
                    case rel => exact ⟨congrArg Value.bool HX.out, rfl⟩
      case rest =>
        as_aux_lemma =>
          obtain ⟨rfl, rfl⟩ := hcut
          clear Hb1
          obtain ⟨b2, Hb2⟩ : ∃ b, Hid (bad2 f = b) := ⟨_, rfl⟩
          rw [Hb2.out]
          go_upto_region 3 with fail
          go_cut [3] from 5 (fun s3 wx => s3 = .bool (bad3 f) ∧ wx = wc)
          case first =>
            as_aux_lemma =>
              clear HN2 HA2 HB2 HSZ
              cases b2 with
              | true =>
                have HX := hid (show true = bad3 f from by unfold bad3; rw [Hb2.out]; rfl)
                as_aux_lemma =>
                  go_wp2
                  go_meet
                  case rel => exact ⟨congrArg Value.bool HX.out, rfl⟩
              | false =>
                by_cases a0 : f.kind = 1
                · have da0 : decide (f.kind = 1) = true := decide_eq_true a0
                  have ea0 : (f.kind == 1) = true := by simpa using a0
                  have ga0 : (f.kind != 1) = false := by simpa using a0
                  by_cases a1 : f.ver = 1
                  · have da1 : decide (f.ver = 1) = true := decide_eq_true a1
                    have ea1 : (f.ver == 1) = true := by simpa using a1
                    have ga1 : (f.ver != 1) = false := by simpa using a1
                    by_cases a2 : f.slots < 1
                    · have da2 : decide (f.slots < 1) = true := decide_eq_true a2
                      have HX := hid (show true = bad3 f from by unfold bad3; rw [Hb2.out, decide_eq_true (⟨a0, Or.inr (Or.inl a2)⟩)]; rfl)
                      as_aux_lemma =>
                        go_wp2
                        go_meet
                        case rel => exact ⟨congrArg Value.bool HX.out, rfl⟩
                    · have da2 : decide (f.slots < 1) = false := decide_eq_false a2
                      by_cases a3 : 64 < f.slots
                      · have da3 : decide (64 < f.slots) = true := decide_eq_true a3
                        have HX := hid (show true = bad3 f from by unfold bad3; rw [Hb2.out, decide_eq_true (⟨a0, Or.inr (Or.inr a3)⟩)]; rfl)
                        as_aux_lemma =>
                          go_wp2
                          go_meet
                          case rel => exact ⟨congrArg Value.bool HX.out, rfl⟩
                      · have da3 : decide (64 < f.slots) = false := decide_eq_false a3
                        have HX := hid (show false = bad3 f from by unfold bad3; rw [Hb2.out, decide_eq_false (by rintro ⟨_, h | h | h⟩ <;> omega)]; rfl)
                        as_aux_lemma =>
                          go_wp2
                          go_meet
                          case rel => exact ⟨congrArg Value.bool HX.out, rfl⟩
                  · have da1 : decide (f.ver = 1) = false := decide_eq_false a1
                    have ea1 : (f.ver == 1) = false := by simpa using a1
                    have ga1 : (f.ver != 1) = true := by simpa using a1
                    have HX := hid (show true = bad3 f from by unfold bad3; rw [Hb2.out, decide_eq_true (⟨a0, Or.inl a1⟩)]; rfl)
                    as_aux_lemma =>
                      go_wp2
                      go_meet
                      case rel => exact ⟨congrArg Value.bool HX.out, rfl⟩
                · have da0 : decide (f.kind = 1) = false := decide_eq_false a0
                  have ea0 : (f.kind == 1) = false := by simpa using a0
                  have ga0 : (f.kind != 1) = true := by simpa using a0
                  have HX := hid (show false = bad3 f from by unfold bad3; rw [Hb2.out, decide_eq_false (fun h => a0 h.1)]; rfl)
                  as_aux_lemma =>
                    go_wp2
                    go_meet
                    case rel => exact ⟨congrArg Value.bool HX.out, rfl⟩
          case rest =>
            as_aux_lemma =>
              obtain ⟨rfl, rfl⟩ := hcut
              clear Hb2
              obtain ⟨b3, Hb3⟩ : ∃ b, Hid (bad3 f = b) := ⟨_, rfl⟩
              rw [Hb3.out]
              go_upto_region 4 with fail
              go_cut [3] from 5 (fun s3 wx => s3 = .bool (bad4 f) ∧ wx = wc)
              case first =>
                as_aux_lemma =>
                  clear HN2 HA2 HB2 HSZ
                  cases b3 with
                  | true =>
                    have HX := hid (show true = bad4 f from by unfold bad4; rw [Hb3.out]; rfl)
                    as_aux_lemma =>
                      go_wp2
                      go_meet
                      case rel => exact ⟨congrArg Value.bool HX.out, rfl⟩
                  | false =>
                    by_cases a0 : f.kind = 3
                    · have da0 : decide (f.kind = 3) = true := decide_eq_true a0
                      have ea0 : (f.kind == 3) = true := by simpa using a0
                      have ga0 : (f.kind != 3) = false := by simpa using a0
                      by_cases a1 : f.status < 1
                      · have da1 : decide (f.status < 1) = true := decide_eq_true a1
                        have HX := hid (show true = bad4 f from by unfold bad4; rw [Hb3.out, decide_eq_true (⟨a0, Or.inl a1⟩)]; rfl)
                        as_aux_lemma =>
                          go_wp2
                          go_meet
                          case rel => exact ⟨congrArg Value.bool HX.out, rfl⟩
                      · have da1 : decide (f.status < 1) = false := decide_eq_false a1
                        by_cases a2 : 3 < f.status
                        · have da2 : decide (3 < f.status) = true := decide_eq_true a2
                          have HX := hid (show true = bad4 f from by unfold bad4; rw [Hb3.out, decide_eq_true (⟨a0, Or.inr (Or.inl a2)⟩)]; rfl)
                          as_aux_lemma =>
                            go_wp2
                            go_meet
                            case rel => exact ⟨congrArg Value.bool HX.out, rfl⟩
                        · have da2 : decide (3 < f.status) = false := decide_eq_false a2
                          by_cases a3 : f.status = 1
                          · have da3 : decide (f.status = 1) = true := decide_eq_true a3
                            have ea3 : (f.status == 1) = true := by simpa using a3
                            have ga3 : (f.status != 1) = false := by simpa using a3
                            have HX := hid (show false = bad4 f from by unfold bad4; rw [Hb3.out, decide_eq_false (by rintro ⟨_, h | h | h⟩ <;> omega)]; rfl)
                            as_aux_lemma =>
                              go_wp2
                              go_meet
                              case rel => exact ⟨congrArg Value.bool HX.out, rfl⟩
                          · have da3 : decide (f.status = 1) = false := decide_eq_false a3
                            have ea3 : (f.status == 1) = false := by simpa using a3
                            have ga3 : (f.status != 1) = true := by simpa using a3
                            by_cases a4 : f.body = []
                            · have e4 : (mk f.body).toList = [] := (bl_mk f.body).trans a4
                              have e5 : ((mk f.body).toList == []) = true := by rw [e4]; rfl
                              have e6 : (mk f.body) = ⟨#[]⟩ := by rw [a4]; rfl
                              have e7 : ((mk f.body).toList != []) = false := by rw [e4]; rfl
                              have HX := hid (show false = bad4 f from by unfold bad4; rw [Hb3.out, decide_eq_false (by rintro ⟨_, h | h | h⟩ <;> first | omega | exact h.2 a4)]; rfl)
                              clear a4 e6
                              as_aux_lemma =>
                                go_wp2
                                go_meet
                                case rel => exact ⟨congrArg Value.bool HX.out, rfl⟩
                            · have e4 : ¬ (mk f.body).toList = [] := fun h => a4 ((bl_mk f.body).symm.trans h)
                              have e5 : ((mk f.body).toList == []) = false := by simpa using e4
                              have e7 : ((mk f.body).toList != []) = true := by simpa using e4
                              have e8 : (mk f.body).toList.isEmpty = false := by rw [List.isEmpty_eq_false_iff]; exact e4
                              have HX := hid (show true = bad4 f from by unfold bad4; rw [Hb3.out, decide_eq_true (⟨a0, Or.inr (Or.inr ⟨a3, a4⟩)⟩)]; rfl)
                              as_aux_lemma =>
                                go_wp2
                                go_meet
                                case rel => exact ⟨congrArg Value.bool HX.out, rfl⟩
                    · have da0 : decide (f.kind = 3) = false := decide_eq_false a0
                      have ea0 : (f.kind == 3) = false := by simpa using a0
                      have ga0 : (f.kind != 3) = true := by simpa using a0
                      have HX := hid (show false = bad4 f from by unfold bad4; rw [Hb3.out, decide_eq_false (fun h => a0 h.1)]; rfl)
                      as_aux_lemma =>
                        go_wp2
                        go_meet
                        case rel => exact ⟨congrArg Value.bool HX.out, rfl⟩
              case rest =>
                as_aux_lemma =>
                  obtain ⟨rfl, rfl⟩ := hcut
                  clear Hb3
                  clear x2 x3 x5 l1 l2 l3
                  go_wp2_with fail
                  go_loopw [3, 4] (fun b i wr => ∃ k : Nat, k ≤ f.args.length ∧ i = .int .i64 k ∧ wr = wc ∧ ∃ B, b = .bool B ∧ Hid ((bad4 f || longA (f.args.take k)) = B)) (fun _ i _ => f.args.length - (intOf i).toNat)
                  case atStart => exact ⟨0, by omega, rfl, rfl, _, rfl, hid (by simp [longA])⟩
                  case round =>
                    obtain ⟨k, hk, rfl, rfl, B, rfl, HBK⟩ := hrel
                    by_cases hlt : k < f.args.length
                    · have hki : (k : Int) < (f.args.length : Int) := by omega
                      have hd : decide ((k : Int) < (f.args.length : Int)) = true := by simpa using hki
                      have hkw : IntKind.i64.wrap ((k : Int) + 1) = (k : Int) + 1 := by have := HR.out.many; rw [IntKind.wrap_i64]; omega
                      cases B with
                      | true =>
                        as_aux_lemma =>
                          have HE := hid (show chkE f = 70 by
                            have h : (bad4 f || longA f.args) = true := by
                              have h := HBK.out
                              rw [Bool.or_eq_true] at h ⊢
                              exact h.imp_right long_take
                            rw [bad_ok] at h
                            unfold chkE
                            rw [if_neg (by intro h2; rw [h2] at h; cases h)])
                          go_wp2
                          go_ret
                          exact ⟨by rw [HE.out]; rfl, HB2.out⟩
                      | false =>
                        as_aux_lemma =>
                          obtain ⟨g1, o1, rfl, c1⟩ := HA2.out.at k hlt
                          have HS : (mk (f.args.getD k [])).size = (f.args.getD k []).length := mk_size _
                          have h0 : bad4 f = false ∧ longA (f.args.take k) = false := by
                            have h := HBK.out
                            rw [Bool.or_eq_false_iff] at h
                            exact h
                          by_cases hlg : 4096 < (f.args.getD k []).length
                          · have HY := hid (show (bad4 f || longA (f.args.take (k + 1))) = true by
                              rw [Bool.or_eq_true]
                              refine Or.inr (long_yes (k := k) (by simp; omega) ?_)
                              rw [List.getD_eq_getElem?_getD, List.getElem?_take_of_lt (by omega), ← List.getD_eq_getElem?_getD]
                              exact hlg)
                            obtain ⟨M, HM⟩ : ∃ M : Nat, Hid ((f.args.getD k []).length = M) := ⟨_, rfl⟩
                            rw [HM.out] at HS hlg
                            have q1 : (4096 : Int) < (M : Int) := by omega
                            have q2 : decide ((4096 : Int) < (M : Int)) = true := decide_eq_true q1
                            clear hlg h0 HBK
                            generalize mk (f.args.getD k []) = s at *
                            go_wp2
                            exact ⟨⟨k + 1, by omega, by simp, by first | rfl | trivial, _, rfl, HY⟩, by simp [intOf]; omega⟩
                          · have HY := hid (show (bad4 f || longA (f.args.take (k + 1))) = false by
                              rw [h0.1, long_no hlt h0.2 hlg]
                              rfl)
                            obtain ⟨M, HM⟩ : ∃ M : Nat, Hid ((f.args.getD k []).length = M) := ⟨_, rfl⟩
                            rw [HM.out] at HS hlg
                            have q1 : ¬ (4096 : Int) < (M : Int) := by omega
                            have q2 : decide ((4096 : Int) < (M : Int)) = false := decide_eq_false q1
                            clear hlg h0 HBK
                            generalize mk (f.args.getD k []) = s at *
                            go_wp2
                            exact ⟨⟨k + 1, by omega, by simp, by first | rfl | trivial, _, rfl, HY⟩, by simp [intOf]; omega⟩
                    · obtain rfl : k = f.args.length := by omega
                      rw [List.take_length, bad_ok] at HBK
                      cases B with
                      | true =>
                        as_aux_lemma =>
                          have HE := hid (show chkE f = 70 by
                            unfold chkE
                            rw [if_neg (by intro h2; have h := HBK.out; rw [h2] at h; cases h)])
                          go_wp2
                          go_ret
                          exact ⟨by rw [HE.out]; rfl, HB2.out⟩
                      | false =>
                        as_aux_lemma =>
                          have HO := hid (show okFr f = true by have h := HBK.out; simpa using h)
                          have hbs : (mk f.body).size = f.body.length := mk_size _
                          clear HBK
                          by_cases hB : 2097152 < f.body.length
                          · have HE := hid (show chkE f = 3 by
                              unfold chkE
                              rw [if_pos HO.out, if_pos (body_gt f HO.out hB)])
                            have q1 : (2097152 : Int) < (f.body.length : Int) := by omega
                            have q2 : decide ((2097152 : Int) < (f.body.length : Int)) = true := decide_eq_true q1
                            clear hB
                            go_wp2
                            go_ret
                            exact ⟨by rw [HE.out]; rfl, HB2.out⟩
                          · have q1 : ¬ (2097152 : Int) < (f.body.length : Int) := by omega
                            have q2 : decide ((2097152 : Int) < (f.body.length : Int)) = false := decide_eq_false q1
                            have HBO := hid (rbodyF_any f (.slice ao f.args.length c) wr HR.out HA2.out (okFr_of HO.out).1 (okFr_of HO.out).2.2 (by omega))
                            have HRG := hid (range_row HN2.out)
                            clear hB
                            go_wp2_with (refine ld_gd (by rfl) 30 (.tmp 1) (by rfl) w.heap.size 0 (by rfl) _ _ HRG.out Tryz.underlying30 rfl HSZ.out ?_)
                            refine HBO.out.mono ?_
                            rintro e w3 ⟨v3, rfl, hs3, hb3⟩
                            obtain ⟨a3, c3, rfl⟩ := src_shape hs3
                            have HB3 := hid (below_then HB2.out hb3)
                            have HE : Hid (chkE f = if 2097152 < (bodyP f).length then 3 else 0) := hid (by unfold chkE; rw [if_pos HO.out])
                            obtain ⟨M, HM⟩ : ∃ M : Nat, Hid ((bodyP f).length = M) := ⟨_, rfl⟩
                            rw [HM.out] at HE ⊢
                            clear hs3 hb3 HB2 HBO HRG HN2 HA2 HO x0 x7 x8 q1 q2
                            by_cases hM : 2097152 < M
                            · have q1 : (2097152 : Int) < (M : Int) := by omega
                              have q2 : decide ((2097152 : Int) < (M : Int)) = true := decide_eq_true q1
                              rw [if_pos hM] at HE
                              clear hM
                              go_wp2
                              go_ret
                              exact ⟨by rw [HE.out]; rfl, HB3.out⟩
                            · have q1 : ¬ (2097152 : Int) < (M : Int) := by omega
                              have q2 : decide ((2097152 : Int) < (M : Int)) = false := decide_eq_false q1
                              rw [if_neg hM] at HE
                              clear hM
                              go_wp2
                              go_ret
                              exact ⟨by rw [HE.out]; rfl, HB3.out⟩
end Go.Proofs.YtiibhccbbpgehaaGreat

/- The document's Encode of every frame. -/
namespace Go.Proofs.YtiibhccbbpgehaaGreat
open Go.RowKit Go.BigFrame

set_option maxRecDepth 100000 in
set_option maxHeartbeats 4000000 in
theorem rencF_err (f : Fr) (va : Value) (w : World) (hr : Rng f) (ha : Strs w va f.args) (h : chkE f ≠ 0) :
    Calls Tryz.prog 28 #[.agg (fcells f va).toArray] w fun e w' => e = .returned (.tuple #[.slice none 0 0, .int .i64 (chkE f)]) ∧ Below w.heap.size w w' := by
  have HNB := hid (hp_new w (.cells (fcells f va).toArray 30))
  have HBL := hid (below_walk w (.cells (fcells f va).toArray 30))
  have HSZ := hid (frame_size f va hr.tool)
  have HCK := hid (rcheckF_any f va _ hr (ha.below HBL.out))
  obtain ⟨E, HE⟩ : ∃ E, Hid (chkE f = E) := ⟨_, rfl⟩
  rw [HE.out] at h HCK
  have q1 : (E != 0) = true := by simpa using h
  have q2 : (E == 0) = false := by simpa using h
  clear ha hr h
  go_enter Tryz.func28, Tryz.ntmps28
  go_upto_region 1 with fail
  generalize w.alloc (.cells (fcells f va).toArray 30) = w1 at HNB HBL HCK ⊢
  generalize fcells f va = FF at *
  go_wp2_with (refine ld_row (by rfl) 30 (.tmp 1) (by rfl) w.heap.size (by rfl) FF 30 HNB.out _ Tryz.underlying30 rfl HSZ.out ?_)
  refine HCK.out.mono ?_
  rintro e w2 ⟨rfl, hb2⟩
  have HB2 := hid (below_then HBL.out hb2)
  clear hb2 HNB HBL HCK
  go_wp2
  go_ret2
  exact ⟨by rw [HE.out]; rfl, HB2.out⟩

set_option maxRecDepth 100000 in
set_option maxHeartbeats 4000000 in
theorem rencF_ok (f : Fr) (va : Value) (w : World) (hr : Rng f) (ha : Strs w va f.args) (h : chkE f = 0) :
    Calls Tryz.prog 28 #[.agg (fcells f va).toArray] w fun e w' => ∃ v, e = .returned (.tuple #[v, .int .i64 0]) ∧ OwnB w' w.heap.size v (encP f) ∧ Below w.heap.size w w' := by
  have HNB := hid (hp_new w (.cells (fcells f va).toArray 30))
  have HBL := hid (below_walk w (.cells (fcells f va).toArray 30))
  have HSZ := hid (frame_size f va hr.tool)
  have HCK := hid (rcheckF_any f va _ hr (ha.below HBL.out))
  rw [h] at HCK
  obtain ⟨ho, hl⟩ := chk_ok h
  have hBl : f.body.length ≤ 2097152 := by
    rcases Nat.lt_or_ge 2097152 f.body.length with h1 | h1
    · have := body_gt f ho h1
      omega
    · exact h1
  have HBO := hid (fun W (hW : Strs W va f.args) => rbodyF_any f va W hr hW (okFr_of ho).1 (okFr_of ho).2.2 hBl)
  have HA := hid (ha.below HBL.out)
  obtain ⟨EP, HEP⟩ : ∃ E, Hid (encP f = E) := ⟨_, rfl⟩
  have HEN : Hid (EP = sealP (sn (bodyP f).length ++ bodyP f)) := hid (HEP.out.symm)
  have hsl := sn_length_le (bodyP f).length
  clear ha hr h ho hBl
  go_enter Tryz.func28, Tryz.ntmps28
  go_upto_region 1 with fail
  generalize w.alloc (.cells (fcells f va).toArray 30) = w1 at HNB HBL HCK HA ⊢
  generalize fcells f va = FF at *
  generalize bodyP f = BP at *
  obtain ⟨M, HM⟩ : ∃ M : Nat, Hid (BP.length = M) := ⟨_, rfl⟩
  rw [HM.out] at hl hsl HEN
  go_wp2_with (refine ld_row (by rfl) 30 (.tmp 1) (by rfl) w.heap.size (by rfl) FF 30 HNB.out _ Tryz.underlying30 rfl HSZ.out ?_)
  refine HCK.out.mono ?_
  rintro e w2 ⟨rfl, hb2⟩
  have HN2 := hid ((hb2.block _ (hp_lt HNB.out)).trans HNB.out)
  have HB2 := hid (below_then HBL.out hb2)
  have HA2 := hid (HA.out.below hb2)
  clear hb2 HNB HBL HCK HA
  go_wp2_with (refine ld_row (by rfl) 30 (.tmp 1) (by rfl) w.heap.size (by rfl) FF 30 HN2.out _ Tryz.underlying30 rfl HSZ.out ?_)
  refine (HBO.out w2 HA2.out).mono ?_
  rintro e w3 ⟨v3, rfl, hs3, hb3⟩
  obtain ⟨ao, c, rfl⟩ := src_shape hs3
  have HS3 := hid hs3
  have HB3 := hid (below_then HB2.out hb3)
  have hw1 : IntKind.u64.wrap (M : Int) = (M : Int) := by rw [IntKind.wrap_u64]; omega
  rw [HM.out] at HS3 ⊢
  clear hs3 hb3 HN2 HB2 HBO HA2
  go_wp2_with fail
  refine (refUint_any M w3 (by omega)).mono ?_
  rintro e w4 ⟨v4, rfl, ho4, hb4⟩
  have HO4 := hid ho4
  have HS4 := hid (HS3.out.below hb4)
  have HB4 := hid (below_then HB3.out hb4)
  have HZ4 := hid hb4.size
  obtain ⟨a4, c4, e4⟩ := src_shape (ho4.src (by omega))
  subst e4
  clear ho4 hb4 HS3 hw1
  go_wp2_with (at_builtin; refine app_src rfl _ _ rfl w3.heap.size _ (sn M) rfl HO4.out _ BP rfl HS4.out (by rw [HM.out]; omega) HZ4.out ?_)
  intro v5 w5 ho5 hg5
  have hs5 : Src w5 v5 (sn M ++ BP) := ho5.src (by rw [List.length_append, HM.out]; omega)
  have HB5 := hid (show Below w.heap.size w w5 from below_tr HB4.out ⟨hg5.os, hg5.tape, hg5.output, hg5.size, fun k hk => hg5.block k (by have := HB3.out.size; have := HZ4.out; omega) (fun e => by have := (HO4.out.lt k e.symm).1; have := HB3.out.size; omega)⟩)
  have HSE := hid (rseal_any w5 v5 (sn M ++ BP) hs5 (by rw [List.length_append, HM.out]; omega))
  obtain ⟨a5, c5, e5⟩ := src_shape hs5
  obtain ⟨M5, HM5⟩ : ∃ M5, Hid ((sn M ++ BP).length = M5) := ⟨_, rfl⟩
  rw [HM5.out] at e5
  subst e5
  clear ho5 hg5 hs5 HB4 HB3 HZ4 HO4 HS4
  go_wp2_with fail
  refine HSE.out.mono ?_
  rintro e w6 ⟨v6, rfl, ho6, hb6⟩
  rw [← HEN.out] at ho6
  have HO6 := hid (ho6.le HB5.out.size)
  have HB7 := hid (below_then HB5.out hb6)
  obtain ⟨a6, c6, e6⟩ := src_shape (ho6.src (by rw [HEN.out, sealP_length, List.length_append, HM.out]; omega))
  obtain ⟨M6, HM6⟩ : ∃ M6, Hid (EP.length = M6) := ⟨_, rfl⟩
  rw [HM6.out] at e6
  subst e6
  clear ho6 hb6
  go_wp2
  go_ret2
  refine ⟨_, rfl, ?_, HB7.out⟩
  rw [HEP.out]
  exact HO6.out

end Go.Proofs.YtiibhccbbpgehaaGreat

/- StreamThrough answers true. -/
namespace Go.Proofs.YtiibhccbbpgehaaGreat
open Go.RowKit Go.BigFrame

theorem str_add8 (l m : List UInt8) (h : l.length + m.length ≤ 9223372036854775807) (W : World) : (Op.stringOp .add ⟨l.toArray⟩ ⟨m.toArray⟩).run Tryz.prog W = .ok (.string ⟨(l ++ m).toArray⟩) W := by
  have hs : ¬ (((((⟨l.toArray⟩ : ByteArray).size + (⟨m.toArray⟩ : ByteArray).size : Nat)) : Int) > IntKind.i64.max) := by
    rw [show (⟨l.toArray⟩ : ByteArray).size = l.length from by simp [ByteArray.size], show (⟨m.toArray⟩ : ByteArray).size = m.length from by simp [ByteArray.size], show IntKind.i64.max = 9223372036854775807 from rfl]
    omega
  simp only [Op.stringOp]
  rw [if_neg hs]
  have e : (⟨l.toArray⟩ : ByteArray) ++ (⟨m.toArray⟩ : ByteArray) = ⟨(l ++ m).toArray⟩ := by
    apply ByteArray.ext
    simp
  simp [e]
theorem thr_len {fs3 : List FV} {T2 : List Fr} {S sr r2 bs : List UInt8} {c : UInt8} {k : Nat} (hm : fs3.map (·.1) = T2) (h1 : fs3.length ≤ 1) (h0 : 0 < fs3.length) (hb : fl (T2.map encP) ++ r2 = sr ++ [c]) (he : S ++ sr = bs.take k) : S.length + (encP (fs3.getD 0 zFV).1).length ≤ k + 1 := by
  match fs3, h1, h0 with
  | [f], _, _ =>
    subst hm
    have h2 := congrArg List.length hb
    have h3 := congrArg List.length he
    simp [fl] at h2 h3
    show S.length + (encP f.1).length ≤ k + 1
    omega
theorem run_one (M : Nat) (s : Sx) (c : UInt8) (h : s.why = 0) : runP M nev (s, [], 0) (fl [[c]]) = ((takeC M s [c]).1, (takeC M s [c]).2, 1) := by
  rw [show fl [[c]] = [c] from rfl, runP_cons, runP_nil]
  unfold stepQ
  rw [if_neg (by simp [nev, h])]
  rfl
theorem own_far5 {w w' : World} {base : Nat} {row : Option Nat} {e : TypeId} {size : Nat} {vo : Value} {n : Nat} {xs : List Value} (h : w.ownsRow base e size vo n xs) (g : w.grownBy w' row) (hm : ∀ k, vo.ownBlock = some k → row ≠ some k) : w'.ownsRow base e size vo n xs := by
  refine World.ownsRow.kept h g ?_
  cases hk : vo.ownBlock with
  | none => exact Or.inl rfl
  | some k => exact Or.inr (fun h9 => hm k hk h9.symm)
/-- a row of bytes grew that is not the decoder's -/
theorem Sd.row {w w' : World} {base b M base2 : Nat} {v u : Value} {s : Sx} {xs : List UInt8} (h : Sd w base b v M s) (hu : OwnB w base2 u xs) (g : w.grownBy w' u.ownBlock) (hap : ∀ k, u.ownBlock = some k → v.ownBlock ≠ some k) : Sd w' base b v M s :=
  ⟨⟨h.kb.lo, gb_blk h.kb.blk g (own_block hu h.kb.blk (by decide)), own_far5 h.kb.own g (fun k e e2 => hap k e2 e)⟩, h.good, h.one, h.big⟩

set_option maxRecDepth 100000 in
set_option maxHeartbeats 8000000 in
theorem lawThrough_any (m : Nat) (hm : m < 65536) (v : Value) (bs : List UInt8) (w : World) (hs : Src w v bs) (hbl : bs.length ≤ 140737488351232) :
    Calls Tryz.prog 8 #[.int .u16 (m : Int), v] w fun e w' => e = .returned (.bool true) ∧ Below w.heap.size w w' := by
  have HS := hid hs
  obtain ⟨av, cv, rfl⟩ := src_shape hs
  clear hs
  obtain ⟨LM, HLM⟩ : ∃ n, Hid (m + 1 = n) := ⟨_, rfl⟩
  have hlm : IntKind.i64.wrap ((m : Int) + 1) = (LM : Int) := by rw [IntKind.wrap_i64]; have := HLM.out; omega
  have hcv : IntKind.i64.wrap (m : Int) = (m : Int) := by rw [IntKind.wrap_i64]; omega
  have HLB := hid (show 1 ≤ LM ∧ LM ≤ 65536 by have := HLM.out; omega)
  have HNW := hid (new_ok8 w LM (by have := HLB.out; omega) (by have := HLB.out; omega))
  go_enter Tryz.func8, Tryz.ntmps8
  go_wp2_with fail
  refine HNW.out.mono ?_
  rintro e w1 ⟨b, rfl, hbw, hsd, hb1⟩
  have HBW := hid hbw
  have HSD1 := hid hsd
  have HQ1 := hid hb1
  clear hbw hsd hb1 HNW
  go_wp2
  go_loopw [8, 9] (fun vz vi wr => ∃ (k : Nat) (vd : Value) (S : List UInt8) (s : Sx), k ≤ bs.length ∧ vi = .int .i64 k ∧ Hid (OwnB wr w.heap.size vz S) ∧ Hid (Sd wr b b vd LM s) ∧ Hid (s.why = 0) ∧ Hid (s.came = k) ∧ Hid (S ++ s.r = bs.take k) ∧ Hid (∀ k, vz.ownBlock = some k → vd.ownBlock ≠ some k) ∧ Hid (Below w.heap.size w wr)) (fun _ vi _ => bs.length - (intOf vi).toNat)
  case atStart => exact ⟨0, .slice none 0 0, [], zS, by omega, rfl, hid (World.ownsRow_nil _ _ _ _), HSD1.out, hid rfl, hid rfl, hid rfl, hid (fun k e => (by cases e)), HQ1.out⟩
  case round =>
    obtain ⟨k, vd, S, s, hk, rfl, HOS, HSD, HY, HCA, HEQ, HAP, HQ⟩ := hrel
    obtain ⟨as0, ns0, cs0, es0⟩ : ∃ a n c, _ = Value.slice a n c := by obtain ⟨a, c, e⟩ := HOS.out.shape; exact ⟨_, _, _, e⟩
    subst es0
    by_cases hlt : k < bs.length
    · as_aux_lemma =>
        have hki : (k : Int) < (bs.length : Int) := by omega
        obtain ⟨k1, HK1⟩ : ∃ n, Hid (k + 1 = n) := ⟨_, rfl⟩
        have hk1 : IntKind.i64.wrap ((k : Int) + 1) = (k1 : Int) := by rw [IntKind.wrap_i64]; have := HK1.out; omega
        obtain ⟨vc, hc1, hc3, hc2⟩ := cut_range HS.out k (k + 1) (by omega) (by omega)
        rw [HK1.out] at hc2
        obtain ⟨c, HCe⟩ : ∃ c, Hid (bs.getD k 0 = c) := ⟨_, rfl⟩
        have hcc : (bs.drop k).take (k + 1 - k) = [c] := by
          rw [show k + 1 - k = 1 by omega, ← HCe.out, List.getD_eq_getElem?_getD, List.getElem?_eq_getElem hlt, List.drop_eq_getElem_cons hlt]
          rfl
        rw [hcc] at hc1
        have HTK := hid (show bs.take (k + 1) = bs.take k ++ [c] by rw [List.take_succ_eq_append_getElem hlt, ← HCe.out, List.getD_eq_getElem?_getD, List.getElem?_eq_getElem hlt]; rfl)
        obtain ⟨au, nu, cu, eu⟩ := src_named hc1
        subst eu
        have HXC0 := hid hc1
        have HUb := hid (show ∀ k, (Value.slice au nu cu).ownBlock = some k → k < w.heap.size from fun k e => src_lt HXC0.out (by simp) e)
        clear hc1 hc3 hcc
        have HW2 := hid (below_walk wr (.cells #[.slice au nu cu] 22))
        have HSD2 := hid (HSD.out.below HW2.out)
        have HQ2 := hid (below_then HQ.out HW2.out)
        have HOS2 := hid (show OwnB (wr.alloc (.cells #[.slice au nu cu] 22)) w.heap.size (.slice as0 ns0 cs0) S from HOS.out.below HW2.out)
        have HL2 := hid (lsts_one wr _ [c] (HXC0.out.below HQ.out))
        have HLb := hid HSD.out.kb.lt
        have HVl := hid (fun k e => (World.ownsRow.lt HSD.out.kb.own k e).2)
        have HVb := hid (fun k e => (World.ownsRow.lt HSD.out.kb.own k e).1)
        go_wp2_with fail
        obtain ⟨Z, HZe⟩ : ∃ n, Hid (wr.heap.size = n) := ⟨_, rfl⟩
        rw [HZe.out] at HL2 HLb HVl
        try rw [HZe.out]
        generalize wr.alloc (.cells #[.slice au nu cu] 22) = w2 at HW2 HSD2 HQ2 HOS2 HL2 ⊢
        have HFE := hid (kfeed_any HSD2.out HY.out _ _ _ (fun W vd hg => HL2.out.gd hg (by show some Z ≠ some b; have := HLb.out; simp; omega) (fun k e e2 => by have := HVl.out k e2; simp [Value.ownBlock] at e; omega) (fun j h => by match j, h with | 0, h => exact (fun e => by have := HUb.out _ e; have := HBW.out; omega) | j + 1, _ => exact (by show nS.ownBlock ≠ some b; intro e; cases e)) (fun j k h e e2 => by match j, h, e with | 0, h, e => exact (by have := HUb.out k e; have := HVb.out k e2; have := HBW.out; omega) | j + 1, _, e => cases (show nS.ownBlock = some k from e))) (by simp) (by rw [HCA.out]; show k + 1 ≤ _; omega) (by show 1 ≤ _; omega))
        rw [run_one _ _ _ HY.out] at HFE
        have HTB := hid (takeC_bytes LM s [c])
        have HCM := hid (takeC_came LM s [c])
        have HTF := hid (takeC_few LM s [c])
        obtain ⟨TT, HTT⟩ : ∃ t, Hid (takeC LM s [c] = t) := ⟨_, rfl⟩
        rw [HTT.out] at HFE HTB HCM HTF
        obtain ⟨s2, HS2⟩ : ∃ t, Hid (TT.1 = t) := ⟨_, rfl⟩
        rw [HS2.out] at HFE HTB HCM
        obtain ⟨y2, HY2⟩ : ∃ y, Hid (s2.why = y) := ⟨_, rfl⟩
        obtain ⟨t2, HT2⟩ : ∃ y, Hid (s2.wat = y) := ⟨_, rfl⟩
        obtain ⟨A3, HA3⟩ : ∃ a : Ra, Hid ((s2, TT.2, 1) = a) := ⟨_, rfl⟩
        rw [HA3.out] at HFE
        have HA4 := hid (show A3.1.why = y2 ∧ A3.1.wat = t2 ∧ A3.1 = s2 ∧ A3.2.1 = TT.2 by rw [← HA3.out]; exact ⟨HY2.out, HT2.out, rfl, rfl⟩)
        refine HFE.out.mono ?_
        rintro e w3 ⟨vl, v3, fs3, rfl, hof, hsd3, hg3, hm3⟩
        rw [HA4.out.1, HA4.out.2.1]
        have hsd3' : Sd w3 b b v3 LM s2 := by rw [← HA4.out.2.2.1]; exact hsd3
        have hm3' : fs3.map (·.1) = TT.2 := by rw [← HA4.out.2.2.2]; exact hm3
        have HW4 := hid (below_walk w3 (.cells [Value.int .i64 y2, .int .i64 t2].toArray 33))
        have HF4 := hid (hp_new w3 (.cells [Value.int .i64 y2, .int .i64 t2].toArray 33))
        have HSD4 := hid (hsd3'.below HW4.out)
        have HZ23 := hid hg3.size
        have HQ4 := hid (below_then (Below.trans HQ2.out ((HSD2.out.low hg3).mono HBW.out)) HW4.out)
        have HOS4 := hid (show OwnB (w3.alloc (.cells [Value.int .i64 y2, .int .i64 t2].toArray 33)) w.heap.size (.slice as0 ns0 cs0) S from (OwnB.gd HOS2.out hg3 (own_block HOS2.out HSD2.out.kb.blk (by decide)) HAP.out).below HW4.out)
        have HAP4 := hid (show ∀ k, (Value.slice as0 ns0 cs0).ownBlock = some k → v3.ownBlock ≠ some k from fun k e e2 => by rcases hg3.lies k e2 with h | h; exact HAP.out k e h; exact absurd (World.ownsRow.lt HOS2.out k e).2 (by omega))
        have HOF4 := hid ((hof.below HW4.out).le HQ2.out.size)
        have HM3 := hid hm3'
        obtain ⟨al, cl, el⟩ := hof.shape
        subst el
        clear hof hsd3 hg3 hm3 HFE HSD2 HL2 HOS2 hsd3' hm3'
        go_upto_region 10 with (refine st_new (by rfl) 33 _ _ (by rfl) [Value.int .i64 y2, .int .i64 t2] (by rfl) (by rfl) 33 _ faultSize rfl (fault_one _ _) ?_)
        obtain ⟨F, HFe⟩ : ∃ n, Hid (w3.heap.size = n) := ⟨_, rfl⟩
        have HFw := hid (show w.heap.size ≤ w3.heap.size by have := HQ4.out.size; have := HF4.out; have h9 := HQ2.out.size; exact Nat.le_trans h9 HZ23.out)
        rw [HFe.out] at HF4 HFw ⊢
        generalize w3.alloc (.cells [Value.int .i64 y2, .int .i64 t2].toArray 33) = w4 at HW4 HF4 HSD4 HQ4 HOS4 HOF4 ⊢
        have HSL := hid (show S.length ≤ k by have h9 := congrArg List.length HEQ.out; rw [List.length_append, List.length_take] at h9; omega)
        go_wp2
        go_loopw [8, 12] (fun vz vi wi => ∃ (j : Nat), j ≤ fs3.length ∧ vi = .int .i64 j ∧ Hid (OwnB wi w.heap.size vz (S ++ fl ((fs3.take j).map fun f => encP f.1))) ∧ Hid (Sd wi b b v3 LM s2) ∧ Hid (OFs wi w.heap.size (.slice al fs3.length cl) fs3) ∧ Hid (wi.heap[F]? = some (.cells [Value.int .i64 y2, .int .i64 t2].toArray 33 (0, 0))) ∧ Hid (∀ k, vz.ownBlock = some k → v3.ownBlock ≠ some k) ∧ Hid (Below w.heap.size w wi)) (fun _ vi _ => fs3.length - (intOf vi).toNat)
        case atStart => exact ⟨0, by omega, rfl, hid (by rw [List.take_zero]; show OwnB _ _ _ (S ++ []); rw [List.append_nil]; exact HOS4.out), HSD4.out, HOF4.out, HF4.out, HAP4.out, HQ4.out⟩
        case round =>
          obtain ⟨j, hj, rfl, HOj, HSDj, HOFj, HFj, HAPj, HQj⟩ := hrel
          obtain ⟨aj, nj, cj, ej⟩ : ∃ a n c, _ = Value.slice a n c := by obtain ⟨a, c, e⟩ := HOj.out.shape; exact ⟨_, _, _, e⟩
          subst ej
          have HJ1 := hid (show fs3.length ≤ 1 by have h9 := HTF.out; rw [← HM3.out, List.length_map] at h9; exact h9)
          by_cases hjl : j < fs3.length
          · as_aux_lemma =>
              obtain ⟨SJ, HSJ⟩ : ∃ l, Hid (S ++ fl ((fs3.take j).map fun f => encP f.1) = l) := ⟨_, rfl⟩
              rw [HSJ.out] at HOj
              have hji : (j : Int) < (fs3.length : Int) := by omega
              obtain ⟨g, o, rfl, hgl, hra, hst, hrn⟩ := HOFj.out.frs.at j hjl
              have HRA := hid hra
              have HSZ := hid (frame_size (fs3.getD j zFV).1 (fs3.getD j zFV).2 hrn.tool)
              have HC0 := hid (HTB.out.2 (fs3.getD j zFV).1 (by rw [← HM3.out, List.getD_eq_getElem?_getD, List.getElem?_eq_getElem hjl]; exact List.mem_map_of_mem (List.getElem_mem hjl)))
              have HEN := hid (rencF_ok (fs3.getD j zFV).1 (fs3.getD j zFV).2 wr hrn hst HC0.out)
              have HTS := hid (show (fs3.take (j + 1)).map (fun f => encP f.1) = (fs3.take j).map (fun f => encP f.1) ++ [encP (fs3.getD j zFV).1] by
                rw [List.take_succ_eq_append_getElem hjl, List.map_append, List.getD_eq_getElem?_getD, List.getElem?_eq_getElem hjl]
                rfl)
              have hel := enc_len (fs3.getD j zFV).1
              have hbd := (chk_ok HC0.out).2
              have hsn := sn_length_le (bodyP (fs3.getD j zFV).1).length
              have HJ0 := hid (show j = 0 by have := HJ1.out; omega)
              obtain ⟨EE, HEE⟩ : ∃ l, Hid (encP (fs3.getD j zFV).1 = l) := ⟨_, rfl⟩
              rw [HEE.out] at HEN HTS hel
              have HEL := hid (show EE.length ≤ 3000000 by omega)
              have HSE := hid (show S.length + EE.length ≤ k + 1 by
                have h9 := thr_len HM3.out HJ1.out (by omega) HTB.out.1 HEQ.out
                rw [show fs3.getD 0 zFV = fs3.getD j zFV by rw [HJ0.out], HEE.out] at h9
                exact h9)
              obtain ⟨FF, HFF⟩ : ∃ f9, Hid (fcells (fs3.getD j zFV).1 (fs3.getD j zFV).2 = f9) := ⟨_, rfl⟩
              rw [HFF.out] at HRA HSZ HEN
              have hjw : IntKind.i64.wrap ((j : Int) + 1) = (j : Int) + 1 := by rw [IntKind.wrap_i64]; have := HJ1.out; omega
              clear hra hst hrn hel hbd hsn
              go_wp2_with (first | (refine wpList_load_mid (by rfl) 30 (.tmp 56) (by rfl) g (o + j * 42) (by rfl) FF _ HRA.out Tryz.underlying30 rfl HSZ.out ?_))
              refine HEN.out.mono ?_
              rintro e w5 ⟨vE, rfl, hoE, hb5⟩
              have HXE := hid (hoE.src (by have := HEL.out; omega))
              have HO5 := hid (show OwnB w5 w.heap.size (.slice aj nj cj) SJ from HOj.out.below hb5)
              have HSD5 := hid (HSDj.out.below hb5)
              have HOF5 := hid (HOFj.out.below hb5)
              have HF5 := hid (bel_keep hb5 HFj.out)
              have HQ5 := hid (below_then HQj.out hb5)
              obtain ⟨aE, nE, cE, eE⟩ := src_named HXE.out
              subst eE
              have HLL := hid (show SJ.length + EE.length ≤ 140737488355327 by rw [← HSJ.out, HJ0.out]; have := HSE.out; simp [fl]; omega)
              have HZ5 := hid HQ5.out.size
              clear hoE hb5 HEN
              go_wp2_with (first | (at_builtin; refine app_bytes (by rfl) _ _ rfl w.heap.size _ _ rfl HO5.out _ _ rfl HXE.out HLL.out HZ5.out ?_))
              intro v6 w6 ho6 hg6 hp6
              have HO6 := hid (show OwnB w6 w.heap.size v6 (S ++ fl ((fs3.take (j + 1)).map fun f => encP f.1)) by rw [HTS.out, show fl ((fs3.take j).map (fun f => encP f.1) ++ [EE]) = fl ((fs3.take j).map fun f => encP f.1) ++ EE by simp [fl], ← List.append_assoc, HSJ.out]; exact ho6)
              have HSD6 := hid (HSD5.out.row HO5.out hg6 HAPj.out)
              have HOF6 := hid (HOF5.out.grown HO5.out hg6 (by decide) (by decide))
              have HF6 := hid (gb_blk HF5.out hg6 (own_block HO5.out HF5.out (by decide)))
              have HQ6 := hid (Below.of_gbo HQ5.out hg6 (fun k e => (World.ownsRow.lt HO5.out k e).1))
              have HAP6 := hid (show ∀ k, v6.ownBlock = some k → v3.ownBlock ≠ some k from fun k e e2 => by
                rcases hp6 with h9 | h9
                · exact HAPj.out k (h9 ▸ e) e2
                · rw [h9] at e
                  injection e with e
                  have := (World.ownsRow.lt HSD5.out.kb.own k e2).2
                  omega)
              obtain ⟨a6, n6, c6, e6⟩ : ∃ a n c, v6 = .slice a n c := by obtain ⟨a, c, e⟩ := ho6.shape; exact ⟨_, _, _, e⟩
              subst e6
              clear ho6 hg6 hp6
              go_wp2
              exact ⟨⟨j + 1, hjl, by simp, HO6.out, HSD6.out, HOF6.out, HF6.out, HAP6.out, HQ6.out⟩, by simp [intOf]; omega⟩
          · obtain rfl : j = fs3.length := by omega
            as_aux_lemma =>
              obtain ⟨S2, HS2e⟩ : ∃ l, Hid (S ++ fl ((fs3.take fs3.length).map fun f => encP f.1) = l) := ⟨_, rfl⟩
              rw [HS2e.out] at HOj
              have HEQ2 := hid (show S2 ++ s2.r = bs.take (k + 1) by
                have h9 := HTB.out.1
                rw [← HM3.out, List.map_map] at h9
                rw [← HS2e.out, List.take_length, List.append_assoc]
                rw [show ((fun f => encP f.1) : FV → List UInt8) = encP ∘ (fun x => x.1) from rfl, h9, HTK.out, ← HEQ.out, List.append_assoc])
              have HRE := hid (krest_any HSDj.out)
              go_wp2_with fail
              refine HRE.out.mono ?_
              rintro e wr9 ⟨vr, rfl, hor, hb9⟩
              have HSD9 := hid (HSDj.out.below hb9)
              have HQ9 := hid (below_then HQj.out hb9)
              have HOS9 := hid (show OwnB wr9 w.heap.size (.slice aj nj cj) S2 from HOj.out.below hb9)
              have HF9 := hid (bel_keep hb9 HFj.out)
              have hll : S2.length + s2.r.length = k + 1 := by have h9 := congrArg List.length HEQ2.out; rw [List.length_append, List.length_take] at h9; omega
              have HXS := hid (HOS9.out.src (by omega))
              have HXR := hid (hor.src (by omega))
              obtain ⟨ar, cr, er⟩ := hor.shape
              have HFEW := hid HSD9.out.good.few
              obtain ⟨RL, HRL⟩ : ∃ n, Hid (s2.r.length = n) := ⟨_, rfl⟩
              rw [HRL.out] at er HFEW
              subst er
              obtain ⟨vcc, hcc1, _, hct⟩ := cut_atb HS.out (k + 1) (by omega)
              rw [HK1.out] at hct
              rw [← HEQ2.out] at hcc1
              obtain ⟨ac, nc, cc, ec⟩ := src_named hcc1
              subst ec
              have HXC := hid (hcc1.below HQ9.out)
              obtain ⟨L10, HL10⟩ : ∃ n, Hid (LM + 10 = n) := ⟨_, rfl⟩
              obtain ⟨L14, HL14⟩ : ∃ n, Hid (LM + 14 = n) := ⟨_, rfl⟩
              have hl10 : IntKind.i64.wrap ((LM : Int) + 10) = (L10 : Int) := by rw [IntKind.wrap_i64]; have := HL10.out; have := HLB.out; omega
              have hl14 : IntKind.i64.wrap ((L10 : Int) + 4) = (L14 : Int) := by rw [IntKind.wrap_i64]; have := HL10.out; have := HL14.out; have := HLB.out; omega
              have hrl : ¬ ((L14 : Int) < (RL : Int)) := by have := HFEW.out; have := HL14.out; omega
              have hadd := str_add8 S2 s2.r (by omega)
              have HT9 := hid trivial
              clear hor hb9 HRE hcc1 hll
              go_upto_region 18 with fail
              refine wp_noPanic (wp_region_held_drew (S := fun W => Below wr9.heap.size wr9 W) (by kernel_rfl) (bel_drw wr9 1) ?_)
              intro hHeld
              refine wpAnyH_take (i := 0) (v := .slice ar RL cr) rfl (by kernel_rfl) (by kernel_rfl) (by kernel_rfl) (fun _ _ _ h => h) (Or.inl ⟨by rfl, fun W _ => by go_simp⟩) hHeld ?_
              simp only [Act.put, List.getElem_toArray, List.getElem_cons_zero, List.setIfInBounds_toArray, List.set_cons_succ, List.set_cons_zero]
              refine wpAnyH_take (i := 1) (v := .int .i64 (RL : Int)) rfl (by kernel_rfl) (by kernel_rfl) (by kernel_rfl) (fun _ _ _ h => h) (Or.inl ⟨by rfl, fun W _ => by go_simp⟩) hHeld ?_
              simp only [Act.put, List.getElem_toArray, List.getElem_cons_zero, List.getElem_cons_succ, List.setIfInBounds_toArray, List.set_cons_succ, List.set_cons_zero]
              refine wpAnyH_take (i := 2) (v := .int .i64 (LM : Int)) rfl (by kernel_rfl) (by kernel_rfl) (by kernel_rfl) (fun _ _ _ h => h) (Or.inl ⟨by rfl, fun W _ => by go_simp⟩) hHeld ?_
              simp only [Act.put, List.getElem_toArray, List.getElem_cons_zero, List.getElem_cons_succ, List.setIfInBounds_toArray, List.set_cons_succ, List.set_cons_zero]
              refine wpAnyH_take (i := 3) (v := .int .i64 (L10 : Int)) rfl (by kernel_rfl) (by kernel_rfl) (by kernel_rfl) (fun _ _ _ h => h) (Or.inl ⟨by rfl, fun W _ => by have hfact := hl10; go_simp; first | done | simp [hfact]⟩) hHeld ?_
              simp only [Act.put, List.getElem_toArray, List.getElem_cons_zero, List.getElem_cons_succ, List.setIfInBounds_toArray, List.set_cons_succ, List.set_cons_zero]
              refine wpAnyH_take (i := 4) (v := .int .i64 (L14 : Int)) rfl (by kernel_rfl) (by kernel_rfl) (by kernel_rfl) (fun _ _ _ h => h) (Or.inl ⟨by rfl, fun W _ => by have hfact := hl14; go_simp; first | done | simp [hfact]⟩) hHeld ?_
              simp only [Act.put, List.getElem_toArray, List.getElem_cons_zero, List.getElem_cons_succ, List.setIfInBounds_toArray, List.set_cons_succ, List.set_cons_zero]
              refine wpAnyH_take (i := 5) (v := .bool false) rfl (by kernel_rfl) (by kernel_rfl) (by kernel_rfl) (fun _ _ _ h => h) (Or.inl ⟨by rfl, fun W _ => by go_simp; first | done | omega | simp; omega⟩) hHeld ?_
              simp only [Act.put, List.getElem_toArray, List.getElem_cons_zero, List.getElem_cons_succ, List.setIfInBounds_toArray, List.set_cons_succ, List.set_cons_zero]
              refine wpAnyH_take (i := 6) (v := .bool false) rfl (by kernel_rfl) (by kernel_rfl) (by kernel_rfl) (fun _ _ _ h => h) (Or.inl ⟨by rfl, fun W _ => by go_simp⟩) hHeld ?_
              simp only [Act.put, List.getElem_toArray, List.getElem_cons_zero, List.getElem_cons_succ, List.setIfInBounds_toArray, List.set_cons_succ, List.set_cons_zero]
              refine wpAnyH_take (i := 7) (v := .slice aj nj cj) rfl (by kernel_rfl) (by kernel_rfl) (by kernel_rfl) (fun _ _ _ h => h) (Or.inl ⟨by rfl, fun W _ => by go_simp⟩) hHeld ?_
              simp only [Act.put, List.getElem_toArray, List.getElem_cons_zero, List.getElem_cons_succ, List.setIfInBounds_toArray, List.set_cons_succ, List.set_cons_zero]
              refine wpAnyH_take (i := 8) (v := .string ⟨S2.toArray⟩) rfl (by kernel_rfl) (by kernel_rfl) (by kernel_rfl) (fun _ _ _ h => h) (Or.inl ⟨by rfl, fun W hW => by have hfact := run_str (HXS.out.below hW); clear hW; go_simp; first | done | simp [hfact]⟩) hHeld ?_
              simp only [Act.put, List.getElem_toArray, List.getElem_cons_zero, List.getElem_cons_succ, List.setIfInBounds_toArray, List.set_cons_succ, List.set_cons_zero]
              refine wpAnyH_take (i := 9) (v := .slice ar RL cr) rfl (by kernel_rfl) (by kernel_rfl) (by kernel_rfl) (fun _ _ _ h => h) (Or.inl ⟨by rfl, fun W _ => by go_simp⟩) hHeld ?_
              simp only [Act.put, List.getElem_toArray, List.getElem_cons_zero, List.getElem_cons_succ, List.setIfInBounds_toArray, List.set_cons_succ, List.set_cons_zero]
              refine wpAnyH_take (i := 10) (v := .string ⟨s2.r.toArray⟩) rfl (by kernel_rfl) (by kernel_rfl) (by kernel_rfl) (fun _ _ _ h => h) (Or.inl ⟨by rfl, fun W hW => by have hfact := run_str (HXR.out.below hW); clear hW; go_simp; first | done | simp [hfact]⟩) hHeld ?_
              simp only [Act.put, List.getElem_toArray, List.getElem_cons_zero, List.getElem_cons_succ, List.setIfInBounds_toArray, List.set_cons_succ, List.set_cons_zero]
              refine wpAnyH_take (i := 11) (v := .string ⟨(S2 ++ s2.r).toArray⟩) rfl (by kernel_rfl) (by kernel_rfl) (by kernel_rfl) (fun _ _ _ h => h) (Or.inl ⟨by rfl, fun W _ => by have hfact := hadd; go_simp; first | done | simp [hfact]⟩) hHeld ?_
              simp only [Act.put, List.getElem_toArray, List.getElem_cons_zero, List.getElem_cons_succ, List.setIfInBounds_toArray, List.set_cons_succ, List.set_cons_zero]
              refine wpAnyH_take (i := 12) (v := .slice av bs.length cv) rfl (by kernel_rfl) (by kernel_rfl) (by kernel_rfl) (fun _ _ _ h => h) (Or.inl ⟨by rfl, fun W _ => by go_simp⟩) hHeld ?_
              simp only [Act.put, List.getElem_toArray, List.getElem_cons_zero, List.getElem_cons_succ, List.setIfInBounds_toArray, List.set_cons_succ, List.set_cons_zero]
              refine wpAnyH_take (i := 13) (v := .int .i64 (k : Int)) rfl (by kernel_rfl) (by kernel_rfl) (by kernel_rfl) (fun _ _ _ h => h) (Or.inl ⟨by rfl, fun W _ => by go_simp⟩) hHeld ?_
              simp only [Act.put, List.getElem_toArray, List.getElem_cons_zero, List.getElem_cons_succ, List.setIfInBounds_toArray, List.set_cons_succ, List.set_cons_zero]
              refine wpAnyH_take (i := 14) (v := .int .i64 (k1 : Int)) rfl (by kernel_rfl) (by kernel_rfl) (by kernel_rfl) (fun _ _ _ h => h) (Or.inl ⟨by rfl, fun W _ => by have hfact := hk1; go_simp; first | done | simp [hfact]⟩) hHeld ?_
              simp only [Act.put, List.getElem_toArray, List.getElem_cons_zero, List.getElem_cons_succ, List.setIfInBounds_toArray, List.set_cons_succ, List.set_cons_zero]
              refine wpAnyH_take (i := 15) (v := .slice ac nc cc) rfl (by kernel_rfl) (by kernel_rfl) (by kernel_rfl) (fun _ _ _ h => h) (yields_slice (by rfl) 22 (.tmp 80) none (some (.tmp 82)) none (by rfl) _ (fun W => hct W)) hHeld ?_
              simp only [Act.put, List.getElem_toArray, List.getElem_cons_zero, List.getElem_cons_succ, List.setIfInBounds_toArray, List.set_cons_succ, List.set_cons_zero]
              refine wpAnyH_take (i := 16) (v := .string ⟨(S2 ++ s2.r).toArray⟩) rfl (by kernel_rfl) (by kernel_rfl) (by kernel_rfl) (fun _ _ _ h => h) (Or.inl ⟨by rfl, fun W hW => by have hfact := run_str (HXC.out.below hW); clear hW; go_simp; first | done | simp [hfact]⟩) hHeld ?_
              simp only [Act.put, List.getElem_toArray, List.getElem_cons_zero, List.getElem_cons_succ, List.setIfInBounds_toArray, List.set_cons_succ, List.set_cons_zero]
              refine wpAnyH_take (i := 17) (v := .bool false) rfl (by kernel_rfl) (by kernel_rfl) (by kernel_rfl) (fun _ _ _ h => h) (Or.inl ⟨by rfl, fun W _ => by have hfact := HT9.out; go_simp; first | done | simp [hfact]⟩) hHeld ?_
              simp only [Act.put, List.getElem_toArray, List.getElem_cons_zero, List.getElem_cons_succ, List.setIfInBounds_toArray, List.set_cons_succ, List.set_cons_zero]
              refine wpAnyH_take (i := 18) (v := .bool false) rfl (by kernel_rfl) (by kernel_rfl) (by kernel_rfl) (fun _ _ _ h => h) (Or.inl ⟨by rfl, fun W _ => by go_simp⟩) hHeld ?_
              simp only [Act.put, List.getElem_toArray, List.getElem_cons_zero, List.getElem_cons_succ, List.setIfInBounds_toArray, List.set_cons_succ, List.set_cons_zero]
              have HD := hid (bel_drw wr9 1)
              have HSDx := hid (HSD9.out.below HD.out)
              have HQx := hid (below_then HQ9.out HD.out)
              have HOx := hid ((show OwnB (wr9.drewN 1) w.heap.size (.slice aj nj cj) S2 from HOS9.out.below HD.out))
              have HFx := hid (bel_keep HD.out HF9.out)
              obtain ⟨wx, HWX⟩ : ∃ x, Hid (wr9.drewN 1 = x) := ⟨_, rfl⟩
              have HWYq := hid (show wr9.drew = wx from HWX.out)
              rw [HWX.out] at HSDx HQx HOx HFx
              rw [HWYq.out]
              clear hHeld HD
              refine wpAnyH_done (by kernel_rfl) ?_ _
              simp only [noPanic]
              have HY2' := hid HY2.out
              have f0 : wx.cell? ⟨F, 0, none⟩ = some (.int .i64 y2) := by simp [World.cell?, HFx.out]
              have f1 : wx.cell? ⟨F, 1, none⟩ = some (.int .i64 t2) := by simp [World.cell?, HFx.out]
              clear hrl hl10 hl14 hadd hct
              by_cases hy : y2 = 0
              · as_aux_lemma =>
                  have ht : t2 = 0 := by rw [← HT2.out]; exact (HSDx.out.good.ok (HY2.out.trans hy)).1
                  have HY0 := hid (HY2.out.trans hy)
                  subst hy ht
                  have n1 : ∀ W, (binOp .neq 33 (.agg #[.int .i64 0, .int .i64 0]) (.agg #[.int .i64 0, .int .i64 0])).run Tryz.prog W = .ok (.bool false) W := fun W => by rw [fault_neq]; simp
                  go_wp2_with (first | (refine bd_row (by rfl) 33 #[] (by rfl) _ (by simp) _ built_fz ?_))
                  exact ⟨⟨k + 1, v3, S2, s2, hlt, by rw [HK1.out], HOx.out, HSDx.out, HY0.out, hid (by rw [HCM.out, HCA.out]; rfl), HEQ2.out, HAPj.out, HQx.out⟩, by have := HK1.out; simp [intOf]; omega⟩
              · as_aux_lemma =>
                  have n1 : ∀ W, (binOp .neq 33 (.agg #[.int .i64 y2, .int .i64 t2]) (.agg #[.int .i64 0, .int .i64 0])).run Tryz.prog W = .ok (.bool true) W := fun W => by rw [fault_neq]; simp [hy]
                  have nP : ∀ W, (binOp .eql 33 (.agg #[.int .i64 y2, .int .i64 t2]) (.agg #[.int .i64 y2, .int .i64 t2])).run Tryz.prog W = .ok (.bool true) W := fun W => by rw [fault_eql]; simp
                  clear hy
                  go_upto_region 21 with (first | (refine bd_row (by rfl) 33 #[] (by rfl) _ (by simp) _ built_fz ?_))
                  clear n1 f0 f1
                  refine wp_noPanic (wp_region_held_drew (S := fun W => Below wx.heap.size wx W) (by kernel_rfl) (bel_drw wx 1) ?_)
                  intro hHeld
                  refine wpAnyH_take (i := 0) (v := .pointer (some ⟨b, 0, none⟩)) rfl (by kernel_rfl) (by kernel_rfl) (by kernel_rfl) (fun _ _ _ h => h) (Or.inl ⟨by rfl, fun W _ => by go_simp⟩) hHeld ?_
                  simp only [Act.put, List.getElem_toArray, List.getElem_cons_zero, List.setIfInBounds_toArray, List.set_cons_succ, List.set_cons_zero]
                  refine wpAnyH_take (i := 2) (v := .agg [Value.int .i64 y2, .int .i64 t2].toArray) rfl (by kernel_rfl) (by kernel_rfl) (by kernel_rfl) (fun _ _ _ h => h) (yieldsIf_load_mid (by rfl) 33 (.tmp 11) rfl F 0 rfl [Value.int .i64 y2, .int .i64 t2] _ (fun W hW => Bel.range (range_row HFx.out) (hp_lt HFx.out) W ⟨⟨W, hW⟩, rfl⟩) Tryz.underlying33 rfl faultSize) hHeld ?_
                  simp only [Act.put, List.getElem_toArray, List.getElem_cons_zero, List.getElem_cons_succ, List.setIfInBounds_toArray, List.set_cons_succ, List.set_cons_zero]
                  refine wpAnyH_ready (rs := [1]) (by kernel_rfl) (by simp) ?_
                  refine AllReadyH.cons rfl (fun K hK => ?_) AllReadyH.nil
                  have HPO := hid (fun W (h : Below wx.heap.size wx W) => kpoison_any (HSDx.out.below h))
                  rw [HY2.out, HT2.out] at HPO
                  go_simp
                  refine ((HPO.out _ hHeld)).mono ?_
                  rintro e w10 ⟨rfl, hb⟩
                  have HH10 := hid (below_then hHeld hb)
                  clear hb HPO
                  go_wp2_with fail
                  refine hK.out _ _ HH10.out (fun hHeld => ?_)
                  clear hK K
                  try simp only [Act.put, List.getElem_toArray, List.getElem_cons_zero, List.getElem_cons_succ, List.setIfInBounds_toArray, List.set_cons_succ, List.set_cons_zero]
                  refine wpAnyH_take (i := 3) (v := .bool true) rfl (by kernel_rfl) (by kernel_rfl) (by kernel_rfl) (fun _ _ _ h => h) (Or.inl ⟨by rfl, fun W _ => by have hfact := nP; go_simp; first | done | simp [hfact]⟩) hHeld ?_
                  simp only [Act.put, List.getElem_toArray, List.getElem_cons_zero, List.getElem_cons_succ, List.setIfInBounds_toArray, List.set_cons_succ, List.set_cons_zero]
                  refine wpAnyH_take (i := 4) (v := .bool true) rfl (by kernel_rfl) (by kernel_rfl) (by kernel_rfl) (fun _ _ _ h => h) (Or.inl ⟨by rfl, fun W _ => by go_simp⟩) hHeld ?_
                  simp only [Act.put, List.getElem_toArray, List.getElem_cons_zero, List.getElem_cons_succ, List.setIfInBounds_toArray, List.set_cons_succ, List.set_cons_zero]
                  refine wpAnyH_ready (rs := [5]) (by kernel_rfl) (by simp) ?_
                  refine AllReadyH.cons rfl (fun K hK => ?_) AllReadyH.nil
                  go_simp
                  refine ((awake8_any w10)).mono ?_
                  rintro e w11 ⟨rfl, hb⟩
                  have HH11 := hid (below_then HH10.out hb)
                  clear hb
                  go_wp2_with fail
                  refine hK.out _ _ HH11.out (fun hHeld => ?_)
                  clear hK K
                  try simp only [Act.put, List.getElem_toArray, List.getElem_cons_zero, List.getElem_cons_succ, List.setIfInBounds_toArray, List.set_cons_succ, List.set_cons_zero]
                  refine wpAnyH_take (i := 6) (v := .bool true) rfl (by kernel_rfl) (by kernel_rfl) (by kernel_rfl) (fun _ _ _ h => h) (Or.inl ⟨by rfl, fun W _ => by go_simp⟩) hHeld ?_
                  simp only [Act.put, List.getElem_toArray, List.getElem_cons_zero, List.getElem_cons_succ, List.setIfInBounds_toArray, List.set_cons_succ, List.set_cons_zero]
                  refine wpAnyH_take (i := 7) (v := .bool true) rfl (by kernel_rfl) (by kernel_rfl) (by kernel_rfl) (fun _ _ _ h => h) (Or.inl ⟨by rfl, fun W _ => by go_simp⟩) hHeld ?_
                  simp only [Act.put, List.getElem_toArray, List.getElem_cons_zero, List.getElem_cons_succ, List.setIfInBounds_toArray, List.set_cons_succ, List.set_cons_zero]
                  refine wpAnyH_done (by kernel_rfl) ?_ _
                  simp only [noPanic]
                  clear hHeld
                  have HB9 := hid (below_then HQx.out HH11.out)
                  go_wp2
                  go_ret
                  exact ⟨rfl, HB9.out⟩
    · obtain rfl : k = bs.length := by omega
      as_aux_lemma =>
        go_wp2_with fail
        refine (awake8_any wr).mono ?_
        rintro e wz ⟨rfl, hbz⟩
        have HB9 := hid (below_then HQ.out hbz)
        clear hbz
        go_wp2
        go_ret
        exact ⟨rfl, HB9.out⟩
end Go.Proofs.YtiibhccbbpgehaaGreat
