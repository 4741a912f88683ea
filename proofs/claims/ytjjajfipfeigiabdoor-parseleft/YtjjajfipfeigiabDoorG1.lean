/- Contracts and pure facts that the proof needs, joined. -/
import Derived.Shelf.Strings.Builder1
import Derived.Shelf.Small.Strs
import Derived.Shelf.Strings.BuilderF
import Derived.Shelf.Strings.BuilderK
import Derived.Shelf.Strconv.Clone
import Derived.Shelf.Strings.Search1
import Derived.Shelf.Strings.Prefix
import Derived.Test.YtjjajfipfeigiabDoorProg
import Derived.WalkKit
import Derived.WalkSpells
import Derived.WalkLawsBesides
import Derived.BigQuiet
import Derived.Deep.QuietTactic
import Derived.Laws.AppendOwnNone
import Derived.Laws.OwnMore
import Derived.Lib.AppendStr
import Derived.Laws.BytesString
import Derived.Laws.IdiomStrings
import Derived.Deep.WholeRow
import Derived.Deep.MidRow
import Derived.Deep.RegionHeld3
import Derived.Lib.Join
import Derived.Lib.Index

/- Contracts of the library, laid over this dump. -/
namespace Go.Proofs
open Go.Shelf
def Tryd.lays137_ren : Go.Shelf.Ren := ⟨fun | 137 => 93 | 217 => 102 | 266 => 106 | n => n, fun | 9 => 9 | 5 => 5 | 3 => 3 | n => n, fun | n => n⟩
theorem Tryd.lays137 : Go.Proofs.Lays.n137 Tryd.prog Tryd.lays137_ren := {
  mixed := by kernel_rfl
  f137 := Tryd.func93.trans (congrArg some (by kernel_rfl))
  f217 := Tryd.func102.trans (congrArg some (by kernel_rfl))
  f266 := Tryd.func106.trans (congrArg some (by kernel_rfl))
  t3 := Tryd.underlying3
  a3 := Tryd.isAgg3
  z3 := Tryd.sizeOf3
  v3 := Tryd.zeroValue3
  t5 := Tryd.underlying5
  a5 := Tryd.isAgg5
  z5 := Tryd.sizeOf5
  v5 := Tryd.zeroValue5
  t9 := Tryd.underlying9
  a9 := Tryd.isAgg9
  z9 := Tryd.sizeOf9
  v9 := Tryd.zeroValue9 }
open Go.RowKit in
theorem Tryd.strings_IndexByte (s : ByteArray) (c : Int) (w : World) :
    Calls Tryd.prog 93 #[.string s, .int .u8 c] w fun e w' => e = .returned (.int .i64 (Lib.indexByte s.data.toList c.toNat.toUInt8)) ∧ w' = w := Any.strings_IndexByte Tryd.lays137 s c w
def Tryd.lays99_ren : Go.Shelf.Ren := ⟨fun | 99 => 92 | 206 => 101 | n => n, fun | 9 => 9 | 4 => 4 | 3 => 3 | n => n, fun | n => n⟩
theorem Tryd.lays99 : Go.Proofs.Lays.n99 Tryd.prog Tryd.lays99_ren := {
  mixed := by kernel_rfl
  f99 := Tryd.func92.trans (congrArg some (by kernel_rfl))
  f206 := Tryd.func101.trans (congrArg some (by kernel_rfl))
  t3 := Tryd.underlying3
  a3 := Tryd.isAgg3
  z3 := Tryd.sizeOf3
  v3 := Tryd.zeroValue3
  t4 := Tryd.underlying4
  a4 := Tryd.isAgg4
  z4 := Tryd.sizeOf4
  v4 := Tryd.zeroValue4
  t9 := Tryd.underlying9
  a9 := Tryd.isAgg9
  z9 := Tryd.sizeOf9
  v9 := Tryd.zeroValue9 }
open Go.RowKit Go.Lib in
theorem Tryd.strings_HasPrefix (s p : ByteArray) (w : World) :
    Calls Tryd.prog 92 #[.string s, .string p] w fun e w' => e = .returned (.bool (Lib.hasPrefix s.data.toList p.data.toList)) ∧ w' = w := Any.strings_HasPrefix Tryd.lays99 s p w
end Go.Proofs

/- The tokens of a source, plainly: gaps, words, numbers, texts, signs. -/
namespace Go.Proofs.YtjjajfipfeigiabDoor

/-- a letter or _, a digit, a blank, a byte that stands for itself in a text -/
def ltI (c : Int) : Bool := decide ((65 ≤ c ∧ c ≤ 90) ∨ (97 ≤ c ∧ c ≤ 122) ∨ c = 95)
def dgI (c : Int) : Bool := decide (48 ≤ c ∧ c ≤ 57)
def bkI (c : Int) : Bool := decide (c = 32 ∨ c = 9 ∨ c = 10 ∨ c = 13)
def plI (c : Int) : Bool := decide (32 ≤ c ∧ c ≤ 126 ∧ c ≠ 34 ∧ c ≠ 92)
def ltB (c : UInt8) : Bool := ltI (c.toNat : Nat)
def dgB (c : UInt8) : Bool := dgI (c.toNat : Nat)
def bkB (c : UInt8) : Bool := bkI (c.toNat : Nat)
def plB (c : UInt8) : Bool := plI (c.toNat : Nat)
def wdB (c : UInt8) : Bool := ltB c || dgB c

/-- how many bytes of a kind stand ahead -/
def twN (p : UInt8 → Bool) : List UInt8 → Nat
  | [] => 0
  | c :: t => if p c then twN p t + 1 else 0
theorem twN_le (p : UInt8 → Bool) (l : List UInt8) : twN p l ≤ l.length := by
  induction l with
  | nil => exact Nat.le_refl _
  | cons c t ih => unfold twN; split <;> simp <;> omega
theorem twN_in {p : UInt8 → Bool} {l : List UInt8} {k : Nat} (h : k < twN p l) : p (l.getD k 0) = true := by
  induction l generalizing k with
  | nil => simp [twN] at h
  | cons c t ih =>
    unfold twN at h
    split at h
    · cases k with
      | zero => simpa
      | succ k => simpa using ih (k := k) (by omega)
    · omega
theorem twN_end {p : UInt8 → Bool} {l : List UInt8} (h : twN p l < l.length) : p (l.getD (twN p l) 0) = false := by
  induction l with
  | nil => simp at h
  | cons c t ih =>
    unfold twN at h ⊢
    split at h
    · rename_i hp
      rw [if_pos hp]
      simpa using ih (by simp at h; omega)
    · rename_i hp
      rw [if_neg hp]
      simpa using hp
theorem twN_eq {p : UInt8 → Bool} {l : List UInt8} {k : Nat} (h1 : k ≤ l.length) (h2 : ∀ j, j < k → p (l.getD j 0) = true) (h3 : k < l.length → p (l.getD k 0) = false) : twN p l = k := by
  rcases Nat.lt_trichotomy (twN p l) k with h | h | h
  · have a := h2 _ h
    have b := twN_end (p := p) (l := l) (by omega)
    rw [b] at a
    cases a
  · exact h
  · have a := twN_in h
    have hl := twN_le p l
    rw [h3 (by omega)] at a
    cases a
theorem twN_cons {p : UInt8 → Bool} {c : UInt8} {t : List UInt8} (h : p c = true) : twN p (c :: t) = twN p t + 1 := by simp [twN, h]
theorem twN_none {p : UInt8 → Bool} {c : UInt8} {t : List UInt8} (h : p c = false) : twN p (c :: t) = 0 := by simp [twN, h]
/-- what stands behind matters by its first byte alone -/
theorem twN_cut {p : UInt8 → Bool} {l r : List UInt8} (h : ∀ c, r.head? = some c → p c = false) : twN p (l.take (twN p l) ++ r) = twN p l := by
  induction l with
  | nil =>
    cases r with
    | nil => rfl
    | cons c t => simp [twN, h c rfl]
  | cons c t ih =>
    by_cases hp : p c = true
    · rw [twN_cons hp, List.take_succ_cons, List.cons_append, twN_cons hp, ih]
    · have hp : p c = false := by simpa using hp
      rw [twN_none hp]
      cases r with
      | nil => rfl
      | cons d u => simp [twN, h d rfl]

/-- the bytes of the gap ahead; false: not within a remark -/
def gapN : Bool → List UInt8 → Nat
  | _, [] => 0
  | false, c :: t => if bkB c = true then gapN false t + 1 else if c = 47 ∧ t.head? = some 47 then gapN true t + 1 else 0
  | true, c :: t => if c = 10 then gapN false t + 1 else gapN true t + 1
def gapP (l : List UInt8) : Nat := gapN false l
theorem gapN_le (b : Bool) (l : List UInt8) : gapN b l ≤ l.length := by
  induction l generalizing b with
  | nil => cases b <;> exact Nat.le_refl _
  | cons c t ih =>
    have h1 := ih false
    have h2 := ih true
    cases b <;> unfold gapN <;> simp only [List.length_cons] <;> repeat' split
    all_goals omega
theorem gapP_le (l : List UInt8) : gapP l ≤ l.length := gapN_le _ _
/-- a cut behind a gap -/
theorem gapN_take (b : Bool) (l : List UInt8) (m : Nat) (h : gapN b l ≤ m) : gapN b (l.take m) = gapN b l := by
  induction l generalizing b m with
  | nil => simp
  | cons c t ih =>
    cases m with
    | zero =>
      have e : gapN b (c :: t) = 0 := by omega
      rw [e]
      cases b <;> rfl
    | succ m =>
      rw [List.take_succ_cons]
      have hh : (t.take m).head? = some 47 → t.head? = some 47 := by
        intro e
        cases t with
        | nil => simp at e
        | cons d u =>
          cases m with
          | zero => simp at e
          | succ m => simpa using e
      cases b with
      | true =>
        unfold gapN at h ⊢
        split at h
        · rename_i hc
          rw [if_pos hc, if_pos hc, ih _ _ (by omega)]
        · rename_i hc
          rw [if_neg hc, if_neg hc, ih _ _ (by omega)]
      | false =>
        unfold gapN at h ⊢
        split at h
        · rename_i hc
          rw [if_pos hc, if_pos hc, ih _ _ (by omega)]
        · rename_i hc
          rw [if_neg hc, if_neg hc]
          split at h
          · rename_i h2
            rw [if_pos h2]
            have hm : 1 ≤ m := by
              obtain ⟨_, h3⟩ := h2
              cases t with
              | nil => simp at h3
              | cons d u =>
                unfold gapN at h
                split at h <;> omega
            have h3 : c = 47 ∧ (t.take m).head? = some 47 := by
              refine ⟨h2.1, ?_⟩
              cases t with
              | nil => simpa using h2.2
              | cons d u =>
                cases m with
                | zero => omega
                | succ m => simpa using h2.2
            rw [if_pos h3, ih _ _ (by omega)]
          · rename_i h2
            rw [if_neg h2, if_neg (fun h3 => h2 ⟨h3.1, hh h3.2⟩)]
theorem gapP_take {l : List UInt8} {m : Nat} (h : gapP l ≤ m) : gapP (l.take m) = gapP l := gapN_take _ _ _ h
/-- behind a gap there is none -/
theorem gapN_idle (b : Bool) (l : List UInt8) : gapP (l.drop (gapN b l)) = 0 := by
  unfold gapP
  induction l generalizing b with
  | nil => cases b <;> rfl
  | cons c t ih =>
    cases b with
    | true =>
      by_cases h1 : c = 10
      · have e : gapN true (c :: t) = gapN false t + 1 := by rw [gapN, if_pos h1]
        rw [e, List.drop_succ_cons]; exact ih _
      · have e : gapN true (c :: t) = gapN true t + 1 := by rw [gapN, if_neg h1]
        rw [e, List.drop_succ_cons]; exact ih _
    | false =>
      by_cases h1 : bkB c = true
      · have e : gapN false (c :: t) = gapN false t + 1 := by rw [gapN, if_pos h1]
        rw [e, List.drop_succ_cons]; exact ih _
      · by_cases h2 : c = 47 ∧ t.head? = some 47
        · have e : gapN false (c :: t) = gapN true t + 1 := by rw [gapN, if_neg h1, if_pos h2]
          rw [e, List.drop_succ_cons]; exact ih _
        · have e : gapN false (c :: t) = 0 := by rw [gapN, if_neg h1, if_neg h2]
          rw [e, List.drop_zero, e]
theorem gapP_idle (l : List UInt8) : gapP (l.drop (gapP l)) = 0 := gapN_idle _ _
/-- blanks ahead -/
def bkN (l : List UInt8) : Nat := twN bkB l
/-- the remark ahead -/
def nlB (c : UInt8) : Bool := !decide (c = 10)
def rmN (l : List UInt8) : Nat := if l.take 2 = [47, 47] then twN nlB l else 0
theorem bkB_47 : bkB 47 = false := by decide
theorem gapP_bk (l : List UInt8) : gapP l = bkN l + gapP (l.drop (bkN l)) := by
  unfold gapP bkN
  induction l with
  | nil => rfl
  | cons c t ih =>
    by_cases h1 : bkB c = true
    · rw [twN_cons h1, List.drop_succ_cons, gapN, if_pos h1, ih]; omega
    · rw [twN_none (by simpa using h1), List.drop_zero]; omega
theorem gapT_rm (l : List UInt8) : gapN true l = twN nlB l + gapN false (l.drop (twN nlB l)) := by
  induction l with
  | nil => rfl
  | cons c t ih =>
    by_cases h1 : c = 10
    · subst h1
      have e1 : gapN true (10 :: t) = gapN false t + 1 := by rw [gapN, if_pos rfl]
      have e2 : gapN false (10 :: t) = gapN false t + 1 := by rw [gapN, if_pos (by decide)]
      rw [twN_none (by decide), List.drop_zero, e1, e2]; omega
    · rw [twN_cons (by simpa [nlB] using h1), List.drop_succ_cons, gapN, if_neg h1, ih]; omega
theorem gapP_rm (l : List UInt8) : gapP l = rmN l + gapP (l.drop (rmN l)) := by
  unfold rmN
  split
  · rename_i h
    match l, h with
    | c :: d :: t, h =>
      simp only [List.take_succ_cons, List.take_zero, List.cons.injEq, and_true] at h
      obtain ⟨rfl, rfl⟩ := h
      rw [twN_cons (by decide), List.drop_succ_cons]
      unfold gapP
      rw [gapN, if_neg (by decide), if_pos ⟨rfl, rfl⟩, gapT_rm]
      omega
  · simp
theorem gapP_none {l : List UInt8} (h1 : bkN l = 0) (h2 : rmN l = 0) : gapP l = 0 := by
  match l with
  | [] => rfl
  | c :: t =>
    have hb : bkB c = false := by
      by_cases hb : bkB c = true
      · unfold bkN at h1; rw [twN_cons hb] at h1; omega
      · simpa using hb
    unfold gapP
    rw [gapN, if_neg (by simp [hb])]
    rw [if_neg]
    rintro ⟨rfl, ht⟩
    match t, ht with
    | d :: u, ht =>
      simp only [List.head?_cons, Option.some.injEq] at ht
      subst ht
      unfold rmN at h2
      rw [if_pos (show List.take 2 (47 :: 47 :: u) = [47, 47] from rfl), twN_cons (by decide)] at h2
      omega

/-- what digits stand for -/
def valP (ds : List UInt8) : Nat := ds.foldl (fun n c => 10 * n + (c.toNat - 48)) 0
theorem valF_le (ds : List UInt8) (n : Nat) : n ≤ ds.foldl (fun n c => 10 * n + (c.toNat - 48)) n := by
  induction ds generalizing n with
  | nil => exact Nat.le_refl _
  | cons c t ih => rw [List.foldl_cons]; exact Nat.le_trans (by omega) (ih _)
theorem valP_append (a b : List UInt8) : valP a ≤ valP (a ++ b) := by
  unfold valP; rw [List.foldl_append]; exact valF_le _ _
theorem valP_succ {l : List UInt8} {k : Nat} (h : k < l.length) : valP (l.take (k + 1)) = 10 * valP (l.take k) + ((l.getD k 0).toNat - 48) := by
  rw [List.take_add_one, List.getElem?_eq_getElem h, Option.toList_some]
  unfold valP
  rw [List.foldl_append]
  simp [List.getD_eq_getElem?_getD, h]
theorem valP_take (l : List UInt8) (k : Nat) : valP (l.take k) ≤ valP l := by
  have h := valP_append (l.take k) (l.drop k)
  rwa [List.take_append_drop] at h

/-- keys and signs -/
def kyL : List (List UInt8) := [[105, 110, 99, 108, 117, 100, 101], [97, 115], [101, 120, 112, 111, 114, 116], [99, 111, 110, 115, 116], [102, 117, 110, 99], [118, 97, 114], [105, 102], [101, 108, 115, 101], [119, 104, 105, 108, 101], [114, 101, 116, 117, 114, 110], [112, 114, 105, 110, 116], [116, 114, 117, 101], [102, 97, 108, 115, 101], [105, 110, 116], [98, 111, 111, 108], [116, 101, 120, 116]]
def sg2 : List (List UInt8) := [[61, 61], [33, 61], [60, 61], [62, 61], [43, 43], [38, 38], [124, 124]]
def sg1 : List (List UInt8) := [[40], [41], [123], [125], [44], [59], [58], [46], [61], [60], [62], [43], [45], [42], [47], [37], [33], [35]]
def sgP (l : List UInt8) : Nat := if l.take 2 ∈ sg2 then 2 else if l.take 1 ∈ sg1 then 1 else 0
/-- a digit of a coded byte -/
def hxN (c : UInt8) : Nat := if dgB c = true then c.toNat - 48 else if 97 ≤ c.toNat ∧ c.toNat ≤ 102 then c.toNat - 87 else 16
/-- a piece of a text: its byte, and its size -/
def pcP (l : List UInt8) : UInt8 × Nat :=
  if l.length = 0 then (0, 0)
  else if l.getD 0 0 ≠ 92 then (if plB (l.getD 0 0) = true then (l.getD 0 0, 1) else (0, 0))
  else if l.length < 2 then (0, 0)
  else if l.getD 1 0 = 110 then (10, 2)
  else if l.getD 1 0 = 116 then (9, 2)
  else if l.getD 1 0 = 34 ∨ l.getD 1 0 = 92 then (l.getD 1 0, 2)
  else if l.getD 1 0 = 120 ∧ 4 ≤ l.length ∧ hxN (l.getD 2 0) < 16 ∧ hxN (l.getD 3 0) < 16 then (UInt8.ofNat (16 * hxN (l.getD 2 0) + hxN (l.getD 3 0)), 4)
  else (0, 0)
theorem pcP_le (l : List UInt8) : (pcP l).2 ≤ l.length := by
  unfold pcP
  repeat' split
  all_goals (simp; try omega)
/-- a text's value, and its size, from behind the first quote on; so many pieces at most -/
def txF : Nat → List UInt8 → Option (List UInt8 × Nat)
  | 0, _ => none
  | n + 1, l => if l.getD 0 0 = 34 then some ([], 1)
    else if (pcP l).2 = 0 then none
    else (txF n (l.drop (pcP l).2)).map (fun r => ((pcP l).1 :: r.1, (pcP l).2 + r.2))
theorem txF_more : ∀ (n m : Nat) (l : List UInt8), l.length < n → l.length < m → txF n l = txF m l
  | 0, _, l, h, _ => by omega
  | _ + 1, 0, l, _, h => by omega
  | n + 1, m + 1, l, h1, h2 => by
    unfold txF
    by_cases hq : l.getD 0 0 = 34
    · rw [if_pos hq, if_pos hq]
    · by_cases hp : (pcP l).2 = 0
      · rw [if_neg hq, if_neg hq, if_pos hp, if_pos hp]
      · have := pcP_le l
        rw [if_neg hq, if_neg hq, if_neg hp, if_neg hp, txF_more n m (l.drop (pcP l).2) (by rw [List.length_drop]; omega) (by rw [List.length_drop]; omega)]
def txP (l : List UInt8) : Option (List UInt8 × Nat) := txF (l.length + 1) l

/-- tokens: the kind, the size, the error -/
def wdP (l : List UInt8) : Nat × Nat × Int :=
  if 32 < twN wdB l then (0, 0, 123) else if l.take (twN wdB l) ∈ kyL then (4, twN wdB l, 0) else (1, twN wdB l, 0)
def nuP (l : List UInt8) : Nat × Nat × Int :=
  if (l.getD 0 0 = 48 ∧ 1 < twN dgB l) ∨ ltB (l.getD (twN dgB l) 0) = true ∨ 9223372036854775807 < valP (l.take (twN dgB l)) then (0, 0, 121) else (2, twN dgB l, 0)
def tqP (l : List UInt8) : Nat × Nat × Int :=
  match txP (l.drop 1) with
  | none => (0, 0, 122)
  | some r => if r.1.length ≤ 4096 then (3, r.2 + 1, 0) else (0, 0, 122)
def sqP (l : List UInt8) : Nat × Nat × Int := if sgP l = 0 then (0, 0, 120) else (5, sgP l, 0)
def tokP (l : List UInt8) : Nat × Nat × Int :=
  if l.length = 0 then (0, 0, 0)
  else if ltB (l.getD 0 0) = true then wdP l
  else if dgB (l.getD 0 0) = true then nuP l
  else if l.getD 0 0 = 34 then tqP l
  else sqP l

end Go.Proofs.YtjjajfipfeigiabDoor

/- A token stands by its own bytes and the first one behind it. -/
namespace Go.Proofs.YtjjajfipfeigiabDoor

/-- what may stand behind n bytes of l: nothing, what begins as it did, or a blank -/
def Beh (l : List UInt8) (n : Nat) (r : List UInt8) : Prop := r = [] ∨ r.head? = (l.drop n).head? ∨ ∃ c, r.head? = some c ∧ bkB c = true
theorem bk_wd {c : UInt8} (h : bkB c = true) : wdB c = false := by
  unfold bkB bkI at h
  unfold wdB ltB dgB ltI dgI
  simp only [decide_eq_true_eq] at h
  rw [Bool.or_eq_false_iff, decide_eq_false_iff_not, decide_eq_false_iff_not]
  omega
theorem wd_or {c : UInt8} (h : wdB c = false) : ltB c = false ∧ dgB c = false := by
  unfold wdB at h; exact Bool.or_eq_false_iff.1 h
theorem head_drop (l : List UInt8) (n : Nat) : (l.drop n).head? = l[n]? := by
  rw [List.head?_drop]
theorem getD_some {l : List UInt8} {n : Nat} {c : UInt8} (h : l[n]? = some c) : n < l.length ∧ l.getD n 0 = c := by
  obtain ⟨h1, h2⟩ := List.getElem?_eq_some_iff.1 h
  exact ⟨h1, by simp [List.getD_eq_getElem?_getD, h]⟩
theorem Beh.tw {p : UInt8 → Bool} {l r : List UInt8} (h : Beh l (twN p l) r) (hb : ∀ c, bkB c = true → p c = false) : ∀ c, r.head? = some c → p c = false := by
  intro c hc
  rcases h with rfl | h | ⟨d, h1, h2⟩
  · simp at hc
  · rw [hc, head_drop] at h
    obtain ⟨h1, h2⟩ := getD_some h.symm
    rw [← h2]; exact twN_end h1
  · rw [hc] at h1; injection h1 with h1; subst h1; exact hb _ h2
theorem take_app (l r : List UInt8) {n : Nat} (hn : n ≤ l.length) : (l.take n ++ r).take n = l.take n := by
  rw [List.take_append_of_le_length (by rw [List.length_take]; omega), List.take_take, Nat.min_self]
theorem getD_app (l r : List UInt8) {n j : Nat} (hn : n ≤ l.length) (hj : j < n) : (l.take n ++ r).getD j 0 = l.getD j 0 := by
  simp only [List.getD_eq_getElem?_getD]
  rw [List.getElem?_append_left (by rw [List.length_take]; omega), List.getElem?_take_of_lt hj]
theorem getD_behind (l r : List UInt8) {n : Nat} (hn : n ≤ l.length) : (l.take n ++ r).getD n 0 = r.getD 0 0 := by
  simp only [List.getD_eq_getElem?_getD]
  rw [List.getElem?_append_right (by rw [List.length_take]; omega), List.length_take, Nat.min_eq_left hn, Nat.sub_self]
theorem head_getD {r : List UInt8} : r.getD 0 0 = 0 ∧ r = [] ∨ r.head? = some (r.getD 0 0) := by
  cases r with
  | nil => exact Or.inl ⟨rfl, rfl⟩
  | cons c t => exact Or.inr rfl

theorem pc_same {l m : List UInt8} (h0 : (pcP l).2 ≠ 0) (h1 : (pcP l).2 ≤ m.length) (h2 : ∀ j, j < (pcP l).2 → m.getD j 0 = l.getD j 0) : pcP m = pcP l := by
  have e0 : m.getD 0 0 = l.getD 0 0 := h2 0 (by omega)
  by_cases hl : l.length = 0
  · exfalso; apply h0; unfold pcP; rw [if_pos hl]
  have hm : ¬ m.length = 0 := by omega
  by_cases hc : l.getD 0 0 ≠ 92
  · unfold pcP
    rw [if_neg hl, if_neg hm, e0, if_pos hc, if_pos hc]
  · by_cases hl2 : l.length < 2
    · exfalso; apply h0; unfold pcP; rw [if_neg hl, if_neg hc, if_pos hl2]
    have h2' : 2 ≤ (pcP l).2 := by
      unfold pcP at h0 ⊢
      rw [if_neg hl, if_neg hc, if_neg hl2] at h0 ⊢
      revert h0
      repeat' split
      all_goals first
        | exact fun _ => Nat.le_refl 2
        | exact fun _ => (by decide : 2 ≤ 4)
        | exact fun h0 => absurd rfl h0
    have hm2 : ¬ m.length < 2 := by omega
    have e1 : m.getD 1 0 = l.getD 1 0 := h2 1 (by omega)
    by_cases hx : l.getD 1 0 = 110 ∨ l.getD 1 0 = 116 ∨ (l.getD 1 0 = 34 ∨ l.getD 1 0 = 92)
    · unfold pcP
      rw [if_neg hl, if_neg hm, e0, if_neg hc, if_neg hc, if_neg hl2, if_neg hm2, e1]
      rcases hx with hx | hx | hx
      · rw [if_pos hx, if_pos hx]
      · rw [hx, if_neg (by decide), if_pos rfl, if_neg (by decide), if_pos rfl]
      · rcases hx with hx | hx <;> rw [hx, if_neg (by decide), if_neg (by decide), if_pos (by decide), if_neg (by decide), if_neg (by decide), if_pos (by decide)]
    · have x1 : ¬ l.getD 1 0 = 110 := fun e => hx (Or.inl e)
      have x2 : ¬ l.getD 1 0 = 116 := fun e => hx (Or.inr (Or.inl e))
      have x3 : ¬ (l.getD 1 0 = 34 ∨ l.getD 1 0 = 92) := fun e => hx (Or.inr (Or.inr e))
      by_cases hq : l.getD 1 0 = 120 ∧ 4 ≤ l.length ∧ hxN (l.getD 2 0) < 16 ∧ hxN (l.getD 3 0) < 16
      · have e4 : (pcP l).2 = 4 := by
          unfold pcP
          rw [if_neg hl, if_neg hc, if_neg hl2, if_neg x1, if_neg x2, if_neg x3, if_pos hq]
        have e2 : m.getD 2 0 = l.getD 2 0 := h2 2 (by omega)
        have e3 : m.getD 3 0 = l.getD 3 0 := h2 3 (by omega)
        have hq2 : l.getD 1 0 = 120 ∧ 4 ≤ m.length ∧ hxN (l.getD 2 0) < 16 ∧ hxN (l.getD 3 0) < 16 := ⟨hq.1, by omega, hq.2.2⟩
        unfold pcP
        rw [if_neg hl, if_neg hm, e0, if_neg hc, if_neg hc, if_neg hl2, if_neg hm2, e1, if_neg x1, if_neg x1, if_neg x2, if_neg x2, if_neg x3, if_neg x3, e2, e3, if_pos hq, if_pos hq2]
      · exfalso; apply h0; unfold pcP
        rw [if_neg hl, if_neg hc, if_neg hl2, if_neg x1, if_neg x2, if_neg x3, if_neg hq]

theorem txP_quote {l : List UInt8} (h : l.getD 0 0 = 34) : txP l = some ([], 1) := by unfold txP; rw [txF, if_pos h]
theorem txP_bad {l : List UInt8} (h : ¬ l.getD 0 0 = 34) (h2 : (pcP l).2 = 0) : txP l = none := by unfold txP; rw [txF, if_neg h, if_pos h2]
theorem txP_step {l : List UInt8} (h : ¬ l.getD 0 0 = 34) (h2 : ¬ (pcP l).2 = 0) : txP l = (txP (l.drop (pcP l).2)).map (fun r => ((pcP l).1 :: r.1, (pcP l).2 + r.2)) := by
  have hle := pcP_le l
  unfold txP
  rw [txF, if_neg h, if_neg h2, txF_more l.length ((l.drop (pcP l).2).length + 1) (l.drop (pcP l).2) (by rw [List.length_drop]; omega) (by omega)]
theorem txP_le {l v : List UInt8} {m : Nat} (h : txP l = some (v, m)) : 1 ≤ m ∧ m ≤ l.length ∧ v.length + 1 ≤ m := by
  induction hn : l.length using Nat.strongRecOn generalizing l v m with
  | _ n ih =>
    by_cases hq : l.getD 0 0 = 34
    · rw [txP_quote hq] at h
      injection h with h; injection h with h1 h2
      subst h1 h2
      refine ⟨Nat.le_refl _, ?_, Nat.le_refl _⟩
      cases l with
      | nil => simp at hq
      | cons c t => simp at hn; omega
    · by_cases hp : (pcP l).2 = 0
      · rw [txP_bad hq hp] at h; cases h
      · rw [txP_step hq hp] at h
        cases e : txP (l.drop (pcP l).2) with
        | none => rw [e] at h; cases h
        | some r =>
          rw [e] at h
          injection h with h; injection h with h1 h2
          have hle := pcP_le l
          have i := ih (l.drop (pcP l).2).length (by rw [List.length_drop]; omega) (v := r.1) e rfl
          rw [List.length_drop] at i
          rw [← h1, ← h2, List.length_cons]
          omega
theorem tx_cut {l v : List UInt8} {m : Nat} (r : List UInt8) (h : txP l = some (v, m)) : txP (l.take m ++ r) = some (v, m) := by
  induction hn : l.length using Nat.strongRecOn generalizing l v m with
  | _ n ih =>
    have hle := txP_le h
    have e0 : (l.take m ++ r).getD 0 0 = l.getD 0 0 := getD_app l r hle.2.1 (by omega)
    by_cases hq : l.getD 0 0 = 34
    · rw [txP_quote (by rw [e0]; exact hq), ← txP_quote hq, h]
    · by_cases hp : (pcP l).2 = 0
      · rw [txP_bad hq hp] at h; cases h
      · have h' := h
        rw [txP_step hq hp] at h
        cases e : txP (l.drop (pcP l).2) with
        | none => rw [e] at h; cases h
        | some q =>
          rw [e] at h
          injection h with h; injection h with h1 h2
          have hpl := pcP_le l
          have hm : (pcP l).2 ≤ m := by omega
          have ep : pcP (l.take m ++ r) = pcP l := pc_same hp (by rw [List.length_append, List.length_take]; omega) (fun j hj => getD_app l r hle.2.1 (by omega))
          have i := ih (l.drop (pcP l).2).length (by rw [List.length_drop]; omega) (v := q.1) e rfl
          have ed : (l.take m ++ r).drop (pcP l).2 = (l.drop (pcP l).2).take q.2 ++ r := by
            rw [List.drop_append_of_le_length (by rw [List.length_take]; omega), List.drop_take]
            congr 2
            omega
          rw [txP_step (by rw [e0]; exact hq) (by rw [ep]; exact hp), ep, ed, i]
          simp only [Option.map_some]
          rw [h1, h2]

theorem sg2_len {x : List UInt8} (h : x ∈ sg2) : x.length = 2 := by
  have : sg2.all (fun x => x.length == 2) = true := by decide
  simpa using List.all_eq_true.1 this x h
theorem sg1_len {x : List UInt8} (h : x ∈ sg1) : x.length = 1 := by
  have : sg1.all (fun x => x.length == 1) = true := by decide
  simpa using List.all_eq_true.1 this x h
theorem sg2_bk {a c : UInt8} (h : bkB c = true) : [a, c] ∉ sg2 := by
  have ha : sg2.all (fun x => !bkB (x.getD 1 0)) = true := by decide
  intro hm
  have := List.all_eq_true.1 ha _ hm
  simp [h] at this
theorem sgP_len (l : List UInt8) : sgP l ≤ l.length := by
  unfold sgP
  split
  · rename_i h
    have := sg2_len h
    rw [List.length_take] at this; omega
  · split
    · rename_i h
      have := sg1_len h
      rw [List.length_take] at this; omega
    · omega
theorem take_two {a : UInt8} {t : List UInt8} : (a :: t).take 2 = a :: t.head?.toList := by
  cases t <;> rfl
theorem sg_cut {l r : List UInt8} (h0 : sgP l ≠ 0) (hr : Beh l (sgP l) r) : sgP (l.take (sgP l) ++ r) = sgP l := by
  have hle := sgP_len l
  by_cases h2 : l.take 2 ∈ sg2
  · have e : sgP l = 2 := by unfold sgP; rw [if_pos h2]
    rw [e] at hle ⊢
    unfold sgP
    rw [take_app l r hle, if_pos h2]
  · by_cases h1 : l.take 1 ∈ sg1
    · have e : sgP l = 1 := by unfold sgP; rw [if_neg h2, if_pos h1]
      rw [e] at hle hr ⊢
      unfold sgP
      rw [take_app l r hle, if_pos h1, if_neg]
      match l, hle with
      | a :: t, _ =>
        rw [show (a :: t).take 1 ++ r = a :: r from rfl, take_two]
        rcases hr with rfl | hr | ⟨c, hr, hb⟩
        · intro hm; have := sg2_len hm; simp at this
        · rw [hr]
          intro hm
          apply h2
          rw [take_two]
          simpa using hm
        · rw [hr]; exact sg2_bk hb
    · exfalso; apply h0; unfold sgP; rw [if_neg h2, if_neg h1]

theorem tok_size {l : List UInt8} {k n : Nat} (h : tokP l = (k, n, 0)) (hk : k ≠ 0) : 1 ≤ n ∧ n ≤ l.length ∧ 1 ≤ k ∧ k ≤ 5 := by
  unfold tokP at h
  split at h
  · simp only [Prod.mk.injEq] at h; omega
  · rename_i hl
    split at h
    · rename_i hc
      unfold wdP at h
      have h1 : 1 ≤ twN wdB l := by
        match l, hl with
        | c :: t, _ => rw [twN_cons (by unfold wdB; simpa using Or.inl hc)]; omega
      have h2 := twN_le wdB l
      repeat' split at h
      all_goals (simp only [Prod.mk.injEq] at h; omega)
    · split at h
      · rename_i hc
        unfold nuP at h
        have h1 : 1 ≤ twN dgB l := by
          match l, hl with
          | c :: t, _ => rw [twN_cons (by simpa using hc)]; omega
        have h2 := twN_le dgB l
        repeat' split at h
        all_goals (simp only [Prod.mk.injEq] at h; omega)
      · split at h
        · unfold tqP at h
          split at h
          · simp only [Prod.mk.injEq] at h; omega
          · rename_i r e
            have := txP_le (v := r.1) (m := r.2) e
            rw [List.length_drop] at this
            split at h
            all_goals (simp only [Prod.mk.injEq] at h; omega)
        · unfold sqP at h
          have := sgP_len l
          split at h
          all_goals (simp only [Prod.mk.injEq] at h; omega)

theorem tok_cut {l r : List UInt8} {k n : Nat} (h : tokP l = (k, n, 0)) (hk : k ≠ 0) (hr : Beh l n r) : tokP (l.take n ++ r) = (k, n, 0) := by
  obtain ⟨s1, s2, _⟩ := tok_size h hk
  have e0 : (l.take n ++ r).getD 0 0 = l.getD 0 0 := getD_app l r s2 (by omega)
  have el : ¬ (l.take n ++ r).length = 0 := by rw [List.length_append, List.length_take]; omega
  have et := take_app l r s2
  have hl : ¬ l.length = 0 := by omega
  unfold tokP at h ⊢
  rw [if_neg hl] at h
  rw [if_neg el, e0]
  split at h
  · rename_i hc
    rw [if_pos hc]
    have en : n = twN wdB l := by
      unfold wdP at h
      repeat' split at h
      all_goals (simp only [Prod.mk.injEq] at h; omega)
    subst en
    have ec := twN_cut (p := wdB) (l := l) (r := r) (hr.tw (fun c hb => bk_wd hb))
    unfold wdP at h ⊢
    rw [ec, et]
    exact h
  · rename_i hc
    rw [if_neg hc]
    split at h
    · rename_i hc2
      rw [if_pos hc2]
      have en : n = twN dgB l := by
        unfold nuP at h
        repeat' split at h
        all_goals (simp only [Prod.mk.injEq] at h; omega)
      subst en
      have ec := twN_cut (p := dgB) (l := l) (r := r) (hr.tw (fun c hb => (wd_or (bk_wd hb)).2))
      unfold nuP at h ⊢
      rw [ec, et, e0]
      by_cases hbad : (l.getD 0 0 = 48 ∧ 1 < twN dgB l) ∨ ltB (l.getD (twN dgB l) 0) = true ∨ 9223372036854775807 < valP (l.take (twN dgB l))
      · rw [if_pos hbad] at h; simp at h
      · rw [if_neg hbad] at h
        rw [if_neg]
        · exact h
        · rintro (hx | hx | hx)
          · exact hbad (Or.inl hx)
          · rw [getD_behind l r s2] at hx
            rcases hr with rfl | hr | ⟨c, hr, hb⟩
            · revert hx; decide
            · rcases head_getD (r := r) with ⟨e, _⟩ | e
              · rw [e] at hx; revert hx; decide
              · rw [e, head_drop] at hr
                obtain ⟨_, hd⟩ := getD_some hr.symm
                exact hbad (Or.inr (Or.inl (by rw [hd]; exact hx)))
            · rcases head_getD (r := r) with ⟨e, _⟩ | e
              · rw [e] at hx; revert hx; decide
              · rw [e] at hr
                injection hr with hr
                rw [hr, (wd_or (bk_wd hb)).1] at hx; cases hx
          · exact hbad (Or.inr (Or.inr hx))
    · rename_i hc2
      rw [if_neg hc2]
      split at h
      · rename_i hc3
        rw [if_pos hc3]
        unfold tqP at h ⊢
        cases e : txP (l.drop 1) with
        | none => rw [e] at h; simp at h
        | some q =>
          rw [e] at h
          have ht := tx_cut (l := l.drop 1) (v := q.1) (m := q.2) r e
          have en : n = q.2 + 1 := by
            simp only at h
            split at h
            all_goals (simp only [Prod.mk.injEq] at h; omega)
          have ed : (l.take n ++ r).drop 1 = (l.drop 1).take q.2 ++ r := by
            rw [List.drop_append_of_le_length (by rw [List.length_take]; omega), List.drop_take]
            congr 2
            omega
          rw [ed, ht]
          exact h
      · rename_i hc3
        rw [if_neg hc3]
        unfold sqP at h ⊢
        by_cases hz : sgP l = 0
        · rw [if_pos hz] at h; simp at h
        · rw [if_neg hz] at h
          have en : n = sgP l := by simp only [Prod.mk.injEq] at h; omega
          subst en
          rw [sg_cut hz hr, if_neg hz]
          exact h

end Go.Proofs.YtjjajfipfeigiabDoor

/- All tokens of a source, one behind the other. -/
namespace Go.Proofs.YtjjajfipfeigiabDoor

theorem tok_view (l : List UInt8) : (l = [] ∧ tokP l = (0, 0, 0)) ∨ (l ≠ [] ∧ ∃ e : Int, 120 ≤ e ∧ e ≤ 123 ∧ tokP l = (0, 0, e)) ∨ (∃ k n : Nat, tokP l = (k, n, 0) ∧ 1 ≤ k ∧ k ≤ 5 ∧ 1 ≤ n ∧ n ≤ l.length) := by
  by_cases hl : l.length = 0
  · exact Or.inl ⟨List.length_eq_zero_iff.1 hl, by unfold tokP; rw [if_pos hl]⟩
  refine Or.inr ?_
  have hne : l ≠ [] := fun e => hl (by rw [e]; rfl)
  have key : (∃ e : Int, 120 ≤ e ∧ e ≤ 123 ∧ tokP l = (0, 0, e)) ∨ (∃ k n : Nat, tokP l = (k, n, 0) ∧ k ≠ 0) := by
    unfold tokP
    rw [if_neg hl]
    split
    · unfold wdP
      split
      · exact Or.inl ⟨_, by omega, by omega, rfl⟩
      · split
        · exact Or.inr ⟨_, _, rfl, by omega⟩
        · exact Or.inr ⟨_, _, rfl, by omega⟩
    · split
      · unfold nuP
        split
        · exact Or.inl ⟨_, by omega, by omega, rfl⟩
        · exact Or.inr ⟨_, _, rfl, by omega⟩
      · split
        · unfold tqP
          split
          · exact Or.inl ⟨_, by omega, by omega, rfl⟩
          · split
            · exact Or.inr ⟨_, _, rfl, by omega⟩
            · exact Or.inl ⟨_, by omega, by omega, rfl⟩
        · unfold sqP
          split
          · exact Or.inl ⟨_, by omega, by omega, rfl⟩
          · exact Or.inr ⟨_, _, rfl, by omega⟩
  rcases key with ⟨e, h1, h2, h3⟩ | ⟨k, n, h1, h2⟩
  · exact Or.inl ⟨hne, e, h1, h2, h3⟩
  · obtain ⟨a, b, c, d⟩ := tok_size h1 h2
    exact Or.inr ⟨k, n, h1, c, d, a, b⟩

/-- where the token from a byte on begins, and which it is -/
def frP (l : List UInt8) (a : Nat) : Nat := a + gapP (l.drop a)
def tkP (l : List UInt8) (a : Nat) : Nat × Nat × Int := tokP (l.drop (frP l a))
theorem frP_le {l : List UInt8} {a : Nat} (h : a ≤ l.length) : a ≤ frP l a ∧ frP l a ≤ l.length := by
  have := gapP_le (l.drop a)
  rw [List.length_drop] at this
  unfold frP
  omega
theorem frP_idle (l : List UInt8) (a : Nat) : gapP (l.drop (frP l a)) = 0 := by
  unfold frP
  rw [← List.drop_drop]
  exact gapP_idle _
theorem frP_frP (l : List UInt8) (a : Nat) : frP l (frP l a) = frP l a := by
  show frP l a + gapP (l.drop (frP l a)) = _
  rw [frP_idle]; rfl

/-- a whole source: its tokens (kind, from, to), why it is refused, where; so many tokens at most -/
def alF : Nat → List UInt8 → Nat → List (Nat × Nat × Nat) × Int × Nat
  | 0, _, _ => ([], 0, 0)
  | n + 1, l, a => if (tkP l a).2.2 ≠ 0 then ([], (tkP l a).2.2, frP l a)
    else if (tkP l a).1 = 0 then ([(0, frP l a, frP l a)], 0, 0)
    else (((tkP l a).1, frP l a, frP l a + (tkP l a).2.1) :: (alF n l (frP l a + (tkP l a).2.1)).1, (alF n l (frP l a + (tkP l a).2.1)).2)
def allP (l : List UInt8) (a : Nat) : List (Nat × Nat × Nat) × Int × Nat := alF (l.length + 1) l a

theorem all_bad {l : List UInt8} {a : Nat} {k n : Nat} {e : Int} (h : tkP l a = (k, n, e)) (he : e ≠ 0) : allP l a = ([], e, frP l a) := by
  unfold allP
  rw [alF, if_pos (by rw [h]; exact he), h]
theorem all_end {l : List UInt8} {a n : Nat} (h : tkP l a = (0, n, 0)) : allP l a = ([(0, frP l a, frP l a)], 0, 0) := by
  unfold allP
  rw [alF, if_neg (by rw [h]; simp), if_pos (by rw [h])]
theorem alF_more : ∀ (n m : Nat) (l : List UInt8) (a : Nat), a ≤ l.length → l.length - a < n → l.length - a < m → alF n l a = alF m l a
  | 0, _, l, a, _, h, _ => by omega
  | _ + 1, 0, l, a, _, _, h => by omega
  | n + 1, m + 1, l, a, ha, h1, h2 => by
    unfold alF
    by_cases he : (tkP l a).2.2 ≠ 0
    · rw [if_pos he, if_pos he]
    · by_cases hk : (tkP l a).1 = 0
      · rw [if_neg he, if_neg he, if_pos hk, if_pos hk]
      · have he0 : (tkP l a).2.2 = 0 := Decidable.not_not.1 he
        have hs := tok_size (l := l.drop (frP l a)) (k := (tkP l a).1) (n := (tkP l a).2.1) (by rw [← he0]; rfl) hk
        rw [List.length_drop] at hs
        have hf := frP_le ha
        rw [if_neg he, if_neg he, if_neg hk, if_neg hk, alF_more n m l (frP l a + (tkP l a).2.1) (by omega) (by omega) (by omega)]
theorem all_step {l : List UInt8} {a k n : Nat} (h : tkP l a = (k, n, 0)) (hk : k ≠ 0) (ha : a ≤ l.length) :
    allP l a = ((k, frP l a, frP l a + n) :: (allP l (frP l a + n)).1, (allP l (frP l a + n)).2) := by
  obtain ⟨s1, s2, _⟩ := tok_size h hk
  rw [List.length_drop] at s2
  have := frP_le ha
  unfold allP
  rw [alF, if_neg (by rw [h]; simp), if_neg (by rw [h]; exact hk), h]
  simp only
  rw [alF_more l.length (l.length + 1) l (frP l a + n) (by omega) (by omega) (by omega)]
theorem tk_view {l : List UInt8} {a : Nat} (ha : a ≤ l.length) : (frP l a = l.length ∧ tkP l a = (0, 0, 0)) ∨ (frP l a < l.length ∧ ∃ e : Int, 120 ≤ e ∧ e ≤ 123 ∧ tkP l a = (0, 0, e)) ∨ (∃ k n : Nat, tkP l a = (k, n, 0) ∧ 1 ≤ k ∧ k ≤ 5 ∧ 1 ≤ n ∧ frP l a + n ≤ l.length) := by
  have hf := frP_le ha
  rcases tok_view (l.drop (frP l a)) with ⟨h1, h2⟩ | ⟨h1, e, h2, h3, h4⟩ | ⟨k, n, h1, h2, h3, h4, h5⟩
  · rw [List.drop_eq_nil_iff] at h1
    exact Or.inl ⟨by omega, h2⟩
  · rw [ne_eq, List.drop_eq_nil_iff] at h1
    exact Or.inr (Or.inl ⟨by omega, e, h2, h3, h4⟩)
  · rw [List.length_drop] at h5
    exact Or.inr (Or.inr ⟨k, n, h1, h2, h3, h4, by omega⟩)

/-- at least one token, the last one the end -/
def Lx (l : List UInt8) : Nat → List (Nat × Nat × Nat) → Prop
  | _, [] => False
  | a, t :: ts => (t = (0, l.length, l.length) ∧ ts = [] ∧ tkP l a = (0, 0, 0) ∧ frP l a = l.length) ∨
    ∃ k n, t = (k, frP l a, frP l a + n) ∧ a ≤ l.length ∧ tkP l a = (k, n, 0) ∧ 1 ≤ k ∧ k ≤ 5 ∧ 1 ≤ n ∧ frP l a + n ≤ l.length ∧ Lx l (frP l a + n) ts
theorem Lx.last {l : List UInt8} {a : Nat} (h : tkP l a = (0, 0, 0)) (h2 : frP l a = l.length) : Lx l a [(0, l.length, l.length)] := Or.inl ⟨rfl, rfl, h, h2⟩
theorem Lx.more {l : List UInt8} {a k n : Nat} {ts : List (Nat × Nat × Nat)} (ha : a ≤ l.length) (h : tkP l a = (k, n, 0)) (hk : 1 ≤ k) (hk5 : k ≤ 5) (hn : 1 ≤ n) (hl : frP l a + n ≤ l.length) (ht : Lx l (frP l a + n) ts) : Lx l a ((k, frP l a, frP l a + n) :: ts) :=
  Or.inr ⟨k, n, rfl, ha, h, hk, hk5, hn, hl, ht⟩
theorem Lx.ind {l : List UInt8} {M : Nat → List (Nat × Nat × Nat) → Prop} (last : ∀ {a}, tkP l a = (0, 0, 0) → frP l a = l.length → M a [(0, l.length, l.length)])
    (more : ∀ {a k n ts}, a ≤ l.length → tkP l a = (k, n, 0) → 1 ≤ k → k ≤ 5 → 1 ≤ n → frP l a + n ≤ l.length → Lx l (frP l a + n) ts → M (frP l a + n) ts → M a ((k, frP l a, frP l a + n) :: ts)) :
    ∀ (ts : List (Nat × Nat × Nat)) {a : Nat}, Lx l a ts → M a ts
  | [], _, h => by cases h
  | t :: ts, a, h => by
    rcases h with ⟨rfl, rfl, h1, h2⟩ | ⟨k, n, rfl, h1, h2, h3, h4, h5, h6, h7⟩
    · exact last h1 h2
    · exact more h1 h2 h3 h4 h5 h6 h7 (Lx.ind last more ts h7)
/-- a source is refused, at a byte behind some tokens -/
def Lb (l : List UInt8) : Nat → List (Nat × Nat × Nat) → Int → Nat → Prop
  | a, [], e, p => a ≤ l.length ∧ tkP l a = (0, 0, e) ∧ 120 ≤ e ∧ e ≤ 123 ∧ frP l a < l.length ∧ p = frP l a
  | a, t :: ts, e, p => ∃ k n, t = (k, frP l a, frP l a + n) ∧ a ≤ l.length ∧ tkP l a = (k, n, 0) ∧ 1 ≤ k ∧ k ≤ 5 ∧ 1 ≤ n ∧ frP l a + n ≤ l.length ∧ Lb l (frP l a + n) ts e p
theorem Lb.here {l : List UInt8} {a : Nat} {e : Int} (ha : a ≤ l.length) (h : tkP l a = (0, 0, e)) (he : 120 ≤ e) (he2 : e ≤ 123) (hl : frP l a < l.length) : Lb l a [] e (frP l a) := ⟨ha, h, he, he2, hl, rfl⟩
theorem Lb.more {l : List UInt8} {a k n : Nat} {ts : List (Nat × Nat × Nat)} {e : Int} {p : Nat} (ha : a ≤ l.length) (h : tkP l a = (k, n, 0)) (hk : 1 ≤ k) (hk5 : k ≤ 5) (hn : 1 ≤ n) (hl : frP l a + n ≤ l.length) (ht : Lb l (frP l a + n) ts e p) : Lb l a ((k, frP l a, frP l a + n) :: ts) e p :=
  ⟨k, n, rfl, ha, h, hk, hk5, hn, hl, ht⟩
theorem Lb.ind {l : List UInt8} {e : Int} {p : Nat} {M : Nat → List (Nat × Nat × Nat) → Prop} (here : ∀ {a}, a ≤ l.length → tkP l a = (0, 0, e) → 120 ≤ e → e ≤ 123 → frP l a < l.length → p = frP l a → M a [])
    (more : ∀ {a k n ts}, a ≤ l.length → tkP l a = (k, n, 0) → 1 ≤ k → k ≤ 5 → 1 ≤ n → frP l a + n ≤ l.length → Lb l (frP l a + n) ts e p → M (frP l a + n) ts → M a ((k, frP l a, frP l a + n) :: ts)) :
    ∀ (ts : List (Nat × Nat × Nat)) {a : Nat}, Lb l a ts e p → M a ts
  | [], _, h => here h.1 h.2.1 h.2.2.1 h.2.2.2.1 h.2.2.2.2.1 h.2.2.2.2.2
  | t :: ts, a, h => by
    obtain ⟨k, n, rfl, h1, h2, h3, h4, h5, h6, h7⟩ := h
    exact more h1 h2 h3 h4 h5 h6 h7 (Lb.ind here more ts h7)
theorem all_view {l : List UInt8} {a : Nat} (ha : a ≤ l.length) : (∃ ts, Lx l a ts ∧ allP l a = (ts, 0, 0)) ∨ (∃ ts e p, Lb l a ts e p ∧ allP l a = (ts, e, p)) := by
  induction hn : l.length - a using Nat.strongRecOn generalizing a with
  | _ m ih =>
    have hf := frP_le ha
    rcases tk_view ha with ⟨h1, h2⟩ | ⟨h1, e, h2, h3, h4⟩ | ⟨k, n, h1, h2, h3, h4, h5⟩
    · exact Or.inl ⟨_, .last h2 h1, by rw [all_end h2, h1]⟩
    · exact Or.inr ⟨_, _, _, .here ha h4 h2 h3 h1, by rw [all_bad h4 (by omega)]⟩
    · rcases ih (l.length - (frP l a + n)) (by omega) h5 rfl with ⟨ts, i1, i2⟩ | ⟨ts, e, p, i1, i2⟩
      · exact Or.inl ⟨_, .more ha h1 h2 h3 h4 h5 i1, by rw [all_step h1 (by omega) ha, i2]⟩
      · exact Or.inr ⟨_, _, _, .more ha h1 h2 h3 h4 h5 i1, by rw [all_step h1 (by omega) ha, i2]⟩
theorem Lx.all {l : List UInt8} {a : Nat} {ts : List (Nat × Nat × Nat)} (h : Lx l a ts) : allP l a = (ts, 0, 0) :=
  Lx.ind (M := fun a ts => allP l a = (ts, 0, 0)) (fun h h2 => by rw [all_end h, h2]) (fun ha h hk _ _ _ _ ih => by rw [all_step h (by omega) ha, ih]) ts h
theorem Lb.all {l : List UInt8} {a : Nat} {ts : List (Nat × Nat × Nat)} {e : Int} {p : Nat} (h : Lb l a ts e p) : allP l a = (ts, e, p) :=
  Lb.ind (M := fun a ts => allP l a = (ts, e, p)) (fun _ h he _ _ hp => by rw [all_bad h (by omega), hp]) (fun ha h hk _ _ _ _ ih => by rw [all_step h (by omega) ha, ih]) ts h
theorem Lb.num {l : List UInt8} {a : Nat} {ts : List (Nat × Nat × Nat)} {e : Int} {p : Nat} (h : Lb l a ts e p) : 120 ≤ e ∧ e ≤ 123 ∧ p < l.length ∧ a ≤ p :=
  Lb.ind (M := fun a _ => 120 ≤ e ∧ e ≤ 123 ∧ p < l.length ∧ a ≤ p) (fun ha _ he he2 hl hp => ⟨he, he2, by omega, by have := (frP_le ha).1; omega⟩)
    (fun ha _ _ _ _ _ _ ih => ⟨ih.1, ih.2.1, ih.2.2.1, by have := (frP_le ha).1; omega⟩) ts h
theorem Lx.len {l : List UInt8} {a : Nat} {ts : List (Nat × Nat × Nat)} (h : Lx l a ts) : ts.length + a ≤ l.length + 1 ∧ 1 ≤ ts.length :=
  Lx.ind (M := fun a ts => ts.length + a ≤ l.length + 1 ∧ 1 ≤ ts.length)
    (fun {a} _ h2 => by have : a ≤ frP l a := Nat.le_add_right _ _; simp only [List.length_singleton]; omega)
    (fun ha _ _ _ _ hl _ ih => by have := frP_le ha; simp only [List.length_cons]; omega) ts h

end Go.Proofs.YtjjajfipfeigiabDoor

/- The module language, pure: trees, and what a row of tokens is read as. -/
namespace Go.Proofs.YtjjajfipfeigiabDoor
open Go.RowKit

/-- a token: its kind, where it begins, where it ends -/
abbrev Tok := Nat × Nat × Nat
/-- what is wrong, where, and how much fuel was used -/
abbrev Ft := Int × Nat × Nat

/-- a value -/
structure Vl where
  ty : Nat
  nu : Int
  tr : Bool
  te : List UInt8

/-- an expression -/
structure Ex where
  kind : Nat
  pl : Nat
  own : List UInt8
  nm : List UInt8
  vl : Vl
  op : Nat
  kids : List Ex

/-- a statement -/
structure Sm where
  kind : Nat
  pl : Nat
  nm : List UInt8
  ex : Ex
  body : List Sm
  has : Bool
  els : List Sm

/-- a constant -/
structure Cn where
  exp : Bool
  pl : Nat
  nm : List UInt8
  ex : Ex

/-- a function -/
structure Fu where
  exp : Bool
  pl : Nat
  nm : List UInt8
  pars : List (List UInt8 × Nat)
  res : Nat
  body : List Sm

/-- an include -/
structure Ic where
  path : List UInt8
  nm : List UInt8
  pl : Nat

/-- a module -/
structure Md where
  incs : List Ic
  cns : List Cn
  fns : List Fu

def zVl : Vl := ⟨0, 0, false, []⟩
def zEx : Ex := ⟨0, 0, [], [], zVl, 0, []⟩
def zMd : Md := ⟨[], [], []⟩

/-- the tokens, and their texts -/
structure Sup where
  lk : Nat → Except Ft Tok
  tx : Tok → List UInt8

/-- no answer: the number of steps was too small -/
def outF : Ft := (-1, 0, 0)
/-- token t, the i-th, can't stand there -/
def badF (y : Int) (i : Nat) (t : Tok) : Ft := (y, t.2.1, if t.1 = 0 then i else i + 1)

section
variable (S : Sup)

def takeP (s : List UInt8) (i : Nat) : Except Ft Nat := match S.lk i with
  | .error f => .error f
  | .ok t => if S.tx t = s then .ok (i + 1) else .error (badF 140 i t)
def openP (s : List UInt8) (lv i : Nat) : Except Ft Nat := match S.lk i with
  | .error f => .error f
  | .ok t => if S.tx t = s then (if lv = 64 then .error (badF 141 i t) else .ok (i + 1)) else .error (badF 140 i t)
def wordP (i : Nat) : Except Ft (List UInt8 × Nat) := match S.lk i with
  | .error f => .error f
  | .ok t => if t.1 = 1 then .ok (S.tx t, i + 1) else .error (badF 140 i t)

/-- the operators of a line -/
def sgnL : Nat → List (List UInt8)
  | 0 => [[124, 124]]
  | 1 => [[38, 38]]
  | 2 => [[61, 61], [33, 61], [60], [60, 61], [62], [62, 61]]
  | 3 => [[43], [45], [43, 43]]
  | _ => [[42], [47], [37]]
def opT : List (List UInt8) := [[], [124, 124], [38, 38], [61, 61], [33, 61], [60], [60, 61], [62], [62, 61], [43], [45], [43, 43], [42], [47], [37]]
def opN (s : List UInt8) : Nat := opT.findIdx (fun x => x == s)
def unN (s : List UInt8) : Nat := if s = [45] then 15 else if s = [33] then 16 else if s = [35] then 17 else 0

/-- items with commas between, up to the bracket, which is taken -/
def argL {α : Type} (item : Nat → Except Ft (α × Nat)) : Nat → List α → Nat → Except Ft (List α × Nat)
  | 0, _, _ => .error outF
  | n + 1, l, i => match item i with
    | .error f => .error f
    | .ok (a, j) => match S.lk j with
      | .error f => .error f
      | .ok t => if S.tx t = [44] then argL item n (l ++ [a]) (j + 1) else if S.tx t = [41] then .ok (l ++ [a], j + 1) else .error (badF 140 j t)
/-- items in brackets -/
def argP {α : Type} (item : Nat → Except Ft (α × Nat)) (n lv i : Nat) : Except Ft (List α × Nat) := match openP S [40] lv i with
  | .error f => .error f
  | .ok i1 => match S.lk i1 with
    | .error f => .error f
    | .ok t => if S.tx t = [41] then .ok ([], i1 + 1) else argL S item n [] i1

/-- a name whose first word was taken -/
def namP (p : Nat) (s : List UInt8) (i : Nat) : Except Ft (Ex × Nat) := match S.lk i with
  | .error f => .error f
  | .ok t => if S.tx t = [46] then (match wordP S (i + 1) with
      | .error f => .error f
      | .ok (r, j) => .ok (⟨2, p, s, r, zVl, 0, []⟩, j))
    else .ok (⟨2, p, [], s, zVl, 0, []⟩, i)
/-- the arguments behind a name -/
def calP (x : Nat → Except Ft (Ex × Nat)) (n lv : Nat) (e : Ex) (i : Nat) : Except Ft (Ex × Nat) := match argP S x n lv i with
  | .error f => .error f
  | .ok (l, j) => .ok ({ e with kind := 3, kids := l }, j)

/-- what a literal stands for -/
def valV (t : Tok) : Option Vl :=
  if t.1 = 2 then some ⟨1, (valP (S.tx t) : Int), false, []⟩
  else if t.1 = 3 then some ⟨3, 0, false, ((txP ((S.tx t).drop 1)).getD ([], 0)).1⟩
  else if S.tx t = [116, 114, 117, 101] then some ⟨2, 0, true, []⟩
  else if S.tx t = [102, 97, 108, 115, 101] then some ⟨2, 0, false, []⟩
  else none

def priP (x : Nat → Except Ft (Ex × Nat)) (n lv i : Nat) : Except Ft (Ex × Nat) := match S.lk i with
  | .error f => .error f
  | .ok t => if S.tx t = [40] then
      (if lv = 64 then .error (badF 141 i t) else match x (i + 1) with
        | .error f => .error f
        | .ok (e, j) => match takeP S [41] j with
          | .error f => .error f
          | .ok j1 => .ok (e, j1))
    else if t.1 = 1 then (match namP S t.2.1 (S.tx t) (i + 1) with
      | .error f => .error f
      | .ok (e, j) => match S.lk j with
        | .error f => .error f
        | .ok u => if S.tx u = [40] then calP S x n lv e j else .ok (e, j))
    else match valV S t with
      | some v => .ok (⟨1, t.2.1, [], [], v, 0, []⟩, i + 1)
      | none => .error (badF 140 i t)

def unaP (u p : Nat → Except Ft (Ex × Nat)) (lv i : Nat) : Except Ft (Ex × Nat) := match S.lk i with
  | .error f => .error f
  | .ok t => if unN (S.tx t) = 0 then p i else if lv = 64 then .error (badF 141 i t) else match u (i + 1) with
    | .error f => .error f
    | .ok (e, j) => .ok (⟨4, t.2.1, [], [], zVl, unN (S.tx t), [e]⟩, j)

/-- operands behind the first one -/
def binL (x : Nat → Except Ft (Ex × Nat)) (k : Nat) : Nat → Ex → Nat → Except Ft (Ex × Nat)
  | 0, _, _ => .error outF
  | n + 1, e, i => match S.lk i with
    | .error f => .error f
    | .ok t => if S.tx t ∈ sgnL k then (match x (i + 1) with
        | .error f => .error f
        | .ok (r, j) => if k = 2 then .ok (⟨5, t.2.1, [], [], zVl, opN (S.tx t), [e, r]⟩, j) else binL x k n ⟨5, t.2.1, [], [], zVl, opN (S.tx t), [e, r]⟩ j)
      else .ok (e, i)

/-- an expression: line k (5: with signs ahead; 6: without) -/
def expF : Nat → Nat → Nat → Nat → Except Ft (Ex × Nat)
  | 0, _, _, _ => .error outF
  | n + 1, k, lv, i => if k < 5 then (match expF n (k + 1) lv i with
      | .error f => .error f
      | .ok (e, j) => binL S (expF n (k + 1) lv) k n e j)
    else if k = 5 then unaP S (expF n 5 (lv + 1)) (expF n 6 lv) lv i
    else priP S (expF n 0 (lv + 1)) n lv i

/-- what is given to a name -/
def givP (n lv i : Nat) : Except Ft (Ex × Nat) := match takeP S [61] i with
  | .error f => .error f
  | .ok i1 => match expF S n 0 lv i1 with
    | .error f => .error f
    | .ok (e, j) => match takeP S [59] j with
      | .error f => .error f
      | .ok j1 => .ok (e, j1)

def blkL (x : Nat → Except Ft (Sm × Nat)) : Nat → List Sm → Nat → Except Ft (List Sm × Nat)
  | 0, _, _ => .error outF
  | n + 1, l, i => match S.lk i with
    | .error f => .error f
    | .ok t => if S.tx t = [125] then .ok (l, i + 1) else match x i with
      | .error f => .error f
      | .ok (s, j) => blkL x n (l ++ [s]) j
def blkP (x : Nat → Except Ft (Sm × Nat)) (n lv i : Nat) : Except Ft (List Sm × Nat) := match openP S [123] lv i with
  | .error f => .error f
  | .ok i1 => blkL S x n [] i1

def varP (n lv i : Nat) : Except Ft (Sm × Nat) := match S.lk i with
  | .error f => .error f
  | .ok t => match wordP S (i + 1) with
    | .error f => .error f
    | .ok (s, j) => match givP S n lv j with
      | .error f => .error f
      | .ok (e, j1) => .ok (⟨1, t.2.1, s, e, [], false, []⟩, j1)
def whiP (x : Nat → Except Ft (Sm × Nat)) (n lv i : Nat) : Except Ft (Sm × Nat) := match S.lk i with
  | .error f => .error f
  | .ok t => match expF S n 0 lv (i + 1) with
    | .error f => .error f
    | .ok (e, j) => match blkP S x n lv j with
      | .error f => .error f
      | .ok (l, j1) => .ok (⟨4, t.2.1, [], e, l, false, []⟩, j1)
def retP (n lv i : Nat) : Except Ft (Sm × Nat) := match S.lk i with
  | .error f => .error f
  | .ok t => match S.lk (i + 1) with
    | .error f => .error f
    | .ok u => if S.tx u = [59] then .ok (⟨5, t.2.1, [], zEx, [], false, []⟩, i + 2) else match expF S n 0 lv (i + 1) with
      | .error f => .error f
      | .ok (e, j) => match takeP S [59] j with
        | .error f => .error f
        | .ok j1 => .ok (⟨5, t.2.1, [], e, [], false, []⟩, j1)
def prtP (n lv i : Nat) : Except Ft (Sm × Nat) := match S.lk i with
  | .error f => .error f
  | .ok t => match expF S n 0 lv (i + 1) with
    | .error f => .error f
    | .ok (e, j) => match takeP S [59] j with
      | .error f => .error f
      | .ok j1 => .ok (⟨6, t.2.1, [], e, [], false, []⟩, j1)
def wosP (n lv i : Nat) : Except Ft (Sm × Nat) := match S.lk i with
  | .error f => .error f
  | .ok t => match wordP S i with
    | .error f => .error f
    | .ok (s, j) => match S.lk j with
      | .error f => .error f
      | .ok u => if S.tx u = [61] then (match givP S n lv j with
          | .error f => .error f
          | .ok (e, j1) => .ok (⟨2, t.2.1, s, e, [], false, []⟩, j1))
        else match namP S t.2.1 s j with
          | .error f => .error f
          | .ok (e, j1) => match calP S (expF S n 0 (lv + 1)) n lv e j1 with
            | .error f => .error f
            | .ok (e2, j2) => match takeP S [59] j2 with
              | .error f => .error f
              | .ok j3 => .ok (⟨7, t.2.1, [], e2, [], false, []⟩, j3)
/-- if: x reads a statement within, y an if -/
def ifP (x y : Nat → Except Ft (Sm × Nat)) (n lv i : Nat) : Except Ft (Sm × Nat) := match S.lk i with
  | .error f => .error f
  | .ok t => match expF S n 0 lv (i + 1) with
    | .error f => .error f
    | .ok (e, j) => match blkP S x n lv j with
      | .error f => .error f
      | .ok (l, j1) => match S.lk j1 with
        | .error f => .error f
        | .ok u => if S.tx u = [101, 108, 115, 101] then (match S.lk (j1 + 1) with
            | .error f => .error f
            | .ok u2 => if S.tx u2 = [105, 102] then (match y (j1 + 1) with
                | .error f => .error f
                | .ok (s, j2) => .ok (⟨3, t.2.1, [], e, l, true, [s]⟩, j2))
              else match blkP S x n lv (j1 + 1) with
                | .error f => .error f
                | .ok (l2, j2) => .ok (⟨3, t.2.1, [], e, l, true, l2⟩, j2))
          else .ok (⟨3, t.2.1, [], e, l, false, []⟩, j1)
/-- a statement (k = 0), an if (k = 1) -/
def stmF : Nat → Nat → Nat → Nat → Except Ft (Sm × Nat)
  | 0, _, _, _ => .error outF
  | n + 1, k, lv, i => if k = 1 then ifP S (stmF n 0 (lv + 1)) (stmF n 1 lv) n lv i else match S.lk i with
    | .error f => .error f
    | .ok t => if S.tx t = [118, 97, 114] then varP S n lv i
      else if S.tx t = [105, 102] then stmF n 1 lv i
      else if S.tx t = [119, 104, 105, 108, 101] then whiP S (stmF n 0 (lv + 1)) n lv i
      else if S.tx t = [114, 101, 116, 117, 114, 110] then retP S n lv i
      else if S.tx t = [112, 114, 105, 110, 116] then prtP S n lv i
      else wosP S n lv i

def typN (s : List UInt8) : Nat := if s = [105, 110, 116] then 1 else if s = [98, 111, 111, 108] then 2 else if s = [116, 101, 120, 116] then 3 else 0
def typP (i : Nat) : Except Ft (Nat × Nat) := match S.lk i with
  | .error f => .error f
  | .ok t => if typN (S.tx t) = 0 then .error (badF 140 i t) else .ok (typN (S.tx t), i + 1)
def parP (i : Nat) : Except Ft ((List UInt8 × Nat) × Nat) := match wordP S i with
  | .error f => .error f
  | .ok (s, j) => match takeP S [58] j with
    | .error f => .error f
    | .ok j1 => match typP S j1 with
      | .error f => .error f
      | .ok (t, j2) => .ok ((s, t), j2)
/-- behind "const", at i -/
def cnsP (n : Nat) (ex : Bool) (i : Nat) : Except Ft (Cn × Nat) := match takeP S [99, 111, 110, 115, 116] i with
  | .error f => .error f
  | .ok i1 => match S.lk i1 with
    | .error f => .error f
    | .ok t => match wordP S i1 with
      | .error f => .error f
      | .ok (s, j) => match givP S n 0 j with
        | .error f => .error f
        | .ok (e, j1) => .ok (⟨ex, t.2.1, s, e⟩, j1)
def fnbP (n : Nat) (ex : Bool) (p : Nat) (s : List UInt8) (ps : List (List UInt8 × Nat)) (r i : Nat) : Except Ft (Fu × Nat) := match blkP S (stmF S n 0 1) n 0 i with
  | .error f => .error f
  | .ok (l, j) => .ok (⟨ex, p, s, ps, r, l⟩, j)
def funP (n : Nat) (ex : Bool) (i : Nat) : Except Ft (Fu × Nat) := match takeP S [102, 117, 110, 99] i with
  | .error f => .error f
  | .ok i1 => match S.lk i1 with
    | .error f => .error f
    | .ok t => match wordP S i1 with
      | .error f => .error f
      | .ok (s, j) => match argP S (parP S) n 0 j with
        | .error f => .error f
        | .ok (ps, j1) => match S.lk j1 with
          | .error f => .error f
          | .ok u => if S.tx u = [58] then (match typP S (j1 + 1) with
              | .error f => .error f
              | .ok (r, j2) => fnbP S n ex t.2.1 s ps r j2)
            else fnbP S n ex t.2.1 s ps 0 j1
def incP (i : Nat) : Except Ft (Ic × Nat) := match S.lk i with
  | .error f => .error f
  | .ok t => match S.lk (i + 1) with
    | .error f => .error f
    | .ok u => if u.1 = 3 then (match takeP S [97, 115] (i + 2) with
        | .error f => .error f
        | .ok j => match wordP S j with
          | .error f => .error f
          | .ok (s, j1) => match takeP S [59] j1 with
            | .error f => .error f
            | .ok j2 => .ok (⟨((txP ((S.tx u).drop 1)).getD ([], 0)).1, s, t.2.1⟩, j2))
      else .error (badF 140 (i + 1) u)
def incL : Nat → List Ic → Nat → Except Ft (List Ic × Nat)
  | 0, _, _ => .error outF
  | n + 1, l, i => match S.lk i with
    | .error f => .error f
    | .ok t => if S.tx t = [105, 110, 99, 108, 117, 100, 101] then (match incP S i with
        | .error f => .error f
        | .ok (a, j) => incL n (l ++ [a]) j)
      else .ok (l, i)
/-- one constant or function, at i -/
def decP (n : Nat) (i : Nat) : Except Ft ((Cn ⊕ Fu) × Nat) := match S.lk i with
  | .error f => .error f
  | .ok t => match S.lk (if S.tx t = [101, 120, 112, 111, 114, 116] then i + 1 else i) with
    | .error f => .error f
    | .ok u => if S.tx u = [99, 111, 110, 115, 116] then (match cnsP S n (decide (S.tx t = [101, 120, 112, 111, 114, 116])) (if S.tx t = [101, 120, 112, 111, 114, 116] then i + 1 else i) with
        | .error f => .error f
        | .ok (c, j) => .ok (.inl c, j))
      else match funP S n (decide (S.tx t = [101, 120, 112, 111, 114, 116])) (if S.tx t = [101, 120, 112, 111, 114, 116] then i + 1 else i) with
        | .error f => .error f
        | .ok (c, j) => .ok (.inr c, j)
def decL (m : Nat) : Nat → List Cn → List Fu → Nat → Except Ft (List Cn × List Fu × Nat)
  | 0, _, _, _ => .error outF
  | n + 1, cs, fs, i => match S.lk i with
    | .error f => .error f
    | .ok t => if t.1 = 0 then .ok (cs, fs, i) else match decP S m i with
      | .error f => .error f
      | .ok (.inl c, j) => decL m n (cs ++ [c]) fs j
      | .ok (.inr c, j) => decL m n cs (fs ++ [c]) j
def modP (n : Nat) : Except Ft (Md × Nat) := match incL S n [] 0 with
  | .error f => .error f
  | .ok (l, i) => match decL S n n [] [] i with
    | .error f => .error f
    | .ok (cs, fs, j) => .ok (⟨l, cs, fs⟩, j)
def onlP (n : Nat) : Except Ft (Ex × Nat) := match expF S n 0 0 0 with
  | .error f => .error f
  | .ok (e, j) => match S.lk j with
    | .error f => .error f
    | .ok t => if t.1 = 0 then .ok (e, j) else .error (badF 140 j t)
end

end Go.Proofs.YtjjajfipfeigiabDoor

/- Small laws on worlds that only grew; bytes of one's own, bytes that lie somewhere; append and make. -/
namespace Go.Proofs.YtjjajfipfeigiabDoor
open Go.RowKit

theorem Tryd.infoU8 : (Tryd.prog.info? 5).map (fun i => (i.zero, i.size, i.bytes)) = some (some (.int .u8 0), 1, 1) := by kernel_rfl

theorem gb_refl (w : World) (row : Option Nat) : w.grownBy w row := ⟨rfl, rfl, rfl, Nat.le_refl _, fun _ _ _ => rfl⟩
theorem gb_trans {a b c : World} {row : Option Nat} (h : a.grownBy b row) (k : b.grownBy c row) : a.grownBy c row :=
  ⟨k.os.trans h.os, k.tape.trans h.tape, k.output.trans h.output, Nat.le_trans h.size k.size,
    fun i hi hne => (k.block i (Nat.lt_of_lt_of_le hi h.size) hne).trans (h.block i hi hne)⟩
/-- a second growth may write what is new since the first world -/
theorem gb_then {a b c : World} {row row' : Option Nat} (h : a.grownBy b row) (k : b.grownBy c row') (hr : ∀ j, row' = some j → a.heap.size ≤ j ∨ row = some j) : a.grownBy c row :=
  ⟨k.os.trans h.os, k.tape.trans h.tape, k.output.trans h.output, Nat.le_trans h.size k.size,
    fun i hi hne => (k.block i (Nat.lt_of_lt_of_le hi h.size) (fun e => by
      rcases hr i e.symm with h1 | h1
      · omega
      · exact hne h1.symm)).trans (h.block i hi hne)⟩
theorem gb_drewN (w : World) (n : Nat) (row : Option Nat) : w.grownBy (w.drewN n) row := ⟨rfl, rfl, rfl, Nat.le_refl _, fun _ _ _ => rfl⟩
theorem gb_drew (w : World) (row : Option Nat) : w.grownBy w.drew row := ⟨rfl, rfl, rfl, Nat.le_refl _, fun _ _ _ => rfl⟩
theorem gb_alloc (w : World) (o : Obj) (row : Option Nat) : w.grownBy (w.alloc o) row :=
  ⟨rfl, rfl, rfl, by simp, fun k hk _ => Below.heap_alloc w o k hk⟩
theorem gb_set (w : World) (a : Addr) (u : Value) : w.grownBy (w.setCell a u) (some a.block) :=
  ⟨rfl, rfl, rfl, by simp, fun k _ hk => Below.heap_setCell w a u k (fun e => hk (by rw [e]))⟩
theorem gb_below {w w' : World} (h : w.grownBy w' none) : Below w.heap.size w w' := ⟨h.os, h.tape, h.output, h.size, fun k hk => h.block k hk (by simp)⟩
theorem below_gb {w w' : World} (h : Below w.heap.size w w') (row : Option Nat) : w.grownBy w' row := ⟨h.os, h.tape, h.output, h.size, fun k hk _ => h.block k hk⟩
theorem gb_any {w w' : World} (h : w.grownBy w' none) (row : Option Nat) : w.grownBy w' row := ⟨h.os, h.tape, h.output, h.size, fun k hk _ => h.block k hk (by simp)⟩
theorem below_walk (w : World) (o : Obj) : Below w.heap.size w (w.alloc o) := (Below.refl _ _).alloc (Nat.le_refl _) _
theorem below_walk2 (w : World) (o p : Obj) : Below w.heap.size w ((w.alloc o).alloc p) := (below_walk w o).alloc (by simp) _

/-- bytes, as cells -/
def bytesV (bs : List UInt8) : List Value := bs.map fun c => Value.int .u8 c.toNat
theorem bytesV_length (bs : List UInt8) : (bytesV bs).length = bs.length := by simp [bytesV]
theorem bytesV_append (a b : List UInt8) : bytesV (a ++ b) = bytesV a ++ bytesV b := by simp [bytesV]
theorem bytesV_get (bs : List UInt8) (j : Nat) : (bytesV bs)[j]? = (bs[j]?).map (fun c => Value.int .u8 c.toNat) := by simp [bytesV]
theorem bytesV_one (bs : List UInt8) : ∀ u ∈ bytesV bs, u.oneCell' = true := by
  intro u hu
  simp only [bytesV, List.mem_map] at hu
  obtain ⟨c, _, rfl⟩ := hu
  rfl
theorem bytesV_inj {a b : List UInt8} (h : bytesV a = bytesV b) : a = b := by
  unfold bytesV at h
  refine (List.map_inj_right ?_).1 h
  intro x y hxy
  simp only [Value.int.injEq, true_and] at hxy
  exact UInt8.toNat_inj.1 (by omega)

theorem addr_add (g j : Nat) : (⟨g, 0, none⟩ : Addr).add j = ⟨g, j, none⟩ := by
  by_cases h : j = 0
  · subst h; simp [Addr.add]
  · simp [Addr.add, h]

/-- v owns the bytes bs, in memory from block 'base' on -/
def OwnB (w : World) (base : Nat) (v : Value) (bs : List UInt8) : Prop := w.ownsRow base 5 1 v bs.length (bytesV bs)
theorem OwnB.kept {w w' : World} {base : Nat} {v : Value} {bs : List UInt8} {row : Option Nat} (h : OwnB w base v bs) (hg : w.grownBy w' row) (hne : v.ownBlock = none ∨ v.ownBlock ≠ row) : OwnB w' base v bs := World.ownsRow.kept h hg hne
theorem OwnB.below {w w' : World} {base : Nat} {v : Value} {bs : List UInt8} (h : OwnB w base v bs) (hb : Below w.heap.size w w') : OwnB w' base v bs :=
  World.ownsRow.kept h (below_gb hb none) (by cases e : v.ownBlock <;> simp)
theorem OwnB.le {w : World} {base base' : Nat} {v : Value} {bs : List UInt8} (h : OwnB w base v bs) (hb : base' ≤ base) : OwnB w base' v bs :=
  ⟨h.1, h.2.elim Or.inl (fun ⟨g, cap, cur, hv, hg, r⟩ => Or.inr ⟨g, cap, cur, hv, Nat.le_trans hb hg, r⟩)⟩
theorem OwnB.forms {w : World} {base : Nat} {v : Value} {bs : List UInt8} (h : OwnB w base v bs) :
    (v = .slice none 0 0 ∧ bs = []) ∨ ∃ g cap, v = .slice (some ⟨g, 0, none⟩) bs.length cap ∧ base ≤ g ∧ g < w.heap.size ∧ bs.length ≤ cap ∧ cap ≤ maxLen ∧ (∀ j, w.frozen? ⟨g, j, none⟩ = false) ∧ ∀ j, j < bs.length → w.cell? ⟨g, j, none⟩ = some (.int .u8 (bs.getD j 0).toNat) := by
  have h' := h
  rcases h.2 with ⟨h0, h1⟩ | ⟨g, cap, cur, hv, hb, hh, h1, h2, _, _⟩
  · exact Or.inl ⟨h0, List.length_eq_zero_iff.1 h1⟩
  · refine Or.inr ⟨g, cap, hv, hb, ?_, h1, h2, ?_, ?_⟩
    · exact (World.ownsRow.lt h' g (by rw [hv]; rfl)).2
    · intro j; simp [World.frozen?, hh]
    · intro j hj
      have := World.ownsRow.cells h' (g := g) (by rw [hv]; rfl) j (.int .u8 (bs.getD j 0).toNat) (by rw [bytesV_get]; simp [List.getElem?_eq_getElem hj, List.getD_eq_getElem?_getD])
      rw [addr_add] at this
      exact this
theorem OwnB.len {w : World} {base : Nat} {v : Value} {bs : List UInt8} (h : OwnB w base v bs) : bs.length ≤ maxLen := by
  rcases h.forms with ⟨_, rfl⟩ | ⟨g, cap, _, _, _, h1, h2, _⟩
  · simp
  · omega
theorem OwnB.shape {w : World} {base : Nat} {v : Value} {bs : List UInt8} (h : OwnB w base v bs) : ∃ a cap, v = .slice a bs.length cap := by
  rcases h.forms with ⟨h1, rfl⟩ | ⟨g, cap, h1, _⟩
  · exact ⟨none, 0, h1⟩
  · exact ⟨_, _, h1⟩
theorem OwnB.lt {w : World} {base : Nat} {v : Value} {bs : List UInt8} (h : OwnB w base v bs) : ∀ k, v.ownBlock = some k → base ≤ k ∧ k < w.heap.size := World.ownsRow.lt h
theorem OwnB.nil (w : World) (base : Nat) : OwnB w base (.slice none 0 0) [] := World.ownsRow_nil _ _ _ _

/-- v is a slice that holds the bytes bs, wherever they lie -/
def Src (w : World) (v : Value) (bs : List UInt8) : Prop :=
  bs.length ≤ 140737488355327 ∧ ((v = .slice none 0 0 ∧ bs = []) ∨ ∃ ad cap, v = .slice (some ad) bs.length cap ∧ bs.length ≤ cap ∧ cap ≤ maxLen ∧ (0 < bs.length → ad.block < w.heap.size) ∧ ∀ j, j < bs.length → w.cell? (ad.add j) = some (.int .u8 (bs.getD j 0).toNat))
theorem addr_block (ad : Addr) (j : Nat) : (ad.add j).block = ad.block := by unfold Addr.add; split <;> rfl
theorem Src.below {w w' : World} {v : Value} {bs : List UInt8} (h : Src w v bs) (hb : Below w.heap.size w w') : Src w' v bs := by
  obtain ⟨h0, h | ⟨ad, cap, rfl, h1, h2, hlt, h3⟩⟩ := h
  · exact ⟨h0, Or.inl h⟩
  · exact ⟨h0, Or.inr ⟨ad, cap, rfl, h1, h2, fun h => Nat.lt_of_lt_of_le (hlt h) hb.size, fun j hj => by rw [hb.cell (p := ad.add j) (by rw [addr_block]; exact hlt (by omega))]; exact h3 j hj⟩⟩
theorem Src.grown {w w' : World} {v : Value} {bs : List UInt8} {row : Option Nat} (h : Src w v bs) (hg : w.grownBy w' row) (hne : v.ownBlock = none ∨ v.ownBlock ≠ row) : Src w' v bs := by
  obtain ⟨h0, h | ⟨ad, cap, rfl, h1, h2, hlt, h3⟩⟩ := h
  · exact ⟨h0, Or.inl h⟩
  · refine ⟨h0, Or.inr ⟨ad, cap, rfl, h1, h2, fun h => Nat.lt_of_lt_of_le (hlt h) hg.size, fun j hj => ?_⟩⟩
    rw [World.cell?_of_block (hg.block (ad.add j).block (by rw [addr_block]; exact hlt (by omega)) (by rw [addr_block]; simpa [Value.ownBlock] using hne))]
    exact h3 j hj
theorem OwnB.src {w : World} {base : Nat} {v : Value} {bs : List UInt8} (h : OwnB w base v bs) (hl : bs.length ≤ 140737488355327) : Src w v bs := by
  refine ⟨hl, ?_⟩
  rcases h.forms with h0 | ⟨g, cap, hv, _, hlt, h1, h2, _, hc⟩
  · exact Or.inl h0
  · exact Or.inr ⟨⟨g, 0, none⟩, cap, hv, h1, h2, fun _ => hlt, fun j hj => by rw [addr_add]; exact hc j hj⟩

section
variable {w : World} {b : Nat}
theorem blk_set {cs : Array Value} {T : TypeId} {i : Nat} (hb : w.heap[b]? = some (.cells cs T (0, 0))) (u : Value) :
    (w.setCell ⟨b, i, none⟩ u).heap[b]? = some (.cells (cs.setIfInBounds i u) T (0, 0)) := by
  simp [World.setCell, Array.getElem?_modify, hb]
end

theorem hid {p : Prop} (h : p) : Hid p := h

theorem src_cells {w : World} {ad : Addr} {bs : List UInt8} (hc : ∀ j, j < bs.length → w.cell? (ad.add j) = some (.int .u8 (bs.getD j 0).toNat)) :
    ∀ j u, (bytesV bs)[j]? = some u → w.cell? (ad.add j) = some u := by
  intro j u hj
  rw [bytesV_get] at hj
  have hjl : j < bs.length := by
    rcases Nat.lt_or_ge j bs.length with h | h
    · exact h
    · rw [List.getElem?_eq_none h] at hj; cases hj
  rw [hc j hjl, ← hj]
  simp [List.getElem?_eq_getElem hjl, List.getD_eq_getElem?_getD]

/-- append(own, bytes...) -/
theorem app_src {w : World} {ops : Array Oper} {rest : List Oper} {o : Oper} {a : Act} {Q : Exit → Act → World → Prop} (hgd : o.guard = none) (s x : Operand)
    (ho : o.op = .call { callee := .builtin .append, args := #[s, x], argTypes := #[39, 39] })
    (base : Nat) (v : Value) (bs : List UInt8) (hs : a.eval s = v) (hown : OwnB w base v bs) (vx : Value) (cs : List UInt8) (hx : a.eval x = vx) (hsrc : Src w vx cs)
    (hlen : bs.length + cs.length ≤ 140737488355327) (hbase : base ≤ w.heap.size)
    (h : ∀ v' w', OwnB w' base v' (bs ++ cs) → w.grownBy w' v.ownBlock → wpList Tryd.prog ops Q rest (a.put o.dst v') w') : wpList Tryd.prog ops Q (o :: rest) a w := by
  obtain ⟨i0, hi, hz0, hz1, hz2⟩ := info_parts Tryd.infoU8
  obtain ⟨_, ⟨rfl, rfl⟩ | ⟨ad, cap, rfl, h1, h2, hlt, hc⟩⟩ := hsrc
  · refine wpList_append_own_none hgd s x 39 ho base 5 i0 1 Tryd.underlying39 hi v bs.length (bytesV bs) hs hown hx ?_
    exact h v w (by simpa using hown) (gb_refl _ _)
  · refine wpList_append_own w hgd s x 39 ho base 5 i0 (.int .u8 0) 1 1 Tryd.underlying39 hi hz0 hz1 hz2 rfl (by decide) v bs.length (bytesV bs) hs hown ad cs.length cap (bytesV cs) hx (by simp [bytesV]) (src_cells hc) (bytesV_one cs) (by unfold maxLen; omega) (by omega) hbase ?_
    intro v' w' h3 h4 _
    exact h v' w' (by unfold OwnB; rw [bytesV_append, List.length_append]; exact h3) h4

/-- append(own, text...) -/
theorem app_str {w : World} {ops : Array Oper} {rest : List Oper} {o : Oper} {a : Act} {Q : Exit → Act → World → Prop} (hgd : o.guard = none) (s x : Operand)
    (ho : o.op = .call { callee := .builtin .append, args := #[s, x], argTypes := #[39, 9] })
    (base : Nat) (v : Value) (bs : List UInt8) (hs : a.eval s = v) (hown : OwnB w base v bs) (t : ByteArray) (hx : a.eval x = .string t)
    (hlen : bs.length + t.size ≤ 140737488355327) (hbase : base ≤ w.heap.size)
    (h : ∀ v' w', OwnB w' base v' (bs ++ t.data.toList) → w.grownBy w' v.ownBlock → wpList Tryd.prog ops Q rest (a.put o.dst v') w') : wpList Tryd.prog ops Q (o :: rest) a w := by
  obtain ⟨i0, hi, hz0, hz1, hz2⟩ := info_parts Tryd.infoU8
  refine Lib.wpList_append_own_string w hgd s x 39 9 ho base 5 i0 Tryd.underlying39 Tryd.underlying9 hi hz0 hz1 hz2 v bs.length (bytesV bs) hs hown t hx (by unfold maxLen; omega) (by omega) hbase ?_
  intro v' w' h3 h4 _
  refine h v' w' ?_ h4
  unfold OwnB
  rw [bytesV_append, List.length_append]
  exact h3

/-- make([]byte, 0, n) -/
theorem make_own {w : World} {ops : Array Oper} {rest : List Oper} {o : Oper} {a : Act} {Q : Exit → Act → World → Prop} (hgd : o.guard = none) (l c : Operand) (ho : o.op = Op.makeSlice 39 l c)
    (C : Int) (n : Nat) (hl : a.eval l = .int .i64 0) (hc : a.eval c = .int .i64 C) (hC : C = (n : Int)) (hn : n ≤ 140737488355327)
    (h : ∀ v' w', OwnB w' w.heap.size v' [] → Below w.heap.size w w' → wpList Tryd.prog ops Q rest (a.put o.dst v') w') : wpList Tryd.prog ops Q (o :: rest) a w := by
  obtain ⟨i0, hi, hz0, hz1, hz2⟩ := info_parts Tryd.infoU8
  refine wpList_make_own w hgd l c 39 ho w.heap.size 5 i0 (.int .u8 0) 1 Tryd.underlying39 hi hz0 hz1 .i64 .i64 C n hl hc hC (by rw [hz2]; omega) (by unfold maxLen; omega) (Nat.le_refl _) ?_
  intro w' h1 h2
  exact h _ w' h1 (gb_below h2)

/-- string(bytes) -/
theorem run_str {w : World} {v : Value} {bs : List UInt8} (h : Src w v bs) : (convert 39 9 v).run Tryd.prog w = .ok (.string ⟨bs.toArray⟩) w := by
  obtain ⟨_, ⟨rfl, rfl⟩ | ⟨ad, cap, rfl, h1, h2, hlt, hc⟩⟩ := h
  · rw [run_convert_bytes_string w 39 9 5 none 0 0 Tryd.underlying39 Tryd.underlying5 Tryd.underlying9]
    rfl
  · refine run_convert_bytes_back w 39 9 5 ad cap bs Tryd.underlying39 Tryd.underlying5 Tryd.underlying9 ?_
    intro j hj
    rw [hc j hj]
    simp [List.getElem?_eq_getElem hj, List.getD_eq_getElem?_getD]


end Go.Proofs.YtjjajfipfeigiabDoor

/- A whole array or struct out of a block and into it, as one law each; an answer that lies in a variable. -/
namespace Go.Proofs.YtjjajfipfeigiabDoor
open Go.RowKit
variable {P : Program}

theorem hp_new (w : World) (o : Obj) : (w.alloc o).heap[w.heap.size]? = some o := heap_alloc_last w o
theorem hp_old (w : World) (o : Obj) (k : Nat) (h : k < w.heap.size) : (w.alloc o).heap[k]? = w.heap[k]? := Below.heap_alloc w o k h
theorem hp_set (w : World) (b c i : Nat) (v : Value) (h : b ≠ c) : (w.setCell ⟨c, i, none⟩ v).heap[b]? = w.heap[b]? := Below.heap_setCell w _ v b (by simpa using h)
theorem hp_size (w : World) (o : Obj) : (w.alloc o).heap.size = w.heap.size + 1 := by simp
theorem hp_lt {w : World} {b : Nat} {o : Obj} (h : w.heap[b]? = some o) : b < w.heap.size := (Array.getElem?_eq_some_iff.1 h).1

/-- a whole row is read -/
theorem ld_row {w : World} {ops : Array Oper} {rest : List Oper} {op : Oper} {a : Act} {Q : Exit → Act → World → Prop} (hgd : op.guard = none) (ty : TypeId) (x : Operand) (ho : op.op = .load ty x)
    (g : Nat) (hx : a.eval x = .pointer (some ⟨g, 0, none⟩)) (cs : List Value) (t : TypeId) (hb : w.heap[g]? = some (.cells cs.toArray t (0, 0))) (d : TypeDesc)
    (hu : P.underlying ty = some d) (hd : d.isRow = true) (hi : (P.info? ty).map (·.size) = some cs.length)
    (h : wpList P ops Q rest (a.put op.dst (.agg cs.toArray)) w) : wpList P ops Q (op :: rest) a w :=
  wpList_load_mid hgd ty x ho g 0 hx cs d (fun j v hv => by rw [Nat.zero_add, cell_of_row w g j cs.toArray t (0, 0) hb]; simpa using hv) hu hd hi h

/-- the world behind a whole row's store -/
structure RowSet (w w' : World) (g : Nat) (cs : List Value) (t : TypeId) : Prop where
  blk : w'.heap[g]? = some (.cells cs.toArray t (0, 0))
  grown : w.grownBy w' (some g)
  size : w'.heap.size = w.heap.size

theorem rowSet (w : World) (g : Nat) (cs : List Value) (t : TypeId) (old : Array Value) (hg : w.heap[g]? = some (.cells old t (0, 0))) : RowSet w (w.setRow g cs.toArray) g cs t := by
  refine ⟨?_, ⟨rfl, rfl, rfl, ?_, ?_⟩, ?_⟩
  · simp [World.setRow, Array.getElem?_modify, hg]
  · simp [World.setRow]
  · intro i hi hne
    have : g ≠ i := fun e => hne (by rw [e])
    simp [World.setRow, Array.getElem?_modify, this]
  · simp [World.setRow]

/-- a whole row is written -/
theorem st_row {w : World} {ops : Array Oper} {rest : List Oper} {o : Oper} {a : Act} {Q : Exit → Act → World → Prop} (hgd : o.guard = none) (ty : TypeId) (x y : Operand) (ho : o.op = .store ty x y)
    (g : Nat) (cs : List Value) (hx : a.eval x = .pointer (some ⟨g, 0, none⟩)) (hy : a.eval y = .agg cs.toArray)
    (t : TypeId) (old : Array Value) (hg : w.heap[g]? = some (.cells old t (0, 0))) (hi : (P.info? ty).map (·.size) = some cs.length)
    (hold : old.size = cs.length) (h1 : ∀ v ∈ cs, v.oneCell' = true)
    (h : ∀ w', RowSet w w' g cs t → wpList P ops Q rest (a.put o.dst undef) w') : wpList P ops Q (o :: rest) a w :=
  wpList_store_row hgd ty x y ho g cs.toArray hx hy t old hg (by simpa using hi) (by simpa using hold) (all_oneCell_toArray h1) (h _ (rowSet w g cs t old hg))

/-- a new variable -/
theorem al_row {w : World} {ops : Array Oper} {rest : List Oper} {o : Oper} {a : Act} {Q : Exit → Act → World → Prop} (hgd : o.guard = none) (ty : TypeId) (ho : o.op = .alloc ty)
    (cs : Array Value) (hz : ∀ w, (zeroValue ty).run P w = .ok (.agg cs) w)
    (h : wpList P ops Q rest (a.put o.dst (.pointer (some ⟨w.heap.size, 0, none⟩))) (w.alloc (.cells cs ty))) : wpList P ops Q (o :: rest) a w := by
  refine wpList_plain hgd fun K hK => ?_
  unfold Oper.wp execOp
  simp only [ho, Instr.alloc, Sem.run_bind, hz, newVar, newRow, run_newObj_alloc, Sem.run_pure, Result.andThen_ok, Value.cells]
  exact hK _ _ h

/-- a whole row is written into the block that was made last -/
theorem st_new {w : World} {ops : Array Oper} {rest : List Oper} {o : Oper} {a : Act} {Q : Exit → Act → World → Prop} (hgd : o.guard = none) (ty : TypeId) (x y : Operand) (ho : o.op = .store ty x y)
    (cs : List Value) (hx : a.eval x = .pointer (some ⟨w.heap.size, 0, none⟩)) (hy : a.eval y = .agg cs.toArray)
    (t : TypeId) (old : Array Value) (hi : (P.info? ty).map (·.size) = some cs.length) (hold : old.size = cs.length) (h1 : ∀ v ∈ cs, v.oneCell' = true)
    (h : wpList P ops Q rest (a.put o.dst undef) (w.alloc (.cells cs.toArray t))) : wpList P ops Q (o :: rest) a (w.alloc (.cells old t)) :=
  wpList_store_row hgd ty x y ho w.heap.size cs.toArray hx hy t old (hp_new w _) (by simpa using hi) (by simpa using hold) (all_oneCell_toArray h1) (by rw [World.setRow_alloc_new]; exact h)

/-- a composite literal -/
theorem bd_row {w : World} {ops : Array Oper} {rest : List Oper} {o : Oper} {a : Act} {Q : Exit → Act → World → Prop} (hgd : o.guard = none) (t : TypeId) (parts : Array (Nat × Operand)) (ho : o.op = .build t parts)
    (vs : List (Nat × Value)) (hvs : (parts.map fun (i, x) => (i, a.eval x)).toList = vs) (cs : Array Value) (hb : P.built t vs = some cs)
    (h : wpList P ops Q rest (a.put o.dst (.agg cs)) w) : wpList P ops Q (o :: rest) a w :=
  wpList_build hgd t parts ho (by rw [hvs, hb]; rfl) (by rw [hvs, hb]; exact h)

/-- a new variable that holds a row -/
theorem bx_row {w : World} {ops : Array Oper} {rest : List Oper} {o : Oper} {a : Act} {Q : Exit → Act → World → Prop} (hgd : o.guard = none) (t : TypeId) (x : Operand) (ho : o.op = .box t x)
    (cs : Array Value) (hx : a.eval x = .agg cs)
    (h : wpList P ops Q rest (a.put o.dst (.pointer (some ⟨w.heap.size, 0, none⟩))) (w.alloc (.cells cs t))) : wpList P ops Q (o :: rest) a w := by
  refine wpList_plain hgd fun K hK => ?_
  unfold Oper.wp execOp
  simp only [ho, hx, Sem.run_bind, Instr.box, newVar, newRow, run_newObj_alloc, Sem.run_pure, Result.andThen_ok, Value.cells]
  exact hK _ _ h

theorem results_cell {fn : Func} {p : Tmp} {ty : TypeId} (h : fn.results = #[.cell p ty]) (tmps : Array Value) (P : Program) (w : World) :
    (results fn tmps).run P w = ((asAddr (tmps.getD p undef)).run P w).andThen fun a w₁ => (loadVar ty a).run P w₁ := by
  simp only [results, h]
  simp [Sem.run_bind, Result.andThen]

/-- the answer is a whole row that lies in a variable -/
theorem ret_row {fn : Func} {R : Ending → World → Prop} {a : Act} {w : World} (p : Tmp) (ty : TypeId) (h : fn.results = #[.cell p ty]) (g : Nat) (hp : a.tmps.getD p undef = .pointer (some ⟨g, 0, none⟩))
    (cs : List Value) (t : TypeId) (hb : w.heap[g]? = some (.cells cs.toArray t (0, 0))) (d : TypeDesc) (hu : P.underlying ty = some d) (hd : d.isRow = true) (hi : (P.info? ty).map (·.size) = some cs.length)
    (hdf : a.defers = []) (hR : R (.returned (.agg cs.toArray)) w) : bodyPost P fn R .ret a w := by
  refine bodyPost_ret (v := .agg cs.toArray) ?_ hdf hR
  rw [results_cell h, hp]
  have := run_loadVar_mid (P := P) w g 0 ty cs d (fun j v hv => by rw [Nat.zero_add, cell_of_row w g j cs.toArray t (0, 0) hb]; simpa using hv) hu hd hi
  simp [asAddr, this]

end Go.Proofs.YtjjajfipfeigiabDoor

/- (as PBase, over SRow) Texts as lists of bytes; slices of texts in memory, of one's own or wherever they lie. -/
namespace Go.Proofs.YtjjajfipfeigiabDoor
open Go.RowKit

/-- a text's bytes, and the text of bytes -/
def bl (s : ByteArray) : List UInt8 := s.toList
def mk (l : List UInt8) : ByteArray := ⟨l.toArray⟩
theorem bl_eq (s : ByteArray) : bl s = s.data.toList := ByteArray.toList_eq s
theorem bl_mk (l : List UInt8) : bl (mk l) = l := ByteArray.toList_mk l
theorem mk_bl (s : ByteArray) : mk (bl s) = s := by
  rw [bl_eq]; exact Lib.mk_data s
theorem bl_size (s : ByteArray) : s.size = (bl s).length := by rw [bl_eq]; exact Lib.size_eq s
theorem mk_size (l : List UInt8) : (mk l).size = l.length := by rw [bl_size, bl_mk]
theorem bl_inj {s t : ByteArray} (h : bl s = bl t) : s = t := by rw [← mk_bl s, h, mk_bl]
theorem mk_inj {a b : List UInt8} (h : mk a = mk b) : a = b := by rw [← bl_mk a, h, bl_mk]
theorem ext_bl (s : ByteArray) (a b : Nat) : s.extract a b = mk (((bl s).take b).drop a) := by
  rw [bl_eq, Lib.extract_eq, List.drop_take]
  rfl


theorem Tryd.infoStr : (Tryd.prog.info? 9).map (fun i => (i.zero, i.size, i.bytes)) = some (some (.string ⟨#[]⟩), 1, 16) := by kernel_rfl

def strV (ts : List (List UInt8)) : List Value := ts.map fun t => Value.string (mk t)
theorem strV_length (ts : List (List UInt8)) : (strV ts).length = ts.length := by simp [strV]
theorem strV_one (ts : List (List UInt8)) : ∀ u ∈ strV ts, u.oneCell' = true := by
  intro u hu
  simp only [strV, List.mem_map] at hu
  obtain ⟨c, _, rfl⟩ := hu
  rfl
theorem strV_get (ts : List (List UInt8)) (j : Nat) (hj : j < ts.length) : (strV ts)[j]? = some (.string (mk (ts.getD j []))) := by
  simp [strV, List.getD_eq_getElem?_getD, hj]

/-- v is a slice that holds the texts ts, wherever they lie -/
def Strs (w : World) (v : Value) (ts : List (List UInt8)) : Prop :=
  (∃ ao c, v = .slice ao 0 c ∧ ts = [] ∧ (ao = none → c = 0)) ∨ ∃ g o c, v = .slice (some ⟨g, o, none⟩) ts.length c ∧ g < w.heap.size ∧ ts.length ≤ c ∧ ∀ j, j < ts.length → w.cell? ⟨g, o + j, none⟩ = some (.string (mk (ts.getD j [])))
theorem Strs.below {w w' : World} {v : Value} {ts : List (List UInt8)} (h : Strs w v ts) (hb : Below w.heap.size w w') : Strs w' v ts := by
  rcases h with h | ⟨g, o, c, hv, hlt, h1, hc⟩
  · exact Or.inl h
  · exact Or.inr ⟨g, o, c, hv, Nat.lt_of_lt_of_le hlt hb.size, h1, fun j hj => by rw [hb.cell (p := ⟨g, o + j, none⟩) hlt]; exact hc j hj⟩
theorem Strs.shape {w : World} {v : Value} {ts : List (List UInt8)} (h : Strs w v ts) : ∃ ao c, v = .slice ao ts.length c := by
  rcases h with ⟨ao, c, hv, rfl, _⟩ | ⟨g, o, c, hv, _⟩
  · exact ⟨ao, c, hv⟩
  · exact ⟨_, _, hv⟩
theorem Strs.at {w : World} {ao : Option Addr} {n c : Nat} {ts : List (List UInt8)} (h : Strs w (.slice ao n c) ts) (k : Nat) (hk : k < ts.length) :
    ∃ g o, ao = some ⟨g, o, none⟩ ∧ w.cell? ⟨g, o + k, none⟩ = some (.string (mk (ts.getD k []))) := by
  rcases h with ⟨_, _, _, h0, _⟩ | ⟨g, o, c, hv, _, _, hc⟩
  · rw [h0] at hk; simp at hk
  · injection hv with h1 _ _
    exact ⟨g, o, h1, hc k hk⟩

/-- v owns the texts ts, in memory from block 'base' on -/
def OwnS (w : World) (base : Nat) (v : Value) (ts : List (List UInt8)) : Prop := w.ownsRow base 9 1 v ts.length (strV ts)
theorem OwnS.nil (w : World) (base : Nat) : OwnS w base (.slice none 0 0) [] := World.ownsRow_nil _ _ _ _
theorem OwnS.lt {w : World} {base : Nat} {v : Value} {ts : List (List UInt8)} (h : OwnS w base v ts) : ∀ k, v.ownBlock = some k → base ≤ k ∧ k < w.heap.size := World.ownsRow.lt h
theorem OwnS.kept {w w' : World} {base : Nat} {v : Value} {ts : List (List UInt8)} {row : Option Nat} (h : OwnS w base v ts) (hg : w.grownBy w' row) (hne : v.ownBlock = none ∨ v.ownBlock ≠ row) : OwnS w' base v ts := World.ownsRow.kept h hg hne
theorem OwnS.below {w w' : World} {base : Nat} {v : Value} {ts : List (List UInt8)} (h : OwnS w base v ts) (hb : Below w.heap.size w w') : OwnS w' base v ts :=
  World.ownsRow.kept h (below_gb hb none) (by cases e : v.ownBlock <;> simp)
theorem OwnS.le {w : World} {base base' : Nat} {v : Value} {ts : List (List UInt8)} (h : OwnS w base v ts) (hb : base' ≤ base) : OwnS w base' v ts :=
  ⟨h.1, h.2.elim Or.inl (fun ⟨g, cap, cur, hv, hg, r⟩ => Or.inr ⟨g, cap, cur, hv, Nat.le_trans hb hg, r⟩)⟩
theorem OwnS.forms {w : World} {base : Nat} {v : Value} {ts : List (List UInt8)} (h : OwnS w base v ts) :
    (v = .slice none 0 0 ∧ ts = []) ∨ ∃ g cap, v = .slice (some ⟨g, 0, none⟩) ts.length cap ∧ base ≤ g ∧ g < w.heap.size ∧ ts.length ≤ cap ∧ cap ≤ maxLen ∧ (∀ j, w.frozen? ⟨g, j, none⟩ = false) ∧ ∀ j, j < ts.length → w.cell? ⟨g, j, none⟩ = some (.string (mk (ts.getD j []))) := by
  have h' := h
  rcases h.2 with ⟨h0, h1⟩ | ⟨g, cap, cur, hv, hb, hh, h1, h2, _, _⟩
  · exact Or.inl ⟨h0, List.length_eq_zero_iff.1 h1⟩
  · refine Or.inr ⟨g, cap, hv, hb, ?_, h1, h2, ?_, ?_⟩
    · exact (World.ownsRow.lt h' g (by rw [hv]; rfl)).2
    · intro j; simp [World.frozen?, hh]
    · intro j hj
      have := World.ownsRow.cells h' (g := g) (by rw [hv]; rfl) j _ (strV_get ts j hj)
      rw [addr_add] at this
      exact this
theorem OwnS.strs {w : World} {base : Nat} {v : Value} {ts : List (List UInt8)} (h : OwnS w base v ts) : Strs w v ts := by
  rcases h.forms with ⟨rfl, rfl⟩ | ⟨g, cap, rfl, h1, h2, h3, h4, h5, h6⟩
  · exact Or.inl ⟨_, _, rfl, rfl, fun _ => rfl⟩
  · exact Or.inr ⟨g, 0, cap, rfl, h2, h3, fun j hj => by rw [Nat.zero_add]; exact h6 j hj⟩
/-- a row that was laid at once -/
theorem OwnS.made {w : World} {g base : Nat} {ts : List (List UInt8)} (hb : w.heap[g]? = some (.cells (strV ts).toArray 9 (0, 0))) (hl : ts.length ≤ 1099511627776) (hg : base ≤ g) (n : Nat) (hn : n = ts.length) :
    OwnS w base (.slice (some ⟨g, 0, none⟩) n n) ts := by
  subst hn
  refine ⟨by simp [strV], Or.inr ⟨g, ts.length, (strV ts).toArray, rfl, hg, hb, Nat.le_refl _, by unfold maxLen; omega, ?_, ?_⟩⟩
  · simp [strV]
  · rw [Nat.mul_one, ← strV_length ts, List.take_length]
/-- without the last ones -/
theorem OwnS.take {w : World} {base g cap : Nat} {ts : List (List UInt8)} (h : OwnS w base (.slice (some ⟨g, 0, none⟩) ts.length cap) ts) (n : Nat) (hn : n ≤ ts.length) : OwnS w base (.slice (some ⟨g, 0, none⟩) n cap) (ts.take n) := by
  obtain ⟨h0, h | ⟨g', cap', cur, hv, hb, hh, h1, h2, h3, h4⟩⟩ := h
  · cases h.1
  · injection hv with e1 e2 e3
    injection e1 with e1
    injection e1 with e1
    subst e1 e3
    have el : (ts.take n).length = n := by rw [List.length_take]; omega
    unfold OwnS
    rw [el]
    refine ⟨by rw [strV_length, el]; omega, Or.inr ⟨g, cap, cur, rfl, hb, hh, by omega, h2, h3, ?_⟩⟩
    have e : strV (ts.take n) = (strV ts).take n := by simp [strV, List.map_take]
    rw [e, ← h4, List.take_take]
    congr 1
    omega

/-- where an append lies: where it lay, or at the end -/
theorem app_place {P : Program} (w : World) (base : Nat) (t ty e : TypeId) (i : TypeInfo) (z : Value) (size bytes : Nat) (ht : P.underlying t = some (.slice e)) (hi : P.info? e = some i) (hz : i.zero = some z)
    (hsize : i.size = size) (hby : i.bytes = bytes)
    (v : Value) (n : Nat) (xs : List Value) (hown : w.ownsRow base e size v n xs)
    (a : Addr) (m c : Nat) (news : List Value) (hl : news.length = m * size) (hnews : ∀ j u, news[j]? = some u → w.cell? (a.add j) = some u) (h1 : ∀ u ∈ news, u.oneCell' = true)
    (h63 : n + m ≤ maxLen) (hbytes : (n + m) * bytes ≤ 140737488355328) (v' : Value) (w' : World)
    (hr : (Builtin.append_ #[t, t] ty #[v, .slice (some a) m c]).run P w = .ok v' w') : v'.ownBlock = v.ownBlock ∨ v'.ownBlock = some w.heap.size := by
  subst hsize
  subst hby
  have hsmall : n + m ≤ 9223372036854775807 := by simp only [maxLen] at h63; omega
  rcases hown.2 with ⟨rfl, rfl⟩ | ⟨g, cap, cur, rfl, hbg, hg, hnc, hcm, hcs, htake⟩
  · by_cases hm : m = 0
    · subst hm
      simp [Builtin.append_, run_underlying ht, sizeOf, typeInfo, hi, Builtin.lenOf, Builtin.firstCells, loadCells, loadCellsFrom] at hr
      rw [← hr.1]
      exact Or.inl rfl
    · have hr2 := run_append_nil (P := P) w t ty e i z ht hi hz a m c news hl hnews (by omega) (by omega) (by have hb := hbytes; simp only [Nat.zero_add] at hb; omega)
      rw [hr] at hr2
      injection hr2 with e1 e2
      rw [e1]
      exact Or.inr rfl
  · by_cases hroom : n + m ≤ cap
    · have hfit : n * i.size + news.length ≤ cur.size := by rw [hl, hcs, ← Nat.add_mul]; exact Nat.mul_le_mul_right _ hroom
      have hr2 := run_append_room (P := P) w t ty e i ht hi g n cap cur hg a m c news hl hnews h1 hroom hfit
      rw [hr] at hr2
      injection hr2 with e1 e2
      rw [e1]
      exact Or.inl rfl
    · have holds : ∀ j u, xs[j]? = some u → w.cell? ((⟨g, 0, none⟩ : Addr).add j) = some u := hown.cells (g := g) rfl
      have hr2 := run_append_grow (P := P) w t ty e i z ht hi hz ⟨g, 0, none⟩ n cap xs hown.1 holds a m c news hl hnews (by omega) (by omega) (growslice_fits (by omega) hbytes)
      rw [hr] at hr2
      injection hr2 with e1 e2
      rw [e1]
      exact Or.inr rfl

/-- append(own, texts...) -/
theorem app_text {w : World} {ops : Array Oper} {rest : List Oper} {o : Oper} {a : Act} {Q : Exit → Act → World → Prop} (hgd : o.guard = none) (s x : Operand)
    (ho : o.op = .call { callee := .builtin .append, args := #[s, x], argTypes := #[55, 55] })
    (base : Nat) (v : Value) (ts : List (List UInt8)) (hs : a.eval s = v) (hown : OwnS w base v ts) (us : List (List UInt8)) (vx : Value) (hx : a.eval x = vx) (hc : Strs w vx us)
    (hlen : ts.length + us.length ≤ 8796093022208) (hbase : base ≤ w.heap.size)
    (h : ∀ v' w', OwnS w' base v' (ts ++ us) → w.grownBy w' v.ownBlock → (v'.ownBlock = v.ownBlock ∨ v'.ownBlock = some w.heap.size) → wpList Tryd.prog ops Q rest (a.put o.dst v') w') : wpList Tryd.prog ops Q (o :: rest) a w := by
  obtain ⟨i0, hi, hz0, hz1, hz2⟩ := info_parts Tryd.infoStr
  have fin : ∀ (ad : Addr) (m c : Nat) (news : List Value), news = strV us → vx = .slice (some ad) m c → m = us.length → (∀ j u, news[j]? = some u → w.cell? (ad.add j) = some u) → wpList Tryd.prog ops Q (o :: rest) a w := by
    intro ad m c news hn hv hm hcl
    subst hn hv hm
    refine wpList_plain hgd fun K hK => ?_
    have hl : (strV us).length = us.length * 1 := by rw [strV_length]; omega
    obtain ⟨v', w', hr, h2, h3, _⟩ := run_append_own (P := Tryd.prog) w base 55 o.type 9 i0 (.string ⟨#[]⟩) 1 16 Tryd.underlying55 hi hz0 hz1 hz2 rfl (by decide) v ts.length (strV ts) hown ad us.length c (strV us) hl hcl (strV_one us) (by unfold maxLen; omega) (by omega) hbase
    have hp := app_place (P := Tryd.prog) w base 55 o.type 9 i0 (.string ⟨#[]⟩) 1 16 Tryd.underlying55 hi hz0 hz1 hz2 v ts.length (strV ts) hown ad us.length c (strV us) hl hcl (strV_one us) (by unfold maxLen; omega) (by omega) v' w' hr
    unfold Oper.wp execOp
    simp only [ho, resolve, invoke, builtin, Sem.run_bind, Sem.run_pure, Result.andThen_ok, List.map_toArray, List.map_cons, List.map_nil, hs, hx, hr]
    refine hK _ _ (h v' w' ?_ h3 hp)
    unfold OwnS
    rw [List.length_append, show strV (ts ++ us) = strV ts ++ strV us by simp [strV]]
    exact h2
  rcases hc with ⟨ao, c, rfl, rfl, h0⟩ | ⟨g, off, c, rfl, hlt, h1, h2⟩
  · cases ao with
    | none =>
      obtain rfl := h0 rfl
      refine wpList_append_own_none hgd s x 55 ho base 9 i0 1 Tryd.underlying55 hi v ts.length _ hs hown hx ?_
      exact h v w (by simpa using hown) (gb_refl _ _) (Or.inl rfl)
    | some ad => exact fin ad 0 c [] rfl rfl rfl (fun j u hj => by simp at hj)
  · refine fin ⟨g, off, none⟩ _ c _ rfl rfl rfl ?_
    intro j u hj
    have hjl : j < us.length := by
      rcases Nat.lt_or_ge j us.length with h | h
      · exact h
      · rw [List.getElem?_eq_none (by rw [strV_length]; exact h)] at hj; cases hj
    rw [strV_get us j hjl] at hj
    have hj := Option.some.inj hj
    rw [← hj]
    have := h2 j hjl
    rw [show (⟨g, off, none⟩ : Addr).add j = ⟨g, off + j, none⟩ by by_cases h0 : j = 0 <;> simp [Addr.add, h0]]
    exact this

/-- a slice's beginning -/
theorem sl_to (ad : Addr) (n cap k : Nat) (hk : k ≤ cap) (W : World) : (Instr.slice 55 (.slice (some ad) n cap) none (some (.int .i64 (k : Int))) none).run Tryd.prog W = .ok (.slice (some ad) k cap) W := by
  have hk2 : (k : Int) ≤ (cap : Int) := by omega
  go_simp

end Go.Proofs.YtjjajfipfeigiabDoor

/- Bytes of a text, its pieces; the program's two tables of texts. -/
namespace Go.Proofs.YtjjajfipfeigiabDoor
open Go.RowKit

theorem ret_b {a b : Bool} (h : a = true ↔ b = true) : Ending.returned (.bool a) = .returned (.bool b) := by rw [Bool.eq_iff_iff.2 h]
theorem ret_i {a b : Int} (h : a = b) : Ending.returned (.int .i64 a) = .returned (.int .i64 b) := by rw [h]

/-- a text's byte -/
theorem bl_at (s : ByteArray) (k : Nat) (hk : k < (bl s).length) (W : World) : (Instr.index 9 (.string s) (.int .i64 (k : Int))).run Tryd.prog W = .ok (.int .u8 (((bl s).getD k 0).toNat : Nat)) W := by
  rw [bl_eq] at hk ⊢
  have hsz := Lib.size_eq s
  rw [run_index_string W 9 s .i64 _ Tryd.underlying9, dif_pos ⟨by omega, by omega⟩]
  congr 3
  simp only [Int.toNat_natCast, List.getD_eq_getElem?_getD, List.getElem?_eq_getElem hk, Option.getD_some]
  rfl

/-- a text from a byte on, up to a byte, between -/
theorem ext_from (s : ByteArray) (k : Nat) : s.extract k s.size = mk ((bl s).drop k) := by
  rw [ext_bl, bl_size, List.take_length]
theorem ext_to (s : ByteArray) (k : Nat) : s.extract 0 k = mk ((bl s).take k) := by
  rw [ext_bl, List.drop_zero]
theorem ext_mid (s : ByteArray) (a b : Nat) : s.extract a b = mk (((bl s).drop a).take (b - a)) := by
  rw [ext_bl, List.drop_take]

/-- cuts of a text, as they run -/
theorem sl_from (l : List UInt8) (k : Nat) (hk : k ≤ l.length) (W : World) : (Instr.slice 9 (.string (mk l)) (some (.int .i64 (k : Int))) none none).run Tryd.prog W = .ok (.string (mk (l.drop k))) W := by
  have hs := mk_size l
  have h1 : (k : Int) ≤ ((mk l).size : Int) := by omega
  have e := ext_from (mk l) k
  rw [bl_mk] at e
  rw [← e]
  go_simp
theorem sl_upto (l : List UInt8) (k : Nat) (hk : k ≤ l.length) (W : World) : (Instr.slice 9 (.string (mk l)) none (some (.int .i64 (k : Int))) none).run Tryd.prog W = .ok (.string (mk (l.take k))) W := by
  have hs := mk_size l
  have h1 : (k : Int) ≤ ((mk l).size : Int) := by omega
  have e := ext_to (mk l) k
  rw [bl_mk] at e
  rw [← e]
  go_simp
theorem sl_mid (l : List UInt8) (a b : Nat) (ha : a ≤ b) (hb : b ≤ l.length) (W : World) : (Instr.slice 9 (.string (mk l)) (some (.int .i64 (a : Int))) (some (.int .i64 (b : Int))) none).run Tryd.prog W = .ok (.string (mk ((l.drop a).take (b - a)))) W := by
  have hs := mk_size l
  have h1 : (b : Int) ≤ ((mk l).size : Int) := by omega
  have h2 : (a : Int) ≤ (b : Int) := by omega
  have e := ext_mid (mk l) a b
  rw [bl_mk] at e
  rw [← e]
  go_simp
theorem at_mk (l : List UInt8) (k : Nat) (hk : k < l.length) (W : World) : (Instr.index 9 (.string (mk l)) (.int .i64 (k : Int))).run Tryd.prog W = .ok (.int .u8 ((l.getD k 0).toNat : Nat)) W := by
  have := bl_at (mk l) k (by rw [bl_mk]; exact hk) W
  rw [bl_mk] at this
  exact this

/-- the program's tables -/
structure Tabs (w : World) : Prop where
  signs : w.rangeAt 1 0 (strV (sg2 ++ sg1))
  keys : w.rangeAt 2 0 (strV kyL)
  low : 1 < w.heap.size ∧ 2 < w.heap.size
theorem Tabs.below {w w' : World} (h : Tabs w) (hb : Below w.heap.size w w') : Tabs w' :=
  ⟨fun j v hv => by rw [hb.cell (p := ⟨1, 0 + j, none⟩) h.low.1]; exact h.signs j v hv,
    fun j v hv => by rw [hb.cell (p := ⟨2, 0 + j, none⟩) h.low.2]; exact h.keys j v hv,
    ⟨Nat.lt_of_lt_of_le h.low.1 hb.size, Nat.lt_of_lt_of_le h.low.2 hb.size⟩⟩

/-- a table's text -/
theorem index_tab (W : World) (t : TypeId) (n : Nat) (ht : Tryd.prog.underlying t = some (.array n 9)) (ts : List (List UInt8)) (hn : ts.length = n) (k : Nat) (hk : k < n) :
    (Instr.index t (.agg (strV ts).toArray) (.int .i64 (k : Int))).run Tryd.prog W = .ok (.string (mk (ts.getD k []))) W := by
  obtain ⟨i0, hi, hz0, hz1, hz2⟩ := info_parts Tryd.infoStr
  have hsz : (sizeOf 9).run Tryd.prog W = .ok 1 W := by simp [sizeOf, typeInfo, hi, hz1]
  have hin : (0 : Int) ≤ (k : Int) ∧ (k : Int) < (n : Int) := by omega
  have hg : (strV ts).toArray[k]? = some (.string (mk (ts.getD k []))) := by simpa using strV_get ts k (by omega)
  have hag : (isAgg 9).run Tryd.prog W = .ok false W := by simp [isAgg, run_underlying Tryd.underlying9]
  simp only [Instr.index, asIntOf, Sem.run_bind, Sem.run_pure, Result.andThen_ok, run_underlying ht, hin, if_true, hsz, and_self, Int.toNat_natCast, Nat.mul_one, part, hag, Bool.false_eq_true, if_false, hg]

end Go.Proofs.YtjjajfipfeigiabDoor

/- The program's gap. -/
namespace Go.Proofs.YtjjajfipfeigiabDoor
open Go.RowKit

set_option maxHeartbeats 1000000 in
theorem blank_any (c : Int) (w : World) :
    Calls Tryd.prog 91 #[.int .u8 c] w fun e w' => e = .returned (.bool (bkI c)) ∧ w' = w := by
  go_enter Tryd.func91, Tryd.ntmps91
  go_wp2
  all_goals go_ret
  all_goals refine ⟨ret_b ?_, rfl⟩
  all_goals unfold bkI
  all_goals simp
  all_goals omega

/-- a loop's bytes so far -/
def Tw (p : UInt8 → Bool) (l : List UInt8) (k : Nat) : Prop := k ≤ l.length ∧ ∀ j, j < k → p (l.getD j 0) = true
theorem Tw.zero (p : UInt8 → Bool) (l : List UInt8) : Tw p l 0 := ⟨Nat.zero_le _, fun j hj => by omega⟩
theorem Tw.more {p : UInt8 → Bool} {l : List UInt8} {k : Nat} {c : UInt8} (h : Tw p l k) (hk : k < l.length) (hc : l.getD k 0 = c) (hp : p c = true) : Tw p l (k + 1) :=
  ⟨hk, fun j hj => by
    by_cases e : j = k
    · subst e; rw [hc]; exact hp
    · exact h.2 j (by omega)⟩
theorem Tw.all {p : UInt8 → Bool} {l : List UInt8} (h : Tw p l l.length) : twN p l = l.length := twN_eq h.1 h.2 (fun h => by omega)
theorem Tw.stop {p : UInt8 → Bool} {l : List UInt8} {k : Nat} {c : UInt8} (h : Tw p l k) (hc : l.getD k 0 = c) (hp : p c = false) : twN p l = k := twN_eq h.1 h.2 (fun _ => by rw [hc]; exact hp)

set_option maxHeartbeats 1000000 in
theorem blanks_any (l : List UInt8) (hl : l.length ≤ 140737488355328) (w : World) :
    Calls Tryd.prog 71 #[.string (mk l)] w fun e w' => e = .returned (.int .i64 (bkN l : Nat)) ∧ w' = w := by
  have hsz := mk_size l
  go_enter Tryd.func71, Tryd.ntmps71
  go_wp2
  go_loop [3] (fun i => ∃ k : Nat, i = .int .i64 k ∧ Tw bkB l k) (fun i => l.length - (intOf i).toNat)
  case atStart => exact ⟨0, rfl, Tw.zero _ _⟩
  case round =>
    obtain ⟨k, rfl, HT⟩ := hrel
    have HT : Hid (Tw bkB l k) := HT
    have hk := HT.out.1
    by_cases hlt : k < l.length
    · have q1 : (k : Int) < (l.length : Int) := by omega
      have i1 := at_mk l k hlt
      obtain ⟨c, HC⟩ : ∃ c : UInt8, Hid (l.getD k 0 = c) := ⟨_, rfl⟩
      rw [HC.out] at i1
      go_wp2_with (go_at_call 91; refine (blank_any _ _).mono ?_; rintro e w' ⟨rfl, rfl⟩)
      · rename_i hb
        exact ⟨⟨k + 1, by simp, HT.out.more hlt HC.out (by simpa [bkB] using hb)⟩, by simp [intOf]; omega⟩
      · rename_i hb
        go_ret
        refine ⟨ret_i ?_, rfl⟩
        rw [show bkN l = k from HT.out.stop HC.out (by simpa [bkB] using hb)]
    · have q1 : ¬ (k : Int) < (l.length : Int) := by omega
      obtain rfl : k = l.length := by omega
      go_wp2
      go_ret
      refine ⟨ret_i ?_, rfl⟩
      rw [show bkN l = l.length from HT.out.all]

theorem idx_nl (l : List UInt8) : Lib.indexByte l 10 = if twN nlB l < l.length then (twN nlB l : Int) else -1 := by
  induction l with
  | nil => rfl
  | cons c t ih =>
    by_cases hc : c = 10
    · subst hc
      rw [twN_none (by decide)]
      simp [Lib.indexByte]
    · have hb : (c == 10) = false := by simpa using hc
      rw [twN_cons (by simpa [nlB] using hc)]
      simp only [Lib.indexByte, hb, ih, List.length_cons]
      by_cases hlt : twN nlB t < t.length
      · have h1 : ((twN nlB t : Int) == -1) = false := by simp
        have h2 : twN nlB t + 1 < t.length + 1 := by omega
        rw [if_pos hlt, if_pos h2, h1]
        simp
      · have h2 : ¬ twN nlB t + 1 < t.length + 1 := by omega
        rw [if_neg hlt, if_neg h2]
        simp

theorem pre_47 (l : List UInt8) : Lib.hasPrefix l [47, 47] = true ↔ l.take 2 = [47, 47] := by
  unfold Lib.hasPrefix
  match l with
  | [] => simp
  | [a] => simp
  | a :: b :: t =>
    simp only [List.isPrefixOf, List.take_succ_cons, List.take_zero, Bool.and_eq_true, beq_iff_eq, List.cons.injEq, and_true]
    exact ⟨fun h => ⟨h.1.symm, h.2.symm⟩, fun h => ⟨h.1.symm, h.2.symm⟩⟩

set_option maxHeartbeats 1000000 in
theorem remark_any (l : List UInt8) (w : World) :
    Calls Tryd.prog 72 #[.string (mk l)] w fun e w' => e = .returned (.int .i64 (rmN l : Nat)) ∧ w' = w := by
  have hsz := mk_size l
  have c1 := Tryd.strings_HasPrefix (mk l) ⟨#[47, 47]⟩
  have c2 := Tryd.strings_IndexByte (mk l) 10
  rw [← bl_eq, bl_mk] at c1 c2
  have e1 : (⟨#[47, 47]⟩ : ByteArray).data.toList = [47, 47] := rfl
  rw [e1] at c1
  rw [show (10 : Int).toNat.toUInt8 = 10 from rfl, idx_nl] at c2
  by_cases hp : l.take 2 = [47, 47]
  · rw [(pre_47 l).2 hp] at c1
    have er : rmN l = twN nlB l := by unfold rmN; rw [if_pos hp]
    have HE := hid er
    by_cases hlt : twN nlB l < l.length
    · rw [if_pos hlt] at c2
      obtain ⟨n, HN⟩ : ∃ n, Hid (twN nlB l = n) := ⟨_, rfl⟩
      rw [HN.out] at c2
      have H1 := hid c1
      have H2 := hid c2
      clear c1 c2 hp er hlt e1
      go_enter Tryd.func72, Tryd.ntmps72
      go_wp2_with first
        | (go_at_call 92; refine (H1.out _).mono ?_; rintro e w' ⟨rfl, rfl⟩)
        | (go_at_call 93; refine (H2.out _).mono ?_; rintro e w' ⟨rfl, rfl⟩)
      all_goals first
        | (go_ret; exact ⟨ret_i (by rw [HE.out, HN.out]), rfl⟩)
        | omega
    · rw [if_neg hlt] at c2
      have hn := twN_le nlB l
      have HN : Hid (twN nlB l = l.length) := (by omega : twN nlB l = l.length)
      have H1 := hid c1
      have H2 := hid c2
      clear c1 c2 hp er hlt e1 hn
      go_enter Tryd.func72, Tryd.ntmps72
      go_wp2_with first
        | (go_at_call 92; refine (H1.out _).mono ?_; rintro e w' ⟨rfl, rfl⟩)
        | (go_at_call 93; refine (H2.out _).mono ?_; rintro e w' ⟨rfl, rfl⟩)
      go_ret
      exact ⟨ret_i (by rw [HE.out, HN.out]), rfl⟩
  · have er : rmN l = 0 := by unfold rmN; rw [if_neg hp]
    have HE := hid er
    have hf : Lib.hasPrefix l [47, 47] = false := by
      cases e : Lib.hasPrefix l [47, 47] with
      | false => rfl
      | true => exact absurd ((pre_47 l).1 e) hp
    rw [hf] at c1
    have H1 := hid c1
    clear c1 c2 hp er e1 hf
    go_enter Tryd.func72, Tryd.ntmps72
    go_wp2_with (go_at_call 92; refine (H1.out _).mono ?_; rintro e w' ⟨rfl, rfl⟩)
    go_ret
    exact ⟨ret_i (by rw [HE.out]; rfl), rfl⟩

/-- a gap so far -/
def Gp (l : List UInt8) (k : Nat) : Prop := k ≤ l.length ∧ gapP l = k + gapP (l.drop k)
theorem Gp.zero (l : List UInt8) : Gp l 0 := ⟨Nat.zero_le _, by simp⟩
theorem Gp.more {l : List UInt8} {k a b : Nat} (h : Gp l k) (ha : bkN (l.drop k) = a) (hb : rmN (l.drop (k + a)) = b) : Gp l (k + (a + b)) := by
  have h1 := gapP_bk (l.drop k)
  have h2 := gapP_rm ((l.drop k).drop a)
  have h0 := h.2
  rw [ha, h2] at h1
  rw [List.drop_drop, hb] at h1
  rw [List.drop_drop] at h1
  refine ⟨?_, by rw [h0, h1, Nat.add_assoc k a b]; omega⟩
  have g1 := gapP_le (l.drop k)
  have g2 := h.1
  rw [List.length_drop] at g1
  omega
theorem Gp.stop {l : List UInt8} {k : Nat} (h : Gp l k) (ha : bkN (l.drop k) = 0) (hb : rmN (l.drop k) = 0) : gapP l = k := by
  rw [h.2, gapP_none ha hb]; rfl

set_option maxHeartbeats 1000000 in
theorem gap_any (l : List UInt8) (hl : l.length ≤ 140737488355328) (w : World) :
    Calls Tryd.prog 59 #[.string (mk l)] w fun e w' => e = .returned (.int .i64 (gapP l : Nat)) ∧ w' = w := by
  go_enter Tryd.func59, Tryd.ntmps59
  go_wp2
  go_loop [3] (fun i => ∃ k : Nat, i = .int .i64 k ∧ Gp l k) (fun i => l.length - (intOf i).toNat)
  case atStart => exact ⟨0, rfl, Gp.zero _⟩
  case round =>
    obtain ⟨k, rfl, HG⟩ := hrel
    have HG : Hid (Gp l k) := HG
    have hk := HG.out.1
    have s1 := sl_from l k hk
    obtain ⟨a, HA⟩ : ∃ a, Hid (bkN (l.drop k) = a) := ⟨_, rfl⟩
    obtain ⟨b, HB⟩ : ∃ b, Hid (rmN (l.drop (k + a)) = b) := ⟨_, rfl⟩
    have hm := HG.out.more HA.out HB.out
    have hml := hm.1
    have s2 := sl_from l (k + a) (by omega)
    rw [show ((k + a : Nat) : Int) = (k : Int) + (a : Int) by omega] at s2
    have H1 := hid (blanks_any (l.drop k) (by rw [List.length_drop]; omega))
    have H2 := hid (remark_any (l.drop (k + a)))
    rw [HA.out] at H1
    rw [HB.out] at H2
    have HM := hid hm
    clear hm
    by_cases hz : a + b = 0
    · have z1 : a = 0 := by omega
      have z2 : b = 0 := by omega
      subst z1 z2
      have HZ := hid (HG.out.stop HA.out HB.out)
      clear hz
      go_wp2_with first
        | (go_at_call 71; refine (H1.out _).mono ?_; rintro e w' ⟨rfl, rfl⟩)
        | (go_at_call 72; refine (H2.out _).mono ?_; rintro e w' ⟨rfl, rfl⟩)
      go_ret
      exact ⟨ret_i (by rw [HZ.out]), rfl⟩
    · have zz : ¬ (a : Int) + (b : Int) = 0 := by omega
      clear hz
      go_wp2_with first
        | (go_at_call 71; refine (H1.out _).mono ?_; rintro e w' ⟨rfl, rfl⟩)
        | (go_at_call 72; refine (H2.out _).mono ?_; rintro e w' ⟨rfl, rfl⟩)
      exact ⟨⟨k + (a + b), by simp, HM.out⟩, by simp [intOf]; omega⟩

end Go.Proofs.YtjjajfipfeigiabDoor

/- The program's words and keys. -/
namespace Go.Proofs.YtjjajfipfeigiabDoor
open Go.RowKit

set_option maxHeartbeats 1000000 in
theorem letter_any (c : Int) (w : World) :
    Calls Tryd.prog 73 #[.int .u8 c] w fun e w' => e = .returned (.bool (ltI c)) ∧ w' = w := by
  go_enter Tryd.func73, Tryd.ntmps73
  go_wp2
  all_goals go_ret
  all_goals refine ⟨ret_b ?_, rfl⟩
  all_goals unfold ltI
  all_goals simp
  all_goals omega

set_option maxHeartbeats 1000000 in
theorem digit_any (c : Int) (w : World) :
    Calls Tryd.prog 75 #[.int .u8 c] w fun e w' => e = .returned (.bool (dgI c)) ∧ w' = w := by
  go_enter Tryd.func75, Tryd.ntmps75
  go_wp2
  all_goals go_ret
  all_goals refine ⟨ret_b ?_, rfl⟩
  all_goals unfold dgI
  all_goals simp
  all_goals omega

/-- texts held against one another -/
theorem tl_mk (a : List UInt8) : (mk a).toList = a := bl_mk a
theorem eq_mk {a b : List UInt8} (h : a = b) : ((mk a).toList == (mk b).toList) = true := by rw [tl_mk, tl_mk, h]; simp
theorem ne_mk {a b : List UInt8} (h : ¬ a = b) : ((mk a).toList == (mk b).toList) = false := by rw [tl_mk, tl_mk]; simpa using h
/-- not among the first ones -/
def Nay (T : List (List UInt8)) (l : List UInt8) (k : Nat) : Prop := ∀ j, j < k → ¬ l = T.getD j []
theorem Nay.more {T : List (List UInt8)} {l x : List UInt8} {k : Nat} (h : Nay T l k) (hx : T.getD k [] = x) (hn : ¬ l = x) : Nay T l (k + 1) := fun j hj => by
  by_cases e : j = k
  · subst e; rw [hx]; exact hn
  · exact h j (by omega)
theorem Nay.all {T : List (List UInt8)} {l : List UInt8} {k : Nat} (h : Nay T l k) (hk : T.length = k) : decide (l ∈ T) = false := by
  rw [decide_eq_false_iff_not]
  intro hm
  obtain ⟨j, hj, e⟩ := List.mem_iff_getElem.1 hm
  refine h j (by omega) ?_
  simp [List.getD_eq_getElem?_getD, hj, e]
theorem yea {T : List (List UInt8)} {l x : List UInt8} {k : Nat} (hk : k < T.length) (hx : T.getD k [] = x) (he : l = x) : decide (l ∈ T) = true := by
  rw [decide_eq_true_eq, he, ← hx]
  simp [List.getD_eq_getElem?_getD, hk]

set_option maxHeartbeats 1000000 in
theorem listed_any (l : List UInt8) (w : World) (hT : Tabs w) :
    Calls Tryd.prog 94 #[.string (mk l)] w fun e w' => e = .returned (.bool (decide (l ∈ kyL))) ∧ w' = w := by
  have HT := hid hT.keys
  clear hT
  obtain ⟨T, HK⟩ : ∃ T, Hid (kyL = T) := ⟨_, rfl⟩
  have HL : Hid (T.length = 16) := by rw [← HK.out]; rfl
  rw [HK.out] at HT ⊢
  go_enter Tryd.func94, Tryd.ntmps94
  go_wp2_with (refine wpList_load_mid rfl 141 (.global 2) rfl 2 0 rfl (strV T) (.array 16 9) (fun j v hv => HT.out j v hv) Tryd.underlying141 rfl (by rw [strV_length, HL.out]; kernel_rfl) ?_)
  go_loop [6] (fun i => ∃ k : Nat, i = .int .i64 k ∧ k ≤ 16 ∧ Nay T l k) (fun i => 16 - (intOf i).toNat)
  case atStart => exact ⟨0, rfl, by omega, fun j hj => by omega⟩
  case round =>
    obtain ⟨k, rfl, hk, HN⟩ := hrel
    have HN : Hid (Nay T l k) := HN
    by_cases hlt : k < 16
    · have q1 : (k : Int) < 16 := by omega
      have i1 := fun W => index_tab W 141 16 Tryd.underlying141 T HL.out k hlt
      obtain ⟨x, HX⟩ : ∃ x, Hid (T.getD k [] = x) := ⟨_, rfl⟩
      rw [HX.out] at i1
      by_cases he : l = x
      · have e1 := eq_mk he
        have HE := hid he
        clear he
        go_wp2
        go_ret
        exact ⟨by rw [yea (by rw [HL.out]; exact hlt) HX.out HE.out]; rfl, rfl⟩
      · have e1 := ne_mk he
        have HE := hid he
        clear he
        go_wp2
        exact ⟨⟨k + 1, by simp, by omega, HN.out.more HX.out HE.out⟩, by simp [intOf]; omega⟩
    · have q1 : ¬ (k : Int) < 16 := by omega
      obtain rfl : k = 16 := by omega
      go_wp2
      go_ret
      exact ⟨by rw [HN.out.all HL.out]; rfl, rfl⟩

set_option maxHeartbeats 1000000 in
theorem word_any (l : List UInt8) (hl : l.length ≤ 140737488355328) (h0 : 0 < l.length) (hc : ltB (l.getD 0 0) = true) (w : World) (hT : Tabs w) :
    Calls Tryd.prog 74 #[.string (mk l)] w fun e w' => e = .returned (.tuple #[.int .i64 (wdP l).1, .int .i64 (wdP l).2.1, .int .i64 (wdP l).2.2]) ∧ w' = w := by
  have hsz := mk_size l
  have HT := hid hT
  have HW : Hid (Tw wdB l 1) := ⟨h0, fun j hj => by
    obtain rfl : j = 0 := by omega
    unfold wdB; rw [hc]; rfl⟩
  clear hT hc
  go_enter Tryd.func74, Tryd.ntmps74
  go_wp2
  go_loop [5] (fun i => ∃ k : Nat, i = .int .i64 k ∧ Tw wdB l k) (fun i => l.length - (intOf i).toNat)
  case atStart => exact ⟨1, rfl, HW.out⟩
  case round =>
    obtain ⟨k, rfl, HK⟩ := hrel
    have HK : Hid (Tw wdB l k) := HK
    have hk := HK.out.1
    have fin : twN wdB l = k → Hid (wdP l = if 32 < k then (0, 0, 123) else if l.take k ∈ kyL then (4, k, 0) else (1, k, 0)) := fun e => by
      show wdP l = _
      unfold wdP; rw [e]
    have s1 := sl_upto l k hk
    by_cases hlt : k < l.length
    · have q1 : (k : Int) < (l.length : Int) := by omega
      have i1 := at_mk l k hlt
      obtain ⟨c, HC⟩ : ∃ c : UInt8, Hid (l.getD k 0 = c) := ⟨_, rfl⟩
      rw [HC.out] at i1
      by_cases hb : wdB c = true
      · have hb' : ltI (c.toNat : Nat) = true ∨ (ltI (c.toNat : Nat) = false ∧ dgI (c.toNat : Nat) = true) := by
          unfold wdB ltB dgB at hb
          cases e : ltI (c.toNat : Nat) with
          | true => exact Or.inl rfl
          | false => rw [e] at hb; exact Or.inr ⟨rfl, by simpa using hb⟩
        have HB := hid hb
        clear hb fin
        rcases hb' with hb1 | ⟨hb1, hb2⟩
        · have H1 := hid (letter_any (c.toNat : Nat))
          rw [hb1] at H1
          clear hb1
          go_wp2_with (go_at_call 73; refine (H1.out _).mono ?_; rintro e w' ⟨rfl, rfl⟩)
          exact ⟨⟨k + 1, by simp, HK.out.more hlt HC.out HB.out⟩, by simp [intOf]; omega⟩
        · have H1 := hid (letter_any (c.toNat : Nat))
          have H2 := hid (digit_any (c.toNat : Nat))
          rw [hb1] at H1
          rw [hb2] at H2
          clear hb1 hb2
          go_wp2_with first
            | (go_at_call 73; refine (H1.out _).mono ?_; rintro e w' ⟨rfl, rfl⟩)
            | (go_at_call 75; refine (H2.out _).mono ?_; rintro e w' ⟨rfl, rfl⟩)
          exact ⟨⟨k + 1, by simp, HK.out.more hlt HC.out HB.out⟩, by simp [intOf]; omega⟩
      · have hb : wdB c = false := by simpa using hb
        have FIN := fin (HK.out.stop HC.out hb)
        have hb1 : ltI (c.toNat : Nat) = false := (wd_or hb).1
        have hb2 : dgI (c.toNat : Nat) = false := (wd_or hb).2
        have H1 := hid (letter_any (c.toNat : Nat))
        have H2 := hid (digit_any (c.toNat : Nat))
        rw [hb1] at H1
        rw [hb2] at H2
        clear hb1 hb2 hb fin
        by_cases h32 : 32 < k
        · have FIN : Hid (wdP l = (0, 0, 123)) := by have := FIN.out; rw [if_pos h32] at this; exact this
          have q2 : (32 : Int) < (k : Int) := by omega
          go_wp2_with first
            | (go_at_call 73; refine (H1.out _).mono ?_; rintro e w' ⟨rfl, rfl⟩)
            | (go_at_call 75; refine (H2.out _).mono ?_; rintro e w' ⟨rfl, rfl⟩)
          go_ret3
          exact ⟨by rw [FIN.out]; rfl, rfl⟩
        · have q2 : ¬ (32 : Int) < (k : Int) := by omega
          have H3 := hid (listed_any (l.take k) w HT.out)
          by_cases hm : l.take k ∈ kyL
          · have FIN : Hid (wdP l = (4, k, 0)) := by have := FIN.out; rw [if_neg h32, if_pos hm] at this; exact this
            rw [decide_eq_true hm] at H3
            clear hm
            go_wp2_with first
              | (go_at_call 73; refine (H1.out _).mono ?_; rintro e w' ⟨rfl, rfl⟩)
              | (go_at_call 75; refine (H2.out _).mono ?_; rintro e w' ⟨rfl, rfl⟩)
              | (go_at_call 94; refine H3.out.mono ?_; rintro e w' ⟨rfl, rfl⟩)
            go_ret3
            exact ⟨by rw [FIN.out]; rfl, rfl⟩
          · have FIN : Hid (wdP l = (1, k, 0)) := by have := FIN.out; rw [if_neg h32, if_neg hm] at this; exact this
            rw [decide_eq_false hm] at H3
            clear hm
            go_wp2_with first
              | (go_at_call 73; refine (H1.out _).mono ?_; rintro e w' ⟨rfl, rfl⟩)
              | (go_at_call 75; refine (H2.out _).mono ?_; rintro e w' ⟨rfl, rfl⟩)
              | (go_at_call 94; refine H3.out.mono ?_; rintro e w' ⟨rfl, rfl⟩)
            go_ret3
            exact ⟨by rw [FIN.out]; rfl, rfl⟩
    · have q1 : ¬ (k : Int) < (l.length : Int) := by omega
      have hkl : l.length = k := by omega
      have FIN := fin (by have := HK.out; rw [← hkl] at this ⊢; exact this.all)
      have HKL := hid hkl
      clear hkl fin
      by_cases h32 : 32 < k
      · have FIN : Hid (wdP l = (0, 0, 123)) := by have := FIN.out; rw [if_pos h32] at this; exact this
        have q2 : (32 : Int) < (k : Int) := by omega
        go_wp2
        go_ret3
        exact ⟨by rw [FIN.out]; rfl, rfl⟩
      · have q2 : ¬ (32 : Int) < (k : Int) := by omega
        have H3 := hid (listed_any (l.take k) w HT.out)
        by_cases hm : l.take k ∈ kyL
        · have FIN : Hid (wdP l = (4, k, 0)) := by have := FIN.out; rw [if_neg h32, if_pos hm] at this; exact this
          rw [decide_eq_true hm] at H3
          clear hm
          go_wp2_with (go_at_call 94; refine H3.out.mono ?_; rintro e w' ⟨rfl, rfl⟩)
          go_ret3
          exact ⟨by rw [FIN.out]; rfl, rfl⟩
        · have FIN : Hid (wdP l = (1, k, 0)) := by have := FIN.out; rw [if_neg h32, if_neg hm] at this; exact this
          rw [decide_eq_false hm] at H3
          clear hm
          go_wp2_with (go_at_call 94; refine H3.out.mono ?_; rintro e w' ⟨rfl, rfl⟩)
          go_ret3
          exact ⟨by rw [FIN.out]; rfl, rfl⟩

end Go.Proofs.YtjjajfipfeigiabDoor

/- The program's numbers. -/
namespace Go.Proofs.YtjjajfipfeigiabDoor
open Go.RowKit

/-- all digits -/
def Dgs (l : List UInt8) : Prop := ∀ j, j < l.length → dgB (l.getD j 0) = true
theorem dg_num {c : UInt8} (h : dgB c = true) : 48 ≤ c.toNat ∧ c.toNat ≤ 57 := by
  unfold dgB dgI at h
  have := of_decide_eq_true h
  omega
/-- what amount answers -/
def amB (l : List UInt8) : Bool := decide (valP l ≤ 9223372036854775807)
def amN (l : List UInt8) : Nat := if valP l ≤ 9223372036854775807 then valP l else 0

set_option maxHeartbeats 1000000 in
theorem amount_any (l : List UInt8) (hl : l.length ≤ 140737488355328) (hd : Dgs l) (w : World) :
    Calls Tryd.prog 95 #[.string (mk l)] w fun e w' => e = .returned (.tuple #[.int .i64 (amN l : Nat), .bool (amB l)]) ∧ w' = w := by
  have hsz := mk_size l
  have HD := hid hd
  clear hd
  go_enter Tryd.func95, Tryd.ntmps95
  go_wp2
  go_loop [4, 9] (fun n i => ∃ k : Nat, i = .int .i64 k ∧ k ≤ l.length ∧ n = .int .i64 (valP (l.take k) : Nat) ∧ valP (l.take k) ≤ 9223372036854775807) (fun n i => l.length - (intOf i).toNat)
  case atStart => exact ⟨0, rfl, by omega, rfl, by simp [valP]⟩
  case round =>
    obtain ⟨k, rfl, hk, rfl, hv⟩ := hrel
    by_cases hlt : k < l.length
    · have q1 : (k : Int) < (l.length : Int) := by omega
      have i1 := at_mk l k hlt
      have hs := valP_succ hlt
      have ht := valP_take l (k + 1)
      have hc := dg_num (HD.out k hlt)
      obtain ⟨c, HC⟩ : ∃ c, Hid ((l.getD k 0).toNat = c) := ⟨_, rfl⟩
      rw [HC.out] at i1 hs hc
      have hc1 : (48 : Int) ≤ (c : Int) := by omega
      have hc2 : (c : Int) ≤ 57 := by omega
      obtain ⟨v, HV⟩ : ∃ v, Hid (valP (l.take k) = v) := ⟨_, rfl⟩
      rw [HV.out] at hs hv ⊢
      by_cases hb : 10 * v + (c - 48) ≤ 9223372036854775807
      · have hbI : 10 * (v : Int) + ((c : Int) - 48) ≤ 9223372036854775807 := by omega
        have hq : ¬ (9223372036854775807 - ((c : Int) - 48)) / 10 < (v : Int) := by omega
        have HS := hid hs
        clear hs ht
        go_wp2
        exact ⟨⟨k + 1, by simp, by omega, by rw [HS.out]; congr 1; omega, by rw [HS.out]; omega⟩, by simp [intOf]; omega⟩
      · have hq : (9223372036854775807 - ((c : Int) - 48)) / 10 < (v : Int) := by omega
        have HG : Hid (¬ valP l ≤ 9223372036854775807) := (by omega : ¬ valP l ≤ 9223372036854775807)
        clear hs ht
        go_wp2
        go_ret2
        refine ⟨?_, rfl⟩
        unfold amN amB
        rw [if_neg HG.out, decide_eq_false HG.out]
        rfl
    · have q1 : ¬ (k : Int) < (l.length : Int) := by omega
      have hkl : l.length = k := by omega
      rw [← hkl, List.take_length] at hv ⊢
      have HV := hid hv
      have HKL := hid hkl
      clear hv hkl
      obtain ⟨v, HVV⟩ : ∃ v, Hid (valP l = v) := ⟨_, rfl⟩
      rw [HVV.out]
      go_wp2
      go_ret2
      refine ⟨?_, rfl⟩
      unfold amN amB
      rw [if_pos HV.out, decide_eq_true HV.out, HVV.out]
      rfl

end Go.Proofs.YtjjajfipfeigiabDoor

/- The program's numbers: one at a source's beginning. -/
namespace Go.Proofs.YtjjajfipfeigiabDoor
open Go.RowKit

theorem dgs_take {l : List UInt8} {k : Nat} (h : Tw dgB l k) : Dgs (l.take k) := by
  intro j hj
  rw [List.length_take] at hj
  have := h.2 j (by omega)
  rw [List.getD_eq_getElem?_getD, List.getElem?_take_of_lt (by omega), ← List.getD_eq_getElem?_getD]
  exact this
theorem nu_bad {l : List UInt8} {k : Nat} (hk : twN dgB l = k) (h : (l.getD 0 0 = 48 ∧ 1 < k) ∨ ltB (l.getD k 0) = true ∨ 9223372036854775807 < valP (l.take k)) : nuP l = (0, 0, 121) := by
  unfold nuP; rw [hk, if_pos h]
theorem nu_ok {l : List UInt8} {k : Nat} (hk : twN dgB l = k) (h : ¬ ((l.getD 0 0 = 48 ∧ 1 < k) ∨ ltB (l.getD k 0) = true ∨ 9223372036854775807 < valP (l.take k))) : nuP l = (2, k, 0) := by
  unfold nuP; rw [hk, if_neg h]

set_option maxHeartbeats 2000000 in
theorem number_any (l : List UInt8) (hl : l.length ≤ 140737488355328) (h0 : 0 < l.length) (hc : dgB (l.getD 0 0) = true) (w : World) :
    Calls Tryd.prog 76 #[.string (mk l)] w fun e w' => e = .returned (.tuple #[.int .i64 (nuP l).1, .int .i64 (nuP l).2.1, .int .i64 (nuP l).2.2]) ∧ w' = w := by
  have hsz := mk_size l
  have HW : Hid (Tw dgB l 1) := ⟨h0, fun j hj => by
    obtain rfl : j = 0 := by omega
    exact hc⟩
  clear hc
  have i0 := at_mk l 0 h0
  obtain ⟨z, HZ⟩ : ∃ z : UInt8, Hid (l.getD 0 0 = z) := ⟨_, rfl⟩
  rw [HZ.out] at i0
  have i0 : ∀ W, (Instr.index 9 (.string (mk l)) (.int .i64 0)).run Tryd.prog W = .ok (.int .u8 (z.toNat : Nat)) W := i0
  go_enter Tryd.func76, Tryd.ntmps76
  go_wp2
  go_loop [5] (fun i => ∃ k : Nat, i = .int .i64 k ∧ 1 ≤ k ∧ Tw dgB l k) (fun i => l.length - (intOf i).toNat)
  case atStart => exact ⟨1, rfl, Nat.le_refl _, HW.out⟩
  case round =>
    obtain ⟨k, rfl, hk1, HK⟩ := hrel
    have HK : Hid (Tw dgB l k) := HK
    have hk := HK.out.1
    have s1 := sl_upto l k hk
    have H3 := hid (amount_any (l.take k) (by rw [List.length_take]; omega) (dgs_take HK.out))
    by_cases hlt : k < l.length
    · have q1 : (k : Int) < (l.length : Int) := by omega
      have i1 := at_mk l k hlt
      obtain ⟨c, HC⟩ : ∃ c : UInt8, Hid (l.getD k 0 = c) := ⟨_, rfl⟩
      rw [HC.out] at i1
      have H1 := hid (digit_any (c.toNat : Nat))
      have H2 := hid (letter_any (c.toNat : Nat))
      cases hb : dgI (c.toNat : Nat) with
      | true =>
        rw [hb] at H1
        have HB : Hid (dgB c = true) := hb
        clear hb
        go_wp2_with (go_at_call 75; refine (H1.out _).mono ?_; rintro e w' ⟨rfl, rfl⟩)
        exact ⟨⟨k + 1, by simp, by omega, HK.out.more hlt HC.out HB.out⟩, by simp [intOf]; omega⟩
      | false =>
        rw [hb] at H1
        have HE : Hid (twN dgB l = k) := HK.out.stop HC.out hb
        clear hb
        cases hb : ltI (c.toNat : Nat) with
        | true =>
          rw [hb] at H2
          have HB : Hid (ltB (l.getD k 0) = true) := by rw [HC.out]; exact hb
          have FIN := hid (nu_bad HE.out (Or.inr (Or.inl HB.out)))
          clear hb
          by_cases hz : (z.toNat : Int) = 48 ∧ (1 : Int) < (k : Int)
          · obtain ⟨z1, z2⟩ := hz
            rw [z1] at i0
            clear z1
            go_wp2_with first
              | (go_at_call 75; refine (H1.out _).mono ?_; rintro e w' ⟨rfl, rfl⟩)
              | (go_at_call 73; refine (H2.out _).mono ?_; rintro e w' ⟨rfl, rfl⟩)
              | (go_at_call 95; refine (H3.out _).mono ?_; rintro e w' ⟨rfl, rfl⟩)
            go_ret3
            exact ⟨by rw [FIN.out]; rfl, rfl⟩
          · by_cases z1 : (z.toNat : Int) = 48
            · have z2 : ¬ (1 : Int) < (k : Int) := fun e => hz ⟨z1, e⟩
              rw [z1] at i0
              clear z1 hz
              go_wp2_with first
                | (go_at_call 75; refine (H1.out _).mono ?_; rintro e w' ⟨rfl, rfl⟩)
                | (go_at_call 73; refine (H2.out _).mono ?_; rintro e w' ⟨rfl, rfl⟩)
                | (go_at_call 95; refine (H3.out _).mono ?_; rintro e w' ⟨rfl, rfl⟩)
              go_ret3
              exact ⟨by rw [FIN.out]; rfl, rfl⟩
            · clear hz
              go_wp2_with first
                | (go_at_call 75; refine (H1.out _).mono ?_; rintro e w' ⟨rfl, rfl⟩)
                | (go_at_call 73; refine (H2.out _).mono ?_; rintro e w' ⟨rfl, rfl⟩)
                | (go_at_call 95; refine (H3.out _).mono ?_; rintro e w' ⟨rfl, rfl⟩)
              go_ret3
              exact ⟨by rw [FIN.out]; rfl, rfl⟩
        | false =>
          rw [hb] at H2
          have HB : Hid (ltB (l.getD k 0) = false) := by rw [HC.out]; exact hb
          clear hb
          by_cases hz : (z.toNat : Int) = 48 ∧ (1 : Int) < (k : Int)
          · have FIN := hid (nu_bad HE.out (Or.inl ⟨by rw [HZ.out]; exact UInt8.toNat_inj.1 (by have := hz.1; simp; omega), by omega⟩))
            obtain ⟨z1, z2⟩ := hz
            rw [z1] at i0
            clear z1
            go_wp2_with first
              | (go_at_call 75; refine (H1.out _).mono ?_; rintro e w' ⟨rfl, rfl⟩)
              | (go_at_call 73; refine (H2.out _).mono ?_; rintro e w' ⟨rfl, rfl⟩)
              | (go_at_call 95; refine (H3.out _).mono ?_; rintro e w' ⟨rfl, rfl⟩)
            go_ret3
            exact ⟨by rw [FIN.out]; rfl, rfl⟩
          · have HNZ : Hid (¬ (l.getD 0 0 = 48 ∧ 1 < k)) := (by rintro ⟨e1, e2⟩; rw [HZ.out] at e1; exact hz ⟨by rw [e1]; rfl, by omega⟩ : ¬ (l.getD 0 0 = 48 ∧ 1 < k))
            by_cases hv : valP (l.take k) ≤ 9223372036854775807
            · have FIN := hid (nu_ok HE.out (by rintro (e | e | e); exact HNZ.out e; rw [HB.out] at e; cases e; omega))
              have eB : amB (l.take k) = true := decide_eq_true hv
              rw [eB] at H3
              obtain ⟨m, HM⟩ : ∃ m, Hid (amN (l.take k) = m) := ⟨_, rfl⟩
              rw [HM.out] at H3
              clear hv eB
              by_cases z1 : (z.toNat : Int) = 48
              · have z2 : ¬ (1 : Int) < (k : Int) := fun e => hz ⟨z1, e⟩
                rw [z1] at i0
                clear z1 hz
                go_wp2_with first
                  | (go_at_call 75; refine (H1.out _).mono ?_; rintro e w' ⟨rfl, rfl⟩)
                  | (go_at_call 73; refine (H2.out _).mono ?_; rintro e w' ⟨rfl, rfl⟩)
                  | (go_at_call 95; refine (H3.out _).mono ?_; rintro e w' ⟨rfl, rfl⟩)
                go_ret3
                exact ⟨by rw [FIN.out]; rfl, rfl⟩
              · clear hz
                go_wp2_with first
                  | (go_at_call 75; refine (H1.out _).mono ?_; rintro e w' ⟨rfl, rfl⟩)
                  | (go_at_call 73; refine (H2.out _).mono ?_; rintro e w' ⟨rfl, rfl⟩)
                  | (go_at_call 95; refine (H3.out _).mono ?_; rintro e w' ⟨rfl, rfl⟩)
                go_ret3
                exact ⟨by rw [FIN.out]; rfl, rfl⟩
            · have FIN := hid (nu_bad HE.out (Or.inr (Or.inr (by omega))))
              have eB : amB (l.take k) = false := decide_eq_false hv
              rw [eB] at H3
              obtain ⟨m, HM⟩ : ∃ m, Hid (amN (l.take k) = m) := ⟨_, rfl⟩
              rw [HM.out] at H3
              clear hv eB
              by_cases z1 : (z.toNat : Int) = 48
              · have z2 : ¬ (1 : Int) < (k : Int) := fun e => hz ⟨z1, e⟩
                rw [z1] at i0
                clear z1 hz
                go_wp2_with first
                  | (go_at_call 75; refine (H1.out _).mono ?_; rintro e w' ⟨rfl, rfl⟩)
                  | (go_at_call 73; refine (H2.out _).mono ?_; rintro e w' ⟨rfl, rfl⟩)
                  | (go_at_call 95; refine (H3.out _).mono ?_; rintro e w' ⟨rfl, rfl⟩)
                go_ret3
                exact ⟨by rw [FIN.out]; rfl, rfl⟩
              · clear hz
                go_wp2_with first
                  | (go_at_call 75; refine (H1.out _).mono ?_; rintro e w' ⟨rfl, rfl⟩)
                  | (go_at_call 73; refine (H2.out _).mono ?_; rintro e w' ⟨rfl, rfl⟩)
                  | (go_at_call 95; refine (H3.out _).mono ?_; rintro e w' ⟨rfl, rfl⟩)
                go_ret3
                exact ⟨by rw [FIN.out]; rfl, rfl⟩
    · have q1 : ¬ (k : Int) < (l.length : Int) := by omega
      have HB : Hid (ltB (l.getD k 0) = false) := by
        have e : l.getD k 0 = 0 := by rw [List.getD_eq_getElem?_getD, List.getElem?_eq_none (by omega)]; rfl
        rw [e]; exact (by decide : ltB 0 = false)
      have HE : Hid (twN dgB l = k) := by
        have hkl : l.length = k := by omega
        have := HK.out
        rw [← hkl] at this ⊢
        exact this.all
      by_cases hz : (z.toNat : Int) = 48 ∧ (1 : Int) < (k : Int)
      · have FIN := hid (nu_bad HE.out (Or.inl ⟨by rw [HZ.out]; exact UInt8.toNat_inj.1 (by have := hz.1; simp; omega), by omega⟩))
        obtain ⟨z1, z2⟩ := hz
        rw [z1] at i0
        clear z1
        go_wp2_with first
          | (go_at_call 95; refine (H3.out _).mono ?_; rintro e w' ⟨rfl, rfl⟩)
        go_ret3
        exact ⟨by rw [FIN.out]; rfl, rfl⟩
      · have HNZ : Hid (¬ (l.getD 0 0 = 48 ∧ 1 < k)) := (by rintro ⟨e1, e2⟩; rw [HZ.out] at e1; exact hz ⟨by rw [e1]; rfl, by omega⟩ : ¬ (l.getD 0 0 = 48 ∧ 1 < k))
        by_cases hv : valP (l.take k) ≤ 9223372036854775807
        · have FIN := hid (nu_ok HE.out (by rintro (e | e | e); exact HNZ.out e; rw [HB.out] at e; cases e; omega))
          have eB : amB (l.take k) = true := decide_eq_true hv
          rw [eB] at H3
          obtain ⟨m, HM⟩ : ∃ m, Hid (amN (l.take k) = m) := ⟨_, rfl⟩
          rw [HM.out] at H3
          clear hv eB
          by_cases z1 : (z.toNat : Int) = 48
          · have z2 : ¬ (1 : Int) < (k : Int) := fun e => hz ⟨z1, e⟩
            rw [z1] at i0
            clear z1 hz
            go_wp2_with first
              | (go_at_call 95; refine (H3.out _).mono ?_; rintro e w' ⟨rfl, rfl⟩)
            go_ret3
            exact ⟨by rw [FIN.out]; rfl, rfl⟩
          · clear hz
            go_wp2_with first
              | (go_at_call 95; refine (H3.out _).mono ?_; rintro e w' ⟨rfl, rfl⟩)
            go_ret3
            exact ⟨by rw [FIN.out]; rfl, rfl⟩
        · have FIN := hid (nu_bad HE.out (Or.inr (Or.inr (by omega))))
          have eB : amB (l.take k) = false := decide_eq_false hv
          rw [eB] at H3
          obtain ⟨m, HM⟩ : ∃ m, Hid (amN (l.take k) = m) := ⟨_, rfl⟩
          rw [HM.out] at H3
          clear hv eB
          by_cases z1 : (z.toNat : Int) = 48
          · have z2 : ¬ (1 : Int) < (k : Int) := fun e => hz ⟨z1, e⟩
            rw [z1] at i0
            clear z1 hz
            go_wp2_with first
              | (go_at_call 95; refine (H3.out _).mono ?_; rintro e w' ⟨rfl, rfl⟩)
            go_ret3
            exact ⟨by rw [FIN.out]; rfl, rfl⟩
          · clear hz
            go_wp2_with first
              | (go_at_call 95; refine (H3.out _).mono ?_; rintro e w' ⟨rfl, rfl⟩)
            go_ret3
            exact ⟨by rw [FIN.out]; rfl, rfl⟩

end Go.Proofs.YtjjajfipfeigiabDoor

/- The program's signs. -/
namespace Go.Proofs.YtjjajfipfeigiabDoor
open Go.RowKit

theorem pre_iff (l x : List UInt8) : Lib.hasPrefix l x = true ↔ l.take x.length = x := by
  unfold Lib.hasPrefix
  rw [List.isPrefixOf_iff_prefix, List.prefix_iff_eq_take]
  exact eq_comm
/-- none of the first ones begins l -/
def Nop (T : List (List UInt8)) (l : List UInt8) (k : Nat) : Prop := ∀ j, j < k → Lib.hasPrefix l (T.getD j []) = false
theorem Nop.more {T : List (List UInt8)} {l x : List UInt8} {k : Nat} (h : Nop T l k) (hx : T.getD k [] = x) (hn : Lib.hasPrefix l x = false) : Nop T l (k + 1) := fun j hj => by
  by_cases e : j = k
  · subst e; rw [hx]; exact hn
  · exact h j (by omega)
theorem Nop.mem {l : List UInt8} {k : Nat} (h : Nop (sg2 ++ sg1) l k) {x : List UInt8} (hx : x ∈ (sg2 ++ sg1).take k) : ¬ l.take x.length = x := by
  obtain ⟨j, hj, e⟩ := List.mem_iff_getElem.1 hx
  rw [List.length_take] at hj
  have := h j (by omega)
  rw [List.getElem_take] at e
  have e2 : (sg2 ++ sg1).getD j [] = x := by
    rw [List.getD_eq_getElem?_getD, List.getElem?_eq_getElem (by omega)]
    exact e
  rw [e2] at this
  intro hh
  rw [(pre_iff l x).2 hh] at this
  cases this
theorem sg_none {l : List UInt8} (h : Nop (sg2 ++ sg1) l 25) : sgP l = 0 := by
  have h2 : ¬ l.take 2 ∈ sg2 := fun hm => by
    have hl := sg2_len hm
    refine h.mem (x := l.take 2) (List.mem_append_left sg1 hm) ?_
    rw [hl]
  have h1 : ¬ l.take 1 ∈ sg1 := fun hm => by
    have hl := sg1_len hm
    refine h.mem (x := l.take 1) (List.mem_append_right sg2 hm) ?_
    rw [hl]
  unfold sgP
  rw [if_neg h2, if_neg h1]
theorem sg_some {l x : List UInt8} {k : Nat} (h : Nop (sg2 ++ sg1) l k) (hk : k < 25) (hx : (sg2 ++ sg1).getD k [] = x) (hp : Lib.hasPrefix l x = true) : sgP l = x.length ∧ x.length ≠ 0 := by
  have hp := (pre_iff l x).1 hp
  by_cases h7 : k < 7
  · have hm : x ∈ sg2 := by
      rw [← hx, List.getD_eq_getElem?_getD, List.getElem?_append_left (show k < sg2.length from h7), List.getElem?_eq_getElem (show k < sg2.length from h7)]
      exact List.getElem_mem _
    have hl := sg2_len hm
    rw [hl] at hp
    unfold sgP
    rw [hp, if_pos hm, hl]
    exact ⟨rfl, by omega⟩
  · have hm : x ∈ sg1 := by
      rw [← hx, List.getD_eq_getElem?_getD, List.getElem?_append_right (show sg2.length ≤ k from (by show 7 ≤ k; omega)), List.getElem?_eq_getElem (show k - sg2.length < sg1.length from (by show k - 7 < 18; omega))]
      exact List.getElem_mem _
    have hl := sg1_len hm
    rw [hl] at hp
    have h2 : ¬ l.take 2 ∈ sg2 := fun hm => by
      have hl := sg2_len hm
      refine h.mem (x := l.take 2) ?_ (by rw [hl])
      have e : (sg2 ++ sg1).take k = sg2 ++ sg1.take (k - 7) := by
        rw [List.take_append, List.take_of_length_le (show sg2.length ≤ k from (by show 7 ≤ k; omega))]
        rfl
      rw [e]
      exact List.mem_append_left _ hm
    unfold sgP
    rw [hp, if_neg h2, if_pos hm, hl]
    exact ⟨rfl, by omega⟩

set_option maxHeartbeats 1000000 in
theorem sign_any (l : List UInt8) (w : World) (hT : Tabs w) :
    Calls Tryd.prog 78 #[.string (mk l)] w fun e w' => e = .returned (.tuple #[.int .i64 (sqP l).1, .int .i64 (sqP l).2.1, .int .i64 (sqP l).2.2]) ∧ w' = w := by
  have HT := hid hT.signs
  clear hT
  obtain ⟨T, HK⟩ : ∃ T, Hid (sg2 ++ sg1 = T) := ⟨_, rfl⟩
  have HL : Hid (T.length = 25) := by rw [← HK.out]; rfl
  rw [HK.out] at HT
  go_enter Tryd.func78, Tryd.ntmps78
  go_wp2_with (refine wpList_load_mid rfl 136 (.global 1) rfl 1 0 rfl (strV T) (.array 25 9) (fun j v hv => HT.out j v hv) Tryd.underlying136 rfl (by rw [strV_length, HL.out]; kernel_rfl) ?_)
  go_loop [8] (fun i => ∃ k : Nat, i = .int .i64 k ∧ k ≤ 25 ∧ Nop T l k) (fun i => 25 - (intOf i).toNat)
  case atStart => exact ⟨0, rfl, by omega, fun j hj => by omega⟩
  case round =>
    obtain ⟨k, rfl, hk, HN⟩ := hrel
    have HN : Hid (Nop T l k) := HN
    by_cases hlt : k < 25
    · have q1 : (k : Int) < 25 := by omega
      have i1 := fun W => index_tab W 136 25 Tryd.underlying136 T HL.out k hlt
      obtain ⟨x, HX⟩ : ∃ x, Hid (T.getD k [] = x) := ⟨_, rfl⟩
      rw [HX.out] at i1
      have c1 := Tryd.strings_HasPrefix (mk l) (mk x)
      rw [← bl_eq, bl_mk, ← bl_eq, bl_mk] at c1
      have hxs := mk_size x
      cases hp : Lib.hasPrefix l x with
      | true =>
        rw [hp] at c1
        have H1 := hid c1
        have HS : Hid (sgP l = x.length ∧ x.length ≠ 0) := by
          have a1 := HN.out
          have a2 := HX.out
          rw [← HK.out] at a1 a2
          exact sg_some a1 hlt a2 hp
        clear c1 hp
        go_wp2_with (go_at_call 92; refine (H1.out _).mono ?_; rintro e w' ⟨rfl, rfl⟩)
        go_ret3
        refine ⟨?_, rfl⟩
        have e : sqP l = (5, x.length, 0) := by unfold sqP; rw [HS.out.1, if_neg HS.out.2]
        rw [e]
        rfl
      | false =>
        rw [hp] at c1
        have H1 := hid c1
        have HP := hid hp
        clear c1 hp
        go_wp2_with (go_at_call 92; refine (H1.out _).mono ?_; rintro e w' ⟨rfl, rfl⟩)
        exact ⟨⟨k + 1, by simp, by omega, HN.out.more HX.out HP.out⟩, by simp [intOf]; omega⟩
    · have q1 : ¬ (k : Int) < 25 := by omega
      obtain rfl : k = 25 := by omega
      go_wp2
      go_ret3
      refine ⟨?_, rfl⟩
      have a1 := HN.out
      rw [← HK.out] at a1
      have e : sqP l = (0, 0, 120) := by unfold sqP; rw [if_pos (sg_none a1)]
      rw [e]
      rfl

end Go.Proofs.YtjjajfipfeigiabDoor

/- The program's pieces of a text. -/
namespace Go.Proofs.YtjjajfipfeigiabDoor
open Go.RowKit

set_option maxHeartbeats 1000000 in
theorem plain_any (c : Int) (w : World) :
    Calls Tryd.prog 79 #[.int .u8 c] w fun e w' => e = .returned (.bool (plI c)) ∧ w' = w := by
  go_enter Tryd.func79, Tryd.ntmps79
  go_wp2
  all_goals go_ret
  all_goals refine ⟨ret_b ?_, rfl⟩
  all_goals unfold plI
  all_goals simp
  all_goals omega

/-- a named piece, a coded one -/
def nmQ (d : UInt8) : UInt8 × Nat := if d = 110 then (10, 2) else if d = 116 then (9, 2) else if d = 34 ∨ d = 92 then (d, 2) else (0, 0)
def cdQ (a b : UInt8) : UInt8 × Nat := if hxN a < 16 ∧ hxN b < 16 then (UInt8.ofNat (16 * hxN a + hxN b), 4) else (0, 0)
theorem u8_eq {c : UInt8} {n : Nat} (hn : n < 256) : (c.toNat : Int) = (n : Int) ↔ c = UInt8.ofNat n := by
  constructor
  · intro h
    apply UInt8.toNat_inj.1
    rw [UInt8.toNat_ofNat_of_lt' (by simpa using hn)]
    omega
  · intro h
    rw [h, UInt8.toNat_ofNat_of_lt' (by simpa using hn)]

set_option maxHeartbeats 1000000 in
theorem named_any (d : UInt8) (w : World) :
    Calls Tryd.prog 81 #[.int .u8 (d.toNat : Nat)] w fun e w' => e = .returned (.tuple #[.int .u8 ((nmQ d).1.toNat : Nat), .int .i64 ((nmQ d).2 : Nat)]) ∧ w' = w := by
  have k1 := u8_eq (c := d) (n := 110) (by omega)
  have k2 := u8_eq (c := d) (n := 116) (by omega)
  have k3 := u8_eq (c := d) (n := 34) (by omega)
  have k4 := u8_eq (c := d) (n := 92) (by omega)
  by_cases h1 : d = 110
  · subst h1
    clear k1 k2 k3 k4
    go_enter Tryd.func81, Tryd.ntmps81
    go_wp2
    go_ret2
    exact ⟨rfl, rfl⟩
  · by_cases h2 : d = 116
    · subst h2
      clear k1 k2 k3 k4
      go_enter Tryd.func81, Tryd.ntmps81
      go_wp2
      go_ret2
      exact ⟨rfl, rfl⟩
    · by_cases h3 : d = 34
      · subst h3
        clear k1 k2 k3 k4
        go_enter Tryd.func81, Tryd.ntmps81
        go_wp2
        go_ret2
        exact ⟨rfl, rfl⟩
      · by_cases h4 : d = 92
        · subst h4
          clear k1 k2 k3 k4
          go_enter Tryd.func81, Tryd.ntmps81
          go_wp2
          go_ret2
          exact ⟨rfl, rfl⟩
        · have n1 : ¬ (d.toNat : Int) = 110 := fun e => h1 (k1.1 e)
          have n2 : ¬ (d.toNat : Int) = 116 := fun e => h2 (k2.1 e)
          have n3 : ¬ (d.toNat : Int) = 34 := fun e => h3 (k3.1 e)
          have n4 : ¬ (d.toNat : Int) = 92 := fun e => h4 (k4.1 e)
          have HQ : Hid (nmQ d = (0, 0)) := by show nmQ d = (0, 0); unfold nmQ; rw [if_neg h1, if_neg h2, if_neg (by rintro (e | e); exact h3 e; exact h4 e)]
          clear k1 k2 k3 k4 h1 h2 h3 h4
          go_enter Tryd.func81, Tryd.ntmps81
          go_wp2
          go_ret2
          exact ⟨by rw [HQ.out]; rfl, rfl⟩

theorem all_u8 {p : UInt8 → Prop} (h : ∀ n : Fin 256, p (UInt8.ofNat n.val)) (c : UInt8) : p c := by
  have := h ⟨c.toNat, c.toNat_lt⟩
  simpa using this
set_option maxRecDepth 100000 in
theorem idx_hex (c : UInt8) : Lib.indexByte [48, 49, 50, 51, 52, 53, 54, 55, 56, 57, 97, 98, 99, 100, 101, 102] c = if hxN c < 16 then (hxN c : Int) else -1 := by
  revert c
  refine all_u8 ?_
  decide +kernel

set_option maxHeartbeats 1000000 in
theorem coded_any (a b : UInt8) (w : World) :
    Calls Tryd.prog 80 #[.int .u8 (a.toNat : Nat), .int .u8 (b.toNat : Nat)] w fun e w' => e = .returned (.tuple #[.int .u8 ((cdQ a b).1.toNat : Nat), .int .i64 ((cdQ a b).2 : Nat)]) ∧ w' = w := by
  have c1 := Tryd.strings_IndexByte ⟨#[48, 49, 50, 51, 52, 53, 54, 55, 56, 57, 97, 98, 99, 100, 101, 102]⟩ (a.toNat : Nat)
  have c2 := Tryd.strings_IndexByte ⟨#[48, 49, 50, 51, 52, 53, 54, 55, 56, 57, 97, 98, 99, 100, 101, 102]⟩ (b.toNat : Nat)
  have ea : ((a.toNat : Nat) : Int).toNat.toUInt8 = a := by simp
  have eb : ((b.toNat : Nat) : Int).toNat.toUInt8 = b := by simp
  have el : (⟨#[48, 49, 50, 51, 52, 53, 54, 55, 56, 57, 97, 98, 99, 100, 101, 102]⟩ : ByteArray).data.toList = [48, 49, 50, 51, 52, 53, 54, 55, 56, 57, 97, 98, 99, 100, 101, 102] := rfl
  rw [ea, el, idx_hex] at c1
  rw [eb, el, idx_hex] at c2
  obtain ⟨x, HX⟩ : ∃ x, Hid (hxN a = x) := ⟨_, rfl⟩
  obtain ⟨y, HY⟩ : ∃ y, Hid (hxN b = y) := ⟨_, rfl⟩
  rw [HX.out] at c1
  rw [HY.out] at c2
  by_cases hx : x < 16
  · by_cases hy : y < 16
    · rw [if_pos hx] at c1
      rw [if_pos hy] at c2
      have HC : Hid (cdQ a b = (UInt8.ofNat (16 * x + y), 4)) := by show cdQ a b = _; unfold cdQ; rw [HX.out, HY.out, if_pos ⟨hx, hy⟩]
      have hx' : (x : Int) ≤ 15 := by omega
      have hy' : (y : Int) ≤ 15 := by omega
      have H1 := hid c1
      have H2 := hid c2
      clear c1 c2 ea eb el
      go_enter Tryd.func80, Tryd.ntmps80
      go_wp2_with first
        | (go_at_call 93; refine (H1.out _).mono ?_; clear H1; rintro e w' ⟨rfl, rfl⟩)
        | (go_at_call 93; refine (H2.out _).mono ?_; rintro e w' ⟨rfl, rfl⟩)
      go_ret2
      refine ⟨?_, rfl⟩
      rw [HC.out]
      have e : ((UInt8.ofNat (16 * x + y)).toNat : Int) = 16 * (x : Int) + (y : Int) := by
        rw [UInt8.toNat_ofNat_of_lt' (show 16 * x + y < 256 by omega)]; omega
      simp only [e]
      rfl
    · rw [if_pos hx] at c1
      rw [if_neg hy] at c2
      have HC : Hid (cdQ a b = (0, 0)) := by show cdQ a b = _; unfold cdQ; rw [HX.out, HY.out, if_neg (fun h => hy h.2)]
      have H1 := hid c1
      have H2 := hid c2
      clear c1 c2 ea eb el hy
      go_enter Tryd.func80, Tryd.ntmps80
      go_wp2_with first
        | (go_at_call 93; refine (H1.out _).mono ?_; clear H1; rintro e w' ⟨rfl, rfl⟩)
        | (go_at_call 93; refine (H2.out _).mono ?_; rintro e w' ⟨rfl, rfl⟩)
      go_ret2
      exact ⟨by rw [HC.out]; rfl, rfl⟩
  · rw [if_neg hx] at c1
    have HC : Hid (cdQ a b = (0, 0)) := by show cdQ a b = _; unfold cdQ; rw [HX.out, HY.out, if_neg (fun h => hx h.1)]
    obtain ⟨z, HZ⟩ : ∃ z : Int, Hid ((if y < 16 then (y : Int) else -1) = z) := ⟨_, rfl⟩
    rw [HZ.out] at c2
    have H1 := hid c1
    have H2 := hid c2
    clear c1 c2 ea eb el hx
    go_enter Tryd.func80, Tryd.ntmps80
    go_wp2_with first
      | (go_at_call 93; refine (H1.out _).mono ?_; clear H1; rintro e w' ⟨rfl, rfl⟩)
      | (go_at_call 93; refine (H2.out _).mono ?_; rintro e w' ⟨rfl, rfl⟩)
    go_ret2
    exact ⟨by rw [HC.out]; rfl, rfl⟩

end Go.Proofs.YtjjajfipfeigiabDoor

/- The program's texts: a piece, a text at a source's beginning. -/
namespace Go.Proofs.YtjjajfipfeigiabDoor
open Go.RowKit

theorem pc_plain {l : List UInt8} {z : UInt8} (h0 : 0 < l.length) (hz : l.getD 0 0 = z) (hp : plB z = true) : pcP l = (z, 1) := by
  unfold pcP
  rw [if_neg (by omega), hz, if_pos (by rintro rfl; revert hp; decide), if_pos hp]
theorem pc_other {l : List UInt8} {z : UInt8} (hz : l.getD 0 0 = z) (hp : plB z = false) (h2 : z ≠ 92) : pcP l = (0, 0) := by
  unfold pcP
  split
  · rfl
  · rw [hz, if_pos h2, if_neg (by simp [hp])]
theorem pc_coded {l : List UInt8} (hz : l.getD 0 0 = 92) (hl : 4 ≤ l.length) (hd : l.getD 1 0 = 120) : pcP l = cdQ (l.getD 2 0) (l.getD 3 0) := by
  unfold pcP cdQ
  rw [if_neg (by omega), hz, if_neg (by simp), if_neg (by omega), hd, if_neg (by decide), if_neg (by decide), if_neg (by decide)]
  by_cases h : hxN (l.getD 2 0) < 16 ∧ hxN (l.getD 3 0) < 16
  · rw [if_pos h, if_pos ⟨rfl, hl, h⟩]
  · rw [if_neg h, if_neg (fun e => h e.2.2)]
theorem pc_named {l : List UInt8} {d : UInt8} (hz : l.getD 0 0 = 92) (hl : 2 ≤ l.length) (hd : l.getD 1 0 = d) (hn : ¬ (4 ≤ l.length ∧ d = 120)) : pcP l = nmQ d := by
  unfold pcP nmQ
  rw [if_neg (by omega), hz, if_neg (by simp), if_neg (by omega), hd]
  split
  · rfl
  · split
    · rfl
    · split
      · rfl
      · rw [if_neg (fun e => hn ⟨e.2.1, e.1⟩)]
theorem pc_short {l : List UInt8} (hz : l.getD 0 0 = 92) (hl : l.length = 1) : pcP l = (0, 0) := by
  unfold pcP
  rw [if_neg (by omega), hz, if_neg (by simp), if_pos (by omega)]

set_option maxHeartbeats 2000000 in
theorem piece_any (l : List UInt8) (hl : l.length ≤ 140737488355328) (w : World) :
    Calls Tryd.prog 62 #[.string (mk l)] w fun e w' => e = .returned (.tuple #[.int .u8 ((pcP l).1.toNat : Nat), .int .i64 ((pcP l).2 : Nat)]) ∧ ∃ n, w' = w.drewN n := by
  have hsz := mk_size l
  by_cases h0 : l.length = 0
  · obtain rfl : l = [] := List.length_eq_zero_iff.1 h0
    have f1 : ((mk []).toList == ([] : List UInt8)) = true := by rw [tl_mk]; rfl
    have f2 : (mk []).toList.isEmpty = true := by rw [tl_mk]; rfl
    clear h0 hl
    go_enter Tryd.func62, Tryd.ntmps62
    go_wp2
    go_ret2
    exact ⟨rfl, 0, rfl⟩
  · have h0 : 0 < l.length := by omega
    have f1 : ((mk l).toList == ([] : List UInt8)) = false := by rw [tl_mk]; cases l <;> simp at h0 ⊢
    have f2 : (mk l).toList.isEmpty = false := by rw [tl_mk]; cases l <;> simp at h0 ⊢
    have i0 := at_mk l 0 h0
    obtain ⟨z, HZ⟩ : ∃ z : UInt8, Hid (l.getD 0 0 = z) := ⟨_, rfl⟩
    rw [HZ.out] at i0
    have i0 : ∀ W, (Instr.index 9 (.string (mk l)) (.int .i64 0)).run Tryd.prog W = .ok (.int .u8 (z.toNat : Nat)) W := i0
    have H1 := hid (plain_any (z.toNat : Nat))
    have k4 := u8_eq (c := z) (n := 92) (by omega)
    cases hp : plI (z.toNat : Nat) with
    | true =>
      rw [hp] at H1
      have n4 : ¬ (z.toNat : Int) = 92 := by
        intro e
        rw [e] at hp
        revert hp; decide
      have HR := hid (pc_plain h0 HZ.out hp)
      clear hp k4
      go_enter Tryd.func62, Tryd.ntmps62
      go_wp2_with (go_at_call 79; refine (H1.out _).mono ?_; rintro e w' ⟨rfl, rfl⟩)
      go_ret2
      exact ⟨by rw [HR.out]; rfl, 0, rfl⟩
    | false =>
      rw [hp] at H1
      by_cases h92 : z = 92
      · subst h92
        have HZ' := HZ.out
        clear hp k4
        by_cases h2 : 2 ≤ l.length
        · have i1 := at_mk l 1 (by omega)
          obtain ⟨d, HD⟩ : ∃ d : UInt8, Hid (l.getD 1 0 = d) := ⟨_, rfl⟩
          rw [HD.out] at i1
          have i1 : ∀ W, (Instr.index 9 (.string (mk l)) (.int .i64 1)).run Tryd.prog W = .ok (.int .u8 (d.toNat : Nat)) W := i1
          have q2 : ¬ (l.length : Int) < 2 := by omega
          have k5 := u8_eq (c := d) (n := 120) (by omega)
          have H2 := hid (named_any d)
          by_cases h4 : 4 ≤ l.length
          · have q4 : ¬ (l.length : Int) < 4 := by omega
            by_cases hx : d = 120
            · subst hx
              have i2 := at_mk l 2 (by omega)
              have i3 := at_mk l 3 (by omega)
              have H3 := hid (coded_any (l.getD 2 0) (l.getD 3 0))
              have HR := hid (pc_coded HZ.out h4 HD.out)
              obtain ⟨x, HX⟩ : ∃ x : UInt8, Hid (l.getD 2 0 = x) := ⟨_, rfl⟩
              obtain ⟨y, HY⟩ : ∃ y : UInt8, Hid (l.getD 3 0 = y) := ⟨_, rfl⟩
              rw [HX.out] at i2
              rw [HY.out] at i3
              rw [HX.out, HY.out] at H3 HR
              have i2 : ∀ W, (Instr.index 9 (.string (mk l)) (.int .i64 2)).run Tryd.prog W = .ok (.int .u8 (x.toNat : Nat)) W := i2
              have i3 : ∀ W, (Instr.index 9 (.string (mk l)) (.int .i64 3)).run Tryd.prog W = .ok (.int .u8 (y.toNat : Nat)) W := i3
              obtain ⟨⟨r1, r2⟩, HQ⟩ : ∃ r, Hid (cdQ x y = r) := ⟨_, rfl⟩
              rw [HQ.out] at H3 HR
              clear k5 HZ'
              go_enter Tryd.func62, Tryd.ntmps62
              go_wp2_with (go_at_call 79; refine (H1.out _).mono ?_; rintro e w' ⟨rfl, rfl⟩)
              go_quiet (first | (go_at_call 80; exact Calls.quiet_of_same (H3.out _)))
              go_wp2
              go_ret2
              exact ⟨by rw [HR.out]; rfl, _, rfl⟩
            · have n5 : ¬ (d.toNat : Int) = 120 := fun e => hx (k5.1 e)
              have HR := hid (pc_named HZ.out h2 HD.out (fun e => hx e.2))
              obtain ⟨⟨r1, r2⟩, HQ⟩ : ∃ r, Hid (nmQ d = r) := ⟨_, rfl⟩
              rw [HQ.out] at H2 HR
              clear k5 hx HZ'
              go_enter Tryd.func62, Tryd.ntmps62
              go_wp2_with first
                | (go_at_call 79; refine (H1.out _).mono ?_; rintro e w' ⟨rfl, rfl⟩)
                | (go_at_call 81; refine (H2.out _).mono ?_; rintro e w' ⟨rfl, rfl⟩)
              go_ret2
              exact ⟨by rw [HR.out]; rfl, 0, rfl⟩
          · have q4 : (l.length : Int) < 4 := by omega
            have HR := hid (pc_named HZ.out h2 HD.out (fun e => h4 e.1))
            obtain ⟨⟨r1, r2⟩, HQ⟩ : ∃ r, Hid (nmQ d = r) := ⟨_, rfl⟩
            rw [HQ.out] at H2 HR
            clear k5 HZ'
            go_enter Tryd.func62, Tryd.ntmps62
            go_wp2_with first
              | (go_at_call 79; refine (H1.out _).mono ?_; rintro e w' ⟨rfl, rfl⟩)
              | (go_at_call 81; refine (H2.out _).mono ?_; rintro e w' ⟨rfl, rfl⟩)
            go_ret2
            exact ⟨by rw [HR.out]; rfl, 0, rfl⟩
        · have q4 : (l.length : Int) < 4 := by omega
          have q2 : (l.length : Int) < 2 := by omega
          have HR := hid (pc_short HZ.out (by omega))
          clear HZ'
          go_enter Tryd.func62, Tryd.ntmps62
          go_wp2_with (go_at_call 79; refine (H1.out _).mono ?_; rintro e w' ⟨rfl, rfl⟩)
          go_ret2
          exact ⟨by rw [HR.out]; rfl, 0, rfl⟩
      · have n4 : ¬ (z.toNat : Int) = 92 := fun e => h92 (k4.1 e)
        have HR := hid (pc_other HZ.out hp h92)
        clear k4 hp h92
        go_enter Tryd.func62, Tryd.ntmps62
        go_wp2_with (go_at_call 79; refine (H1.out _).mono ?_; rintro e w' ⟨rfl, rfl⟩)
        go_ret2
        exact ⟨by rw [HR.out]; rfl, 0, rfl⟩

/-- a text so far: n pieces, up to byte a -/
def Tx (l : List UInt8) (a n : Nat) : Prop := 1 ≤ a ∧ a ≤ l.length ∧ ∃ v : List UInt8, v.length = n ∧ txP (l.drop 1) = (txP (l.drop a)).map (fun x => (v ++ x.1, a - 1 + x.2))
theorem Tx.one {l : List UInt8} (h : 0 < l.length) : Tx l 1 0 := ⟨by omega, h, [], rfl, by cases txP (l.drop 1) <;> simp⟩
theorem drop_getD (l : List UInt8) (a j : Nat) : (l.drop a).getD j 0 = l.getD (a + j) 0 := by
  simp [List.getD_eq_getElem?_getD, List.getElem?_drop]
theorem Tx.more {l : List UInt8} {a n k : Nat} {c : UInt8} (h : Tx l a n) (hq : ¬ l.getD a 0 = 34) (hp : pcP (l.drop a) = (c, k)) (hk : k ≠ 0) : Tx l (a + k) (n + 1) := by
  obtain ⟨h1, h2, v, hv, hx⟩ := h
  have hle := pcP_le (l.drop a)
  rw [hp, List.length_drop] at hle
  simp only at hle
  refine ⟨by omega, by omega, v ++ [c], by simp [hv], ?_⟩
  have hq' : ¬ (l.drop a).getD 0 0 = 34 := by rw [drop_getD]; exact hq
  rw [hx, txP_step hq' (by rw [hp]; exact hk), hp, List.drop_drop]
  cases txP (l.drop (a + k)) with
  | none => rfl
  | some x =>
    simp only [Option.map_some, List.append_assoc, List.singleton_append]
    congr 2
    omega
theorem Tx.ends {l : List UInt8} {a n : Nat} (h : Tx l a n) (hn : n ≤ 4096) (hq : l.getD a 0 = 34) : tqP l = (3, a + 1, 0) := by
  obtain ⟨h1, h2, v, hv, hx⟩ := h
  rw [txP_quote (l := l.drop a) (by rw [drop_getD]; exact hq)] at hx
  unfold tqP
  rw [hx]
  simp only [Option.map_some, List.append_nil]
  rw [if_pos (by omega)]
  congr 2
  omega
theorem Tx.bad {l : List UInt8} {a n : Nat} (h : Tx l a n) (hq : ¬ l.getD a 0 = 34) (hp : (pcP (l.drop a)).2 = 0) : tqP l = (0, 0, 122) := by
  obtain ⟨h1, h2, v, hv, hx⟩ := h
  rw [txP_bad (l := l.drop a) (by rw [drop_getD]; exact hq) hp] at hx
  unfold tqP
  rw [hx]
  rfl
theorem Tx.long {l : List UInt8} {a n : Nat} (h : Tx l a n) (hn : 4096 < n) : tqP l = (0, 0, 122) := by
  obtain ⟨h1, h2, v, hv, hx⟩ := h
  unfold tqP
  rw [hx]
  cases txP (l.drop a) with
  | none => rfl
  | some x =>
    simp only [Option.map_some]
    rw [if_neg (by rw [List.length_append]; omega)]

set_option maxHeartbeats 2000000 in
theorem text_any (l : List UInt8) (hl : l.length ≤ 140737488355328) (h0 : 0 < l.length) (w : World) :
    Calls Tryd.prog 77 #[.string (mk l)] w fun e w' => e = .returned (.tuple #[.int .i64 (tqP l).1, .int .i64 (tqP l).2.1, .int .i64 (tqP l).2.2]) ∧ ∃ n, w' = w.drewN n := by
  have hsz := mk_size l
  have H0 := hid (Tx.one h0)
  clear h0
  go_enter Tryd.func77, Tryd.ntmps77
  go_wp2
  go_loopw [5, 6] (fun x i wr => ∃ a n q : Nat, n ≤ 4097 ∧ x = .int .i64 a ∧ i = .int .i64 n ∧ wr = w.drewN q ∧ Tx l a n) (fun _ i _ => 4097 - (intOf i).toNat)
  case atStart => exact ⟨1, 0, 0, by omega, rfl, rfl, rfl, H0.out⟩
  case round =>
    obtain ⟨a, n, q, hn, rfl, rfl, rfl, HT⟩ := hrel
    have HT : Hid (Tx l a n) := HT
    have ha := HT.out.2.1
    by_cases hlt : n < 4097
    · have q1 : (n : Int) ≤ 4096 := by omega
      by_cases hal : a < l.length ∧ l.getD a 0 = 34
      · have q2 : (a : Int) < (l.length : Int) := by omega
        have i1 := at_mk l a hal.1
        rw [hal.2] at i1
        have i1 : ∀ W, (Instr.index 9 (.string (mk l)) (.int .i64 (a : Int))).run Tryd.prog W = .ok (.int .u8 34) W := i1
        have FIN := hid (HT.out.ends (by omega) hal.2)
        clear hal
        go_wp2
        go_ret3
        exact ⟨by rw [FIN.out]; rfl, q, rfl⟩
      · have hq : ¬ l.getD a 0 = 34 := fun e => by
          refine hal ⟨?_, e⟩
          rcases Nat.lt_or_ge a l.length with h | h
          · exact h
          · rw [List.getD_eq_getElem?_getD, List.getElem?_eq_none h] at e
            exact absurd e (by decide)
        have HQ := hid hq
        have s1 := sl_from l a ha
        have H1 := hid (piece_any (l.drop a) (by rw [List.length_drop]; omega))
        obtain ⟨⟨c, k⟩, HP⟩ : ∃ r, Hid (pcP (l.drop a) = r) := ⟨_, rfl⟩
        rw [HP.out] at H1
        by_cases hk : k = 0
        · subst hk
          have FIN := hid (HT.out.bad hq (by rw [HP.out]))
          clear hq hal
          by_cases hlt2 : a < l.length
          · have q2 : (a : Int) < (l.length : Int) := by omega
            have i1 := at_mk l a hlt2
            obtain ⟨z, HZ⟩ : ∃ z : UInt8, Hid (l.getD a 0 = z) := ⟨_, rfl⟩
            rw [HZ.out] at i1
            have n4 : ¬ (z.toNat : Int) = 34 := fun e => HQ.out (by rw [HZ.out]; exact (u8_eq (n := 34) (by omega)).1 e)
            go_wp2_with (go_at_call 62; refine (H1.out _).mono ?_; rintro e w' ⟨rfl, m, rfl⟩)
            go_ret3
            exact ⟨by rw [FIN.out]; rfl, _, rfl⟩
          · have q2 : ¬ (a : Int) < (l.length : Int) := by omega
            go_wp2_with (go_at_call 62; refine (H1.out _).mono ?_; rintro e w' ⟨rfl, m, rfl⟩)
            go_ret3
            exact ⟨by rw [FIN.out]; rfl, _, rfl⟩
        · have HM := hid (HT.out.more hq HP.out hk)
          have hml := HM.out.2.1
          have n5 : ¬ (k : Int) = 0 := by omega
          clear hq hal
          by_cases hlt2 : a < l.length
          · have q2 : (a : Int) < (l.length : Int) := by omega
            have i1 := at_mk l a hlt2
            obtain ⟨z, HZ⟩ : ∃ z : UInt8, Hid (l.getD a 0 = z) := ⟨_, rfl⟩
            rw [HZ.out] at i1
            have n4 : ¬ (z.toNat : Int) = 34 := fun e => HQ.out (by rw [HZ.out]; exact (u8_eq (n := 34) (by omega)).1 e)
            go_wp2_with (go_at_call 62; refine (H1.out _).mono ?_; rintro e w' ⟨rfl, m, rfl⟩)
            exact ⟨⟨a + k, n + 1, _, by omega, by simp, by simp, rfl, HM.out⟩, by simp [intOf]; omega⟩
          · exfalso; omega
    · have q1 : ¬ (n : Int) ≤ 4096 := by omega
      have FIN := hid (HT.out.long (by omega))
      go_wp2
      go_ret3
      exact ⟨by rw [FIN.out]; rfl, q, rfl⟩

end Go.Proofs.YtjjajfipfeigiabDoor

/- The document's letters, keys, numbers, signs. -/
namespace Go.Proofs.YtjjajfipfeigiabDoor
open Go.RowKit

set_option maxHeartbeats 1000000 in
theorem rletter_any (c : Int) (w : World) :
    Calls Tryd.prog 30 #[.int .u8 c] w fun e w' => e = .returned (.bool (ltI c)) ∧ w' = w := by
  go_enter Tryd.func30, Tryd.ntmps30
  go_wp2
  all_goals go_ret
  all_goals refine ⟨ret_b ?_, rfl⟩
  all_goals unfold ltI
  all_goals simp
  all_goals omega

set_option maxHeartbeats 1000000 in
theorem rdigit_any (c : Int) (w : World) :
    Calls Tryd.prog 31 #[.int .u8 c] w fun e w' => e = .returned (.bool (dgI c)) ∧ w' = w := by
  go_enter Tryd.func31, Tryd.ntmps31
  go_wp2
  all_goals go_ret
  all_goals refine ⟨ret_b ?_, rfl⟩
  all_goals unfold dgI
  all_goals simp
  all_goals omega

/-- is a text one of some? -/
def amP (T : List (List UInt8)) (l : List UInt8) : Bool := decide (l ∈ T)

set_option maxHeartbeats 1000000 in
theorem among_any (T : List (List UInt8)) (l : List UInt8) (g : Nat) (hn : T.length ≤ 1000) (w : World) (hg : w.heap[g]? = some (.cells (strV T).toArray 9 (0, 0))) :
    Calls Tryd.prog 52 #[.slice (some ⟨g, 0, none⟩) T.length T.length, .string (mk l)] w fun e w' => e = .returned (.bool (amP T l)) ∧ w' = w := by
  have HG := hid hg
  clear hg
  obtain ⟨n, HNN⟩ : ∃ n, Hid (T.length = n) := ⟨_, rfl⟩
  rw [HNN.out] at hn ⊢
  go_enter Tryd.func52, Tryd.ntmps52
  go_wp2
  go_loop [5] (fun i => ∃ k : Nat, i = .int .i64 k ∧ k ≤ n ∧ Nay T l k) (fun i => n - (intOf i).toNat)
  case atStart => exact ⟨0, rfl, by omega, fun j hj => by omega⟩
  case round =>
    obtain ⟨k, rfl, hk, HN⟩ := hrel
    have HN : Hid (Nay T l k) := HN
    by_cases hlt : k < n
    · have q1 : (k : Int) < (n : Int) := by omega
      have c1 : w.cell? ⟨g, k, none⟩ = some (.string (mk (T.getD k []))) := by
        rw [cell_of_row _ _ _ _ _ _ HG.out]
        simpa using strV_get T k (by have := HNN.out; omega)
      obtain ⟨x, HX⟩ : ∃ x, Hid (T.getD k [] = x) := ⟨_, rfl⟩
      rw [HX.out] at c1
      by_cases he : l = x
      · have e1 := eq_mk he.symm
        have HE := hid he
        clear he
        go_wp2
        go_ret
        exact ⟨by rw [show amP T l = true from yea (by have := HNN.out; omega) HX.out HE.out]; rfl, rfl⟩
      · have e1 := ne_mk (fun h => he h.symm)
        have HE := hid he
        clear he
        go_wp2
        exact ⟨⟨k + 1, by simp, by omega, HN.out.more HX.out HE.out⟩, by simp [intOf]; omega⟩
    · have q1 : ¬ (k : Int) < (n : Int) := by omega
      obtain rfl : k = n := by omega
      go_wp2
      go_ret
      exact ⟨by rw [show amP T l = false from HN.out.all HNN.out]; rfl, rfl⟩

theorem ky_cells : (strV kyL).toArray = #[.string ⟨#[105, 110, 99, 108, 117, 100, 101]⟩, .string ⟨#[97, 115]⟩, .string ⟨#[101, 120, 112, 111, 114, 116]⟩, .string ⟨#[99, 111, 110, 115, 116]⟩, .string ⟨#[102, 117, 110, 99]⟩, .string ⟨#[118, 97, 114]⟩, .string ⟨#[105, 102]⟩, .string ⟨#[101, 108, 115, 101]⟩, .string ⟨#[119, 104, 105, 108, 101]⟩, .string ⟨#[114, 101, 116, 117, 114, 110]⟩, .string ⟨#[112, 114, 105, 110, 116]⟩, .string ⟨#[116, 114, 117, 101]⟩, .string ⟨#[102, 97, 108, 115, 101]⟩, .string ⟨#[105, 110, 116]⟩, .string ⟨#[98, 111, 111, 108]⟩, .string ⟨#[116, 101, 120, 116]⟩] := rfl

set_option maxHeartbeats 1000000 in
theorem rkeys_any (w : World) :
    Calls Tryd.prog 53 #[] w fun e w' => e = .returned (.slice (some ⟨w.heap.size, 0, none⟩) 16 16) ∧ w' = w.alloc (.cells (strV kyL).toArray 9) := by
  rw [ky_cells]
  go_enter Tryd.func53, Tryd.ntmps53
  go_wp2
  go_ret
  exact ⟨rfl, rfl⟩

set_option maxHeartbeats 1000000 in
theorem rkey_any (l : List UInt8) (w : World) :
    Calls Tryd.prog 32 #[.string (mk l)] w fun e w' => e = .returned (.bool (amP kyL l)) ∧ Below w.heap.size w w' := by
  have H1 := hid rkeys_any
  have H2 : Hid (∀ w g, w.heap[g]? = some (.cells (strV kyL).toArray 9 (0, 0)) → Calls Tryd.prog 52 #[.slice (some ⟨g, 0, none⟩) 16 16, .string (mk l)] w fun e w' => e = .returned (.bool (amP kyL l)) ∧ w' = w) := fun w g hg => among_any kyL l g (by decide) w hg
  obtain ⟨T, HT⟩ : ∃ T, Hid (kyL = T) := ⟨_, rfl⟩
  rw [HT.out] at H1 H2 ⊢
  go_enter Tryd.func32, Tryd.ntmps32
  go_wp2_with first
    | (go_at_call 53; refine (H1.out _).mono ?_; rintro e w' ⟨rfl, rfl⟩)
    | (go_at_call 52; refine (H2.out _ _ (hp_new _ _)).mono ?_; rintro e w' ⟨rfl, rfl⟩)
  go_ret
  exact ⟨rfl, below_walk _ _⟩

end Go.Proofs.YtjjajfipfeigiabDoor

/- The document's halves and pieces. -/
namespace Go.Proofs.YtjjajfipfeigiabDoor
open Go.RowKit

set_option maxHeartbeats 1000000 in
theorem rhalf_any (c : UInt8) (w : World) :
    Calls Tryd.prog 69 #[.int .u8 (c.toNat : Nat)] w fun e w' => e = .returned (.int .u8 (hxN c : Nat)) ∧ w' = w := by
  have H1 := hid (rdigit_any (c.toNat : Nat))
  have hc : (c.toNat : Int) ≤ 255 := by have := c.toNat_lt; omega
  cases hd : dgI (c.toNat : Nat) with
  | true =>
    rw [hd] at H1
    have hn := dg_num (show dgB c = true from hd)
    have HR : Hid (hxN c = c.toNat - 48) := by show hxN c = _; unfold hxN; rw [if_pos (show dgB c = true from hd)]
    have q1 : (48 : Int) ≤ (c.toNat : Int) := by omega
    clear hd
    go_enter Tryd.func69, Tryd.ntmps69
    go_wp2_with (go_at_call 31; refine (H1.out _).mono ?_; rintro e w' ⟨rfl, rfl⟩)
    go_ret
    refine ⟨?_, rfl⟩
    rw [HR.out, show ((c.toNat - 48 : Nat) : Int) = (c.toNat : Int) - 48 by omega]
    rfl
  | false =>
    rw [hd] at H1
    by_cases hx : 97 ≤ c.toNat ∧ c.toNat ≤ 102
    · have HR : Hid (hxN c = c.toNat - 87) := by show hxN c = _; unfold hxN; rw [if_neg (by unfold dgB; rw [hd]; decide), if_pos hx]
      have q1 : (97 : Int) ≤ (c.toNat : Int) := by omega
      have q2 : (c.toNat : Int) ≤ 102 := by omega
      clear hd
      go_enter Tryd.func69, Tryd.ntmps69
      go_wp2_with (go_at_call 31; refine (H1.out _).mono ?_; rintro e w' ⟨rfl, rfl⟩)
      go_ret
      refine ⟨?_, rfl⟩
      have e : ((c.toNat - 87 : Nat) : Int) = (c.toNat : Int) - 97 + 10 := by omega
      rw [HR.out, e]
      rfl
    · have HR : Hid (hxN c = 16) := by show hxN c = _; unfold hxN; rw [if_neg (by unfold dgB; rw [hd]; decide), if_neg hx]
      have hq : ¬ (97 : Int) ≤ (c.toNat : Int) ∨ ((97 : Int) ≤ (c.toNat : Int) ∧ ¬ (c.toNat : Int) ≤ 102) := by omega
      clear hd hx
      go_enter Tryd.func69, Tryd.ntmps69
      rcases hq with q1 | ⟨q1, q2⟩
      all_goals go_wp2_with (go_at_call 31; refine (H1.out _).mono ?_; rintro e w' ⟨rfl, rfl⟩)
      all_goals go_ret
      all_goals exact ⟨by rw [HR.out]; rfl, rfl⟩

theorem or_bits {X Y : Nat} (hX : X < 16) (hY : Y < 16) : bits BinOp.or IntKind.u8 ((X : Int) * 16) (Y : Int) = ((UInt8.ofNat (16 * X + Y)).toNat : Int) := by
  have h : ∀ x y : Fin 16, bits BinOp.or IntKind.u8 ((x.val : Int) * 16) (y.val : Int) = ((UInt8.ofNat (16 * x.val + y.val)).toNat : Int) := by decide +kernel
  exact h ⟨X, hX⟩ ⟨Y, hY⟩

set_option maxHeartbeats 4000000 in
set_option maxRecDepth 100000 in
theorem rpiece_any (l : List UInt8) (a : Nat) (ha : a ≤ l.length) (hl : l.length ≤ 140737488355328) (w : World) :
    Calls Tryd.prog 54 #[.string (mk l), .int .i64 (a : Nat)] w fun e w' => e = .returned (.tuple #[.int .u8 ((pcP (l.drop a)).1.toNat : Nat), .int .i64 ((pcP (l.drop a)).2 : Nat)]) ∧ ∃ n, w' = w.drewN n := by
  have hsz := mk_size l
  have hdl : (l.drop a).length = l.length - a := List.length_drop
  have hg0 := drop_getD l a 0
  have hg1 := drop_getD l a 1
  have hg2 := drop_getD l a 2
  have hg3 := drop_getD l a 3
  rw [Nat.add_zero] at hg0
  by_cases hlt : a < l.length
  · have q1 : ¬ (l.length : Int) ≤ (a : Int) := by omega
    have i0 := at_mk l a hlt
    obtain ⟨z, HZ⟩ : ∃ z : UInt8, Hid (l.getD a 0 = z) := ⟨_, rfl⟩
    rw [HZ.out] at i0 hg0
    by_cases h92 : z = 92
    · subst h92
      have i0 : ∀ W, (Instr.index 9 (.string (mk l)) (.int .i64 (a : Int))).run Tryd.prog W = .ok (.int .u8 92) W := i0
      by_cases h2 : a + 1 < l.length
      · have q2 : ¬ (l.length : Int) ≤ (a : Int) + 1 := by omega
        have i1 := at_mk l (a + 1) h2
        obtain ⟨d, HD⟩ : ∃ d : UInt8, Hid (l.getD (a + 1) 0 = d) := ⟨_, rfl⟩
        rw [HD.out, show ((a + 1 : Nat) : Int) = (a : Int) + 1 by omega] at i1
        rw [HD.out] at hg1
        by_cases hx : a + 3 < l.length ∧ d = 120
        · obtain ⟨h3, rfl⟩ := hx
          have HR := hid (pc_coded hg0 (by omega) hg1)
          rw [hg2, hg3] at HR
          have i2 := at_mk l (a + 2) (by omega)
          have i3 := at_mk l (a + 3) (by omega)
          obtain ⟨x, HX⟩ : ∃ x : UInt8, Hid (l.getD (a + 2) 0 = x) := ⟨_, rfl⟩
          obtain ⟨y, HY⟩ : ∃ y : UInt8, Hid (l.getD (a + 3) 0 = y) := ⟨_, rfl⟩
          rw [HX.out, show ((a + 2 : Nat) : Int) = (a : Int) + 2 by omega] at i2
          rw [HY.out, show ((a + 3 : Nat) : Int) = (a : Int) + 3 by omega] at i3
          rw [HX.out, HY.out] at HR
          have i1 : ∀ W, (Instr.index 9 (.string (mk l)) (.int .i64 ((a : Int) + 1))).run Tryd.prog W = .ok (.int .u8 120) W := i1
          have H1 := hid (rhalf_any x)
          have H2 := hid (rhalf_any y)
          have q3 : (a : Int) + 3 < (l.length : Int) := by omega
          obtain ⟨X, HXX⟩ : ∃ X, Hid (hxN x = X) := ⟨_, rfl⟩
          obtain ⟨Y, HYY⟩ : ∃ Y, Hid (hxN y = Y) := ⟨_, rfl⟩
          have HQ : Hid (cdQ x y = if X < 16 ∧ Y < 16 then (UInt8.ofNat (16 * X + Y), 4) else (0, 0)) := by show cdQ x y = _; unfold cdQ; rw [HXX.out, HYY.out]
          rw [HXX.out] at H1
          rw [HYY.out] at H2
          clear hg0 hg1 hg2 hg3 hdl
          by_cases hX : X < 16
          · have r1 : (X : Int) < 16 := by omega
            by_cases hY : Y < 16
            · have r2 : (Y : Int) < 16 := by omega
              have HQ : Hid (cdQ x y = (UInt8.ofNat (16 * X + Y), 4)) := by have := HQ.out; rw [if_pos ⟨hX, hY⟩] at this; exact this
              go_enter Tryd.func54, Tryd.ntmps54
              go_wp2_with first
                | (go_at_call 69; with_reducible refine (H1.out _).mono ?_; rintro e w' ⟨rfl, rfl⟩)
                | (go_at_call 69; with_reducible refine (H2.out _).mono ?_; rintro e w' ⟨rfl, rfl⟩)
              go_quiet (first | (go_at_call 69; with_reducible exact Calls.quiet_of_same (H1.out _)) | (go_at_call 69; with_reducible exact Calls.quiet_of_same (H2.out _)))
              go_wp2
              go_ret2
              refine ⟨?_, _, rfl⟩
              rw [HR.out, HQ.out]
              show Ending.returned (.tuple #[.int .u8 (bits BinOp.or IntKind.u8 ((X : Int) * 16) (Y : Int)), .int .i64 4]) = _
              rw [or_bits hX hY]
              rfl
            · have r2 : ¬ (Y : Int) < 16 := by omega
              have HQ : Hid (cdQ x y = (0, 0)) := by have := HQ.out; rw [if_neg (fun h => hY h.2)] at this; exact this
              go_enter Tryd.func54, Tryd.ntmps54
              go_wp2_with first
                | (go_at_call 69; with_reducible refine (H1.out _).mono ?_; clear H1; rintro e w' ⟨rfl, rfl⟩)
                | (go_at_call 69; with_reducible refine (H2.out _).mono ?_; rintro e w' ⟨rfl, rfl⟩)
              go_ret2
              exact ⟨by rw [HR.out, HQ.out]; rfl, 0, rfl⟩
          · have r1 : ¬ (X : Int) < 16 := by omega
            have HQ : Hid (cdQ x y = (0, 0)) := by have := HQ.out; rw [if_neg (fun h => hX h.1)] at this; exact this
            go_enter Tryd.func54, Tryd.ntmps54
            go_wp2_with (go_at_call 69; with_reducible refine (H1.out _).mono ?_; rintro e w' ⟨rfl, rfl⟩)
            go_ret2
            exact ⟨by rw [HR.out, HQ.out]; rfl, 0, rfl⟩
        · have HR := hid (pc_named hg0 (by omega) hg1 (fun e => hx ⟨by omega, e.2⟩))
          clear hg0 hg1 hg2 hg3 hdl
          by_cases hd1 : d = 110
          · subst hd1
            have i1 : ∀ W, (Instr.index 9 (.string (mk l)) (.int .i64 ((a : Int) + 1))).run Tryd.prog W = .ok (.int .u8 110) W := i1
            clear hx
            go_enter Tryd.func54, Tryd.ntmps54
            go_wp2
            go_ret2
            exact ⟨by rw [HR.out]; rfl, 0, rfl⟩
          · by_cases hd2 : d = 116
            · subst hd2
              have i1 : ∀ W, (Instr.index 9 (.string (mk l)) (.int .i64 ((a : Int) + 1))).run Tryd.prog W = .ok (.int .u8 116) W := i1
              clear hx
              go_enter Tryd.func54, Tryd.ntmps54
              go_wp2
              go_ret2
              exact ⟨by rw [HR.out]; rfl, 0, rfl⟩
            · by_cases hd3 : d = 34
              · subst hd3
                have i1 : ∀ W, (Instr.index 9 (.string (mk l)) (.int .i64 ((a : Int) + 1))).run Tryd.prog W = .ok (.int .u8 34) W := i1
                clear hx
                go_enter Tryd.func54, Tryd.ntmps54
                go_wp2
                go_ret2
                exact ⟨by rw [HR.out]; rfl, 0, rfl⟩
              · by_cases hd4 : d = 92
                · subst hd4
                  have i1 : ∀ W, (Instr.index 9 (.string (mk l)) (.int .i64 ((a : Int) + 1))).run Tryd.prog W = .ok (.int .u8 92) W := i1
                  clear hx
                  go_enter Tryd.func54, Tryd.ntmps54
                  go_wp2
                  go_ret2
                  exact ⟨by rw [HR.out]; rfl, 0, rfl⟩
                · have HQ : Hid (nmQ d = (0, 0)) := by show nmQ d = (0, 0); unfold nmQ; rw [if_neg hd1, if_neg hd2, if_neg (by rintro (e | e); exact hd3 e; exact hd4 e)]
                  have n1 : ¬ (d.toNat : Int) = 110 := fun e => hd1 ((u8_eq (n := 110) (by omega)).1 e)
                  have n2 : ¬ (d.toNat : Int) = 116 := fun e => hd2 ((u8_eq (n := 116) (by omega)).1 e)
                  have n3 : ¬ (d.toNat : Int) = 34 := fun e => hd3 ((u8_eq (n := 34) (by omega)).1 e)
                  have n4 : ¬ (d.toNat : Int) = 92 := fun e => hd4 ((u8_eq (n := 92) (by omega)).1 e)
                  by_cases hd5 : d = 120
                  · subst hd5
                    have i1 : ∀ W, (Instr.index 9 (.string (mk l)) (.int .i64 ((a : Int) + 1))).run Tryd.prog W = .ok (.int .u8 120) W := i1
                    have q3 : ¬ (a : Int) + 3 < (l.length : Int) := fun e => hx ⟨by omega, rfl⟩
                    clear hx n1 n2 n3 n4 hd1 hd2 hd3 hd4
                    go_enter Tryd.func54, Tryd.ntmps54
                    go_wp2
                    go_ret2
                    exact ⟨by rw [HR.out, HQ.out]; rfl, 0, rfl⟩
                  · have n5 : ¬ (d.toNat : Int) = 120 := fun e => hd5 ((u8_eq (n := 120) (by omega)).1 e)
                    clear hx hd1 hd2 hd3 hd4 hd5
                    go_enter Tryd.func54, Tryd.ntmps54
                    go_wp2
                    go_ret2
                    exact ⟨by rw [HR.out, HQ.out]; rfl, 0, rfl⟩
      · have q2 : (l.length : Int) ≤ (a : Int) + 1 := by omega
        have HR := hid (pc_short hg0 (by omega))
        clear hg0 hg1 hg2 hg3 hdl
        go_enter Tryd.func54, Tryd.ntmps54
        go_wp2
        go_ret2
        exact ⟨by rw [HR.out]; rfl, 0, rfl⟩
    · have n9 : ¬ (z.toNat : Int) = 92 := fun e => h92 ((u8_eq (n := 92) (by omega)).1 e)
      cases hp : plB z with
      | true =>
        have HR := hid (pc_plain (by omega) hg0 hp)
        have hpz : 32 ≤ (z.toNat : Int) ∧ (z.toNat : Int) ≤ 126 ∧ ¬ (z.toNat : Int) = 34 := by
          unfold plB plI at hp
          have := of_decide_eq_true hp
          omega
        obtain ⟨p1, p2, p3⟩ := hpz
        have p4 : ((z.toNat : Int) == 34) = false := by simpa using p3
        clear hg0 hg1 hg2 hg3 hdl hp h92
        go_enter Tryd.func54, Tryd.ntmps54
        go_wp2
        go_ret2
        exact ⟨by rw [HR.out]; rfl, 0, rfl⟩
      | false =>
        have HR := hid (pc_other hg0 hp h92)
        have hpz : (z.toNat : Int) < 32 ∨ (¬ (z.toNat : Int) < 32 ∧ 126 < (z.toNat : Int)) ∨ (¬ (z.toNat : Int) < 32 ∧ ¬ 126 < (z.toNat : Int) ∧ (z.toNat : Int) = 34) := by
          unfold plB plI at hp
          have := of_decide_eq_false hp
          omega
        clear hg0 hg1 hg2 hg3 hdl hp h92
        go_enter Tryd.func54, Tryd.ntmps54
        rcases hpz with p1 | ⟨p1, p2⟩ | ⟨p1, p2, p3⟩
        · go_wp2
          go_ret2
          exact ⟨by rw [HR.out]; rfl, 0, rfl⟩
        · go_wp2
          go_ret2
          exact ⟨by rw [HR.out]; rfl, 0, rfl⟩
        · rw [p3] at i0
          clear p1 p2 n9 p3
          go_wp2
          go_ret2
          exact ⟨by rw [HR.out]; rfl, 0, rfl⟩
  · have q1 : (l.length : Int) ≤ (a : Int) := by omega
    have HR : Hid (pcP (l.drop a) = (0, 0)) := by show pcP _ = _; rw [List.drop_eq_nil_of_le (by omega)]; rfl
    clear hg0 hg1 hg2 hg3 hdl
    go_enter Tryd.func54, Tryd.ntmps54
    go_wp2
    go_ret2
    exact ⟨by rw [HR.out]; rfl, 0, rfl⟩

end Go.Proofs.YtjjajfipfeigiabDoor

/- The program's token at a source's beginning; Next. -/
namespace Go.Proofs.YtjjajfipfeigiabDoor
open Go.RowKit

/-- a token's three numbers -/
def tokV (t : Nat × Nat × Int) : Value := .tuple #[.int .i64 t.1, .int .i64 t.2.1, .int .i64 t.2.2]
theorem Tabs.drewN {w : World} (h : Tabs w) (n : Nat) : Tabs (w.drewN n) := ⟨h.signs, h.keys, h.low⟩

set_option maxHeartbeats 2000000 in
theorem token_any (l : List UInt8) (hl : l.length ≤ 140737488355328) (w : World) (hT : Tabs w) :
    Calls Tryd.prog 60 #[.string (mk l)] w fun e w' => e = .returned (tokV (tokP l)) ∧ ∃ n, w' = w.drewN n := by
  by_cases h0 : l.length = 0
  · obtain rfl : l = [] := List.length_eq_zero_iff.1 h0
    have f1 : ((mk []).toList == ([] : List UInt8)) = true := by rw [tl_mk]; rfl
    have f2 : (mk []).toList.isEmpty = true := by rw [tl_mk]; rfl
    clear h0 hl
    go_enter Tryd.func60, Tryd.ntmps60
    go_wp2
    go_ret3
    exact ⟨rfl, 0, rfl⟩
  · have hn0 := h0
    have h0 : 0 < l.length := by omega
    have f1 : ((mk l).toList == ([] : List UInt8)) = false := by rw [tl_mk]; cases l <;> simp at h0 ⊢
    have f2 : (mk l).toList.isEmpty = false := by rw [tl_mk]; cases l <;> simp at h0 ⊢
    have i0 := at_mk l 0 h0
    obtain ⟨z, HZ⟩ : ∃ z : UInt8, Hid (l.getD 0 0 = z) := ⟨_, rfl⟩
    rw [HZ.out] at i0
    have i0 : ∀ W, (Instr.index 9 (.string (mk l)) (.int .i64 0)).run Tryd.prog W = .ok (.int .u8 (z.toNat : Nat)) W := i0
    have H1 := hid (letter_any (z.toNat : Nat))
    have H2 := hid (digit_any (z.toNat : Nat))
    have HT := hid hT
    clear hT
    cases h1 : ltI (z.toNat : Nat) with
    | true =>
      rw [h1] at H1
      have hc : ltB (l.getD 0 0) = true := by rw [HZ.out]; exact h1
      have HR : Hid (tokP l = wdP l) := by show tokP l = _; unfold tokP; rw [if_neg hn0, if_pos hc]
      have H3 := hid (word_any l hl h0 hc w HT.out)
      obtain ⟨⟨r1, r2, r3⟩, HQ⟩ : ∃ r, Hid (wdP l = r) := ⟨_, rfl⟩
      rw [HQ.out] at H3 HR
      clear h1 hc hn0
      go_enter Tryd.func60, Tryd.ntmps60
      go_wp2_with first
        | (go_at_call 73; refine (H1.out _).mono ?_; rintro e w' ⟨rfl, rfl⟩)
        | (go_at_call 74; refine H3.out.mono ?_; rintro e w' ⟨rfl, rfl⟩)
      go_ret3
      exact ⟨by rw [HR.out]; rfl, 0, rfl⟩
    | false =>
      rw [h1] at H1
      have hc1 : ¬ ltB (l.getD 0 0) = true := by rw [HZ.out]; unfold ltB; rw [h1]; simp
      clear h1
      cases h2 : dgI (z.toNat : Nat) with
      | true =>
        rw [h2] at H2
        have hc : dgB (l.getD 0 0) = true := by rw [HZ.out]; exact h2
        have HR : Hid (tokP l = nuP l) := by show tokP l = _; unfold tokP; rw [if_neg hn0, if_neg hc1, if_pos hc]
        have H3 := hid (number_any l hl h0 hc)
        obtain ⟨⟨r1, r2, r3⟩, HQ⟩ : ∃ r, Hid (nuP l = r) := ⟨_, rfl⟩
        rw [HQ.out] at H3 HR
        clear h2 hc hc1 hn0
        go_enter Tryd.func60, Tryd.ntmps60
        go_wp2_with first
          | (go_at_call 73; refine (H1.out _).mono ?_; rintro e w' ⟨rfl, rfl⟩)
          | (go_at_call 75; refine (H2.out _).mono ?_; rintro e w' ⟨rfl, rfl⟩)
          | (go_at_call 76; refine (H3.out _).mono ?_; rintro e w' ⟨rfl, rfl⟩)
        go_ret3
        exact ⟨by rw [HR.out]; rfl, 0, rfl⟩
      | false =>
        rw [h2] at H2
        have hc2 : ¬ dgB (l.getD 0 0) = true := by rw [HZ.out]; unfold dgB; rw [h2]; simp
        clear h2
        by_cases h34 : z = 34
        · have HR : Hid (tokP l = tqP l) := by show tokP l = _; unfold tokP; rw [if_neg hn0, if_neg hc1, if_neg hc2, if_pos (by rw [HZ.out]; exact h34)]
          subst h34
          have H3 := hid (text_any l hl h0)
          obtain ⟨⟨r1, r2, r3⟩, HQ⟩ : ∃ r, Hid (tqP l = r) := ⟨_, rfl⟩
          rw [HQ.out] at H3 HR
          have i0 : ∀ W, (Instr.index 9 (.string (mk l)) (.int .i64 0)).run Tryd.prog W = .ok (.int .u8 34) W := i0
          clear hc1 hc2 hn0
          go_enter Tryd.func60, Tryd.ntmps60
          go_wp2_with first
            | (go_at_call 73; refine (H1.out _).mono ?_; rintro e w' ⟨rfl, rfl⟩)
            | (go_at_call 75; refine (H2.out _).mono ?_; rintro e w' ⟨rfl, rfl⟩)
            | (go_at_call 77; refine (H3.out _).mono ?_; rintro e w' ⟨rfl, m, rfl⟩)
          go_ret3
          exact ⟨by rw [HR.out]; rfl, _, rfl⟩
        · have n4 : ¬ (z.toNat : Int) = 34 := fun e => h34 ((u8_eq (n := 34) (by omega)).1 e)
          have HR : Hid (tokP l = sqP l) := by show tokP l = _; unfold tokP; rw [if_neg hn0, if_neg hc1, if_neg hc2, if_neg (by rw [HZ.out]; exact h34)]
          have H3 := hid (sign_any l w HT.out)
          obtain ⟨⟨r1, r2, r3⟩, HQ⟩ : ∃ r, Hid (sqP l = r) := ⟨_, rfl⟩
          rw [HQ.out] at H3 HR
          clear hc1 hc2 hn0 h34
          go_enter Tryd.func60, Tryd.ntmps60
          go_wp2_with first
            | (go_at_call 73; refine (H1.out _).mono ?_; rintro e w' ⟨rfl, rfl⟩)
            | (go_at_call 75; refine (H2.out _).mono ?_; rintro e w' ⟨rfl, rfl⟩)
            | (go_at_call 78; refine H3.out.mono ?_; rintro e w' ⟨rfl, rfl⟩)
          go_ret3
          exact ⟨by rw [HR.out]; rfl, 0, rfl⟩

/-- is it a source, and a place in it? -/
def plN (l : List UInt8) (a : Int) : Int := if 65536 < l.length then 3 else if a < 0 ∨ (l.length : Int) < a then 1 else 0

set_option maxHeartbeats 1000000 in
theorem place_any (l : List UInt8) (a : Int) (w : World) :
    Calls Tryd.prog 58 #[.string (mk l), .int .i64 a] w fun e w' => e = .returned (.int .i64 (plN l a)) ∧ w' = w := by
  have hsz := mk_size l
  go_enter Tryd.func58, Tryd.ntmps58
  go_wp2
  all_goals go_ret
  all_goals refine ⟨ret_i ?_, rfl⟩
  all_goals unfold plN
  all_goals repeat' split
  all_goals first
    | rfl
    | (exfalso; omega)

end Go.Proofs.YtjjajfipfeigiabDoor

/- The program's Next. -/
namespace Go.Proofs.YtjjajfipfeigiabDoor
open Go.RowKit

theorem results_cell2 {fn : Func} {p q : Tmp} {ty : TypeId} (h : fn.results = #[.cell p ty, .tmp q]) (tmps : Array Value) (P : Program) (w : World) :
    (results fn tmps).run P w = ((asAddr (tmps.getD p undef)).run P w).andThen fun a w₁ => ((loadVar ty a).run P w₁).andThen fun v w₂ => .ok (.tuple #[v, tmps.getD q undef]) w₂ := by
  simp only [results, h]
  simp [Sem.run_bind, Result.andThen]
/-- the answer is a whole row that lies in a variable, and a number -/
theorem ret_row2 {P : Program} {fn : Func} {R : Ending → World → Prop} {a : Act} {w : World} (p q : Tmp) (ty : TypeId) (h : fn.results = #[.cell p ty, .tmp q]) (g : Nat) (hp : a.tmps.getD p undef = .pointer (some ⟨g, 0, none⟩))
    (cs : List Value) (t : TypeId) (hb : w.heap[g]? = some (.cells cs.toArray t (0, 0))) (d : TypeDesc) (hu : P.underlying ty = some d) (hd : d.isRow = true) (hi : (P.info? ty).map (·.size) = some cs.length)
    (v : Value) (hq : a.tmps.getD q undef = v) (hdf : a.defers = []) (hR : R (.returned (.tuple #[.agg cs.toArray, v])) w) : bodyPost P fn R .ret a w := by
  refine bodyPost_ret (v := .tuple #[.agg cs.toArray, v]) ?_ hdf hR
  rw [results_cell2 h, hp, hq]
  have := run_loadVar_mid (P := P) w g 0 ty cs d (fun j v hv => by rw [Nat.zero_add, cell_of_row w g j cs.toArray t (0, 0) hb]; simpa using hv) hu hd hi
  simp [asAddr, this]

/-- a token's cells -/
def tkC (t : Nat × Nat × Nat) : List Value := [.int .i64 t.1, .int .i64 t.2.1, .int .i64 t.2.2]
theorem tkC_one (t : Nat × Nat × Nat) : ∀ v ∈ tkC t, v.oneCell' = true := by
  intro v hv
  simp only [tkC, List.mem_cons, List.not_mem_nil, or_false] at hv
  rcases hv with rfl | rfl | rfl <;> rfl
theorem below_rs {w W w2 : World} {g : Nat} {cs : List Value} {t : TypeId} (h : RowSet W w2 g cs t) (hb : Below w.heap.size w W) (hg : w.heap.size ≤ g) : Below w.heap.size w w2 :=
  ⟨h.grown.os.trans hb.os, h.grown.tape.trans hb.tape, h.grown.output.trans hb.output, Nat.le_trans hb.size h.grown.size, fun k hk => by
    rw [h.grown.block k (Nat.lt_of_lt_of_le hk hb.size) (by simp; omega)]; exact hb.block k hk⟩

theorem below_drewN {B : Nat} {a w : World} (h : Below B a w) (n : Nat) : Below B a (w.drewN n) := ⟨h.os, h.tape, h.output, h.size, h.block⟩

/-- what Next answers -/
def nxP (l : List UInt8) (a : Int) : (Nat × Nat × Nat) × Int :=
  if plN l a ≠ 0 then ((0, 0, 0), plN l a)
  else if (tkP l a.toNat).2.2 ≠ 0 then ((0, frP l a.toNat, 0), (tkP l a.toNat).2.2)
  else (((tkP l a.toNat).1, frP l a.toNat, frP l a.toNat + (tkP l a.toNat).2.1), 0)

theorem Tryd.infoTok : (Tryd.prog.info? 34).map (·.size) = some 3 := by kernel_rfl
theorem Tryd.rowTok : ∃ d, Tryd.prog.underlying 34 = some d ∧ d.isRow = true := ⟨_, Tryd.underlying34, rfl⟩

set_option maxRecDepth 20000 in
set_option maxHeartbeats 2000000 in
theorem next_any (l : List UInt8) (hl : l.length ≤ 140737488355328) (a : Int) (w : World) (hT : Tabs w) :
    Calls Tryd.prog 40 #[.string (mk l), .int .i64 a] w fun e w' => e = .returned (.tuple #[.agg (tkC (nxP l a).1).toArray, .int .i64 (nxP l a).2]) ∧ Below w.heap.size w w' := by
  obtain ⟨d, hu, hd⟩ := Tryd.rowTok
  have H1 := hid (place_any l a)
  by_cases hp : plN l a ≠ 0
  · have HR : Hid (nxP l a = ((0, 0, 0), plN l a)) := by show nxP l a = _; unfold nxP; rw [if_pos hp]
    obtain ⟨p, HP⟩ : ∃ p, Hid (plN l a = p) := ⟨_, rfl⟩
    rw [HP.out] at H1 HR hp
    have hp0 : ¬ p = 0 := hp
    clear hp
    go_enter Tryd.func40, Tryd.ntmps40
    go_wp2_with first
      | (go_at_call 58; refine (H1.out _).mono ?_; rintro e w' ⟨rfl, rfl⟩)
      | (refine st_row (by rfl) 34 (.tmp 4) (.tmp 16) (by rfl) _ (tkC (0, 0, 0)) (by rfl) (by rfl) 34 _ (hp_new _ _) (by exact Tryd.infoTok) (by rfl) (tkC_one _) ?_; intro w2 hw2)
    refine ret_row2 4 5 34 rfl _ rfl _ _ hw2.blk d hu hd Tryd.infoTok _ rfl rfl ⟨?_, below_rs hw2 (below_walk _ _) (Nat.le_refl _)⟩
    rw [HR.out]
    rfl
  · have hp : plN l a = 0 := by simpa using hp
    rw [hp] at H1
    have hpl : 0 ≤ a ∧ a ≤ (l.length : Int) ∧ l.length ≤ 65536 := by
      unfold plN at hp
      split at hp
      · simp at hp
      · split at hp
        · simp at hp
        · omega
    obtain ⟨k, rfl⟩ : ∃ k : Nat, a = (k : Int) := ⟨a.toNat, by omega⟩
    have hk : k ≤ l.length := by omega
    have hR : nxP l (k : Int) = if (tkP l k).2.2 ≠ 0 then ((0, frP l k, 0), (tkP l k).2.2) else (((tkP l k).1, frP l k, frP l k + (tkP l k).2.1), 0) := by
      unfold nxP
      rw [if_neg (by rw [hp]; simp)]
      simp only [Int.toNat_natCast]
    have hf := frP_le hk
    have s1 := sl_from l k hk
    have H2 := hid (gap_any (l.drop k) (by rw [List.length_drop]; omega))
    obtain ⟨g, HG⟩ : ∃ g, Hid (gapP (l.drop k) = g) := ⟨_, rfl⟩
    have hfg : frP l k = k + g := by unfold frP; rw [HG.out]
    rw [HG.out] at H2
    have s2 := sl_from l (k + g) (by omega)
    rw [show ((k + g : Nat) : Int) = (k : Int) + (g : Int) by omega] at s2
    have H3 : Hid (∀ w, Tabs w → Calls Tryd.prog 60 #[.string (mk (l.drop (k + g)))] w fun e w' => e = .returned (tokV (tkP l k)) ∧ ∃ n, w' = w.drewN n) := by
      intro w hT
      have := token_any (l.drop (k + g)) (by rw [List.length_drop]; omega) w hT
      rw [← hfg] at this
      rw [← hfg]
      exact this
    have hv := tk_view hk
    have hlen : (k : Int) + (g : Int) ≤ 65536 := by omega
    have hsm : l.length ≤ 65536 := hpl.2.2
    have HT := hid hT
    have HFG := hid hfg
    rw [hfg] at hR hf hv
    clear hp hpl hT hfg
    rcases hv with ⟨v1, v2⟩ | ⟨v1, e, v2, v3, v4⟩ | ⟨kk, n, v1, v2, v3, v4, v5⟩
    · rw [v2, if_neg (by simp)] at hR
      rw [v2] at H3
      have HR := hid hR
      clear hR v1 v2
      unfold tokV at H3
      go_enter Tryd.func40, Tryd.ntmps40
      go_wp2_with first
        | (go_at_call 58; refine (H1.out _).mono ?_; rintro e w' ⟨rfl, rfl⟩)
        | (go_at_call 59; refine (H2.out _).mono ?_; rintro e w' ⟨rfl, rfl⟩)
        | (go_at_call 60; refine (H3.out _ (HT.out.below (below_walk _ _))).mono ?_; rintro e w' ⟨rfl, m, rfl⟩)
        | (refine st_row (by rfl) 34 (.tmp 4) (.tmp 42) (by rfl) _ (tkC (0, k + g, k + g)) (by rfl) (by simp [Act.eval, tkC]) 34 _ (by exact hp_new _ _) (by exact Tryd.infoTok) (by rfl) (tkC_one _) ?_; intro w2 hw2)
      refine ret_row2 4 5 34 rfl _ rfl _ _ hw2.blk d hu hd Tryd.infoTok _ rfl rfl ⟨?_, below_rs hw2 (below_drewN (below_walk _ _) _) (Nat.le_refl _)⟩
      rw [HR.out]
      rfl
    · have he : e ≠ 0 := by omega
      rw [v4, if_pos he] at hR
      rw [v4] at H3
      have HR := hid hR
      have he0 : ¬ e = 0 := he
      clear hR v1 v2 v3 v4 he
      unfold tokV at H3
      go_enter Tryd.func40, Tryd.ntmps40
      go_wp2_with first
        | (go_at_call 58; refine (H1.out _).mono ?_; rintro e1 w' ⟨rfl, rfl⟩)
        | (go_at_call 59; refine (H2.out _).mono ?_; rintro e1 w' ⟨rfl, rfl⟩)
        | (go_at_call 60; refine (H3.out _ (HT.out.below (below_walk _ _))).mono ?_; rintro e1 w' ⟨rfl, m, rfl⟩)
        | (refine st_row (by rfl) 34 (.tmp 4) (.tmp 35) (by rfl) _ (tkC (0, k + g, 0)) (by rfl) (by simp [Act.eval, tkC]) 34 _ (by exact hp_new _ _) (by exact Tryd.infoTok) (by rfl) (tkC_one _) ?_; intro w2 hw2)
      refine ret_row2 4 5 34 rfl _ rfl _ _ hw2.blk d hu hd Tryd.infoTok _ rfl rfl ⟨?_, below_rs hw2 (below_drewN (below_walk _ _) _) (Nat.le_refl _)⟩
      rw [HR.out]
      rfl
    · rw [v1, if_neg (by simp)] at hR
      rw [v1] at H3
      have HR := hid hR
      have hnl : (k : Int) + (g : Int) + (n : Int) ≤ 65536 := by omega
      clear hR v1 v2 v3 v4 v5
      unfold tokV at H3
      go_enter Tryd.func40, Tryd.ntmps40
      go_wp2_with first
        | (go_at_call 58; refine (H1.out _).mono ?_; rintro e w' ⟨rfl, rfl⟩)
        | (go_at_call 59; refine (H2.out _).mono ?_; rintro e w' ⟨rfl, rfl⟩)
        | (go_at_call 60; refine (H3.out _ (HT.out.below (below_walk _ _))).mono ?_; rintro e w' ⟨rfl, m, rfl⟩)
        | (refine st_row (by rfl) 34 (.tmp 4) (.tmp 42) (by rfl) _ (tkC (kk, k + g, k + g + n)) (by rfl) (by simp [Act.eval, tkC]) 34 _ (by exact hp_new _ _) (by exact Tryd.infoTok) (by rfl) (tkC_one _) ?_; intro w2 hw2)
      refine ret_row2 4 5 34 rfl _ rfl _ _ hw2.blk d hu hd Tryd.infoTok _ rfl rfl ⟨?_, below_rs hw2 (below_drewN (below_walk _ _) _) (Nat.le_refl _)⟩
      rw [HR.out]
      rfl

end Go.Proofs.YtjjajfipfeigiabDoor

/- The document's texts: a quoted one at a place. -/
namespace Go.Proofs.YtjjajfipfeigiabDoor
open Go.RowKit

/-- bytes in a row that was made last -/
theorem src_made (w : World) (cs : List UInt8) (hl : cs.length ≤ 1000) : Src (w.alloc (.cells (bytesV cs).toArray 5)) (.slice (some ⟨w.heap.size, 0, none⟩) cs.length cs.length) cs := by
  refine ⟨by omega, Or.inr ⟨⟨w.heap.size, 0, none⟩, cs.length, rfl, Nat.le_refl _, by unfold maxLen; omega, fun _ => by rw [hp_size]; exact Nat.lt_succ_self _, fun j hj => ?_⟩⟩
  rw [addr_add, cell_of_row _ _ _ _ _ _ (hp_new _ _)]
  have : (bytesV cs)[j]? = some (.int .u8 ((cs.getD j 0).toNat : Nat)) := by
    rw [bytesV_get, List.getD_eq_getElem?_getD, List.getElem?_eq_getElem hj]; rfl
  simpa using this

/-- what quoted answers -/
def quV (l : List UInt8) (a : Nat) : Value :=
  match txP (l.drop (a + 1)) with
  | none => .tuple #[.string ⟨#[]⟩, .int .i64 (-1)]
  | some r => if 4096 < r.1.length then .tuple #[.string ⟨#[]⟩, .int .i64 (-1)] else .tuple #[.string (mk r.1), .int .i64 ((a + 1 + r.2 : Nat) : Int)]
/-- a text read so far: its value v, up to byte i -/
def Tz (l : List UInt8) (a i : Nat) (v : List UInt8) : Prop := a + 1 ≤ i ∧ i ≤ l.length ∧ v.length ≤ i ∧ txP (l.drop (a + 1)) = (txP (l.drop i)).map (fun x => (v ++ x.1, i - (a + 1) + x.2))
theorem Tz.zero {l : List UInt8} {a : Nat} (h : a < l.length) : Tz l a (a + 1) [] := ⟨Nat.le_refl _, h, Nat.zero_le _, by cases txP (l.drop (a + 1)) <;> simp⟩
theorem Tz.more {l : List UInt8} {a i k : Nat} {c : UInt8} {v : List UInt8} (h : Tz l a i v) (hq : ¬ l.getD i 0 = 34) (hp : pcP (l.drop i) = (c, k)) (hk : k ≠ 0) : Tz l a (i + k) (v ++ [c]) := by
  obtain ⟨h1, h2, h3, hx⟩ := h
  have hle := pcP_le (l.drop i)
  rw [hp, List.length_drop] at hle
  simp only at hle
  refine ⟨by omega, by omega, by simp; omega, ?_⟩
  have hq' : ¬ (l.drop i).getD 0 0 = 34 := by rw [drop_getD]; exact hq
  rw [hx, txP_step hq' (by rw [hp]; exact hk), hp, List.drop_drop]
  cases txP (l.drop (i + k)) with
  | none => rfl
  | some x =>
    simp only [Option.map_some, List.append_assoc, List.singleton_append]
    congr 2
    omega
theorem Tz.ends {l : List UInt8} {a i : Nat} {v : List UInt8} (h : Tz l a i v) (hq : l.getD i 0 = 34) : quV l a = if 4096 < v.length then .tuple #[.string ⟨#[]⟩, .int .i64 (-1)] else .tuple #[.string (mk v), .int .i64 ((i : Int) + 1)] := by
  obtain ⟨h1, h2, _, hx⟩ := h
  rw [txP_quote (l := l.drop i) (by rw [drop_getD]; exact hq)] at hx
  unfold quV
  rw [hx]
  simp only [Option.map_some, List.append_nil]
  have e : ((a + 1 + (i - (a + 1) + 1) : Nat) : Int) = (i : Int) + 1 := by omega
  rw [e]
theorem Tz.bad {l : List UInt8} {a i : Nat} {v : List UInt8} (h : Tz l a i v) (hq : ¬ l.getD i 0 = 34) (hp : (pcP (l.drop i)).2 = 0) : quV l a = .tuple #[.string ⟨#[]⟩, .int .i64 (-1)] := by
  obtain ⟨h1, h2, _, hx⟩ := h
  rw [txP_bad (l := l.drop i) (by rw [drop_getD]; exact hq) hp] at hx
  unfold quV
  rw [hx]
  rfl

set_option maxHeartbeats 2000000 in
theorem quoted_any (l : List UInt8) (a : Nat) (ha : a < l.length) (hl : l.length ≤ 140737488351232) (w : World) :
    Calls Tryd.prog 34 #[.string (mk l), .int .i64 (a : Nat)] w fun e w' => e = .returned (quV l a) ∧ Below w.heap.size w w' := by
  have hsz := mk_size l
  have H0 := hid (Tz.zero ha)
  go_enter Tryd.func34, Tryd.ntmps34
  go_wp2
  go_loopw [6, 7] (fun x i wr => ∃ (k : Nat) (v : List UInt8), i = .int .i64 k ∧ Tz l a k v ∧ OwnB wr w.heap.size x v ∧ Below w.heap.size w wr) (fun _ i _ => l.length - (intOf i).toNat)
  case atStart => exact ⟨a + 1, [], by simp, H0.out, OwnB.nil _ _, Below.refl _ _⟩
  case round =>
    obtain ⟨i, v, rfl, HT, HO, HB⟩ := hrel
    have HT : Hid (Tz l a i v) := HT
    have HO : Hid (OwnB wr w.heap.size _ v) := HO
    have HB : Hid (Below w.heap.size w wr) := HB
    have hi := HT.out.2.1
    have hvl := HT.out.2.2.1
    obtain ⟨sa, sc, rfl⟩ := HO.out.shape
    by_cases hq : l.getD i 0 = 34
    · have hil : i < l.length := by
        rcases Nat.lt_or_ge i l.length with h | h
        · exact h
        · rw [List.getD_eq_getElem?_getD, List.getElem?_eq_none h] at hq
          exact absurd hq (by decide)
      have q2 : (i : Int) < (l.length : Int) := by omega
      have i1 := at_mk l i hil
      rw [hq] at i1
      have i1 : ∀ W, (Instr.index 9 (.string (mk l)) (.int .i64 (i : Int))).run Tryd.prog W = .ok (.int .u8 34) W := i1
      have FIN := HT.out.ends hq
      by_cases hv : 4096 < v.length
      · rw [if_pos hv] at FIN
        have FIN := hid FIN
        have q3 : (4096 : Int) < (v.length : Int) := by omega
        clear hq
        go_wp2
        go_ret2
        exact ⟨by rw [FIN.out]; rfl, HB.out⟩
      · rw [if_neg hv] at FIN
        have FIN := hid FIN
        have q3 : ¬ (4096 : Int) < (v.length : Int) := by omega
        have r1 := run_str (HO.out.src (by omega))
        have HRS : Hid ((convert 39 9 (.slice sa v.length sc)).run Tryd.prog wr = .ok (.string (mk v)) wr) := r1
        have r1 := HRS.out
        clear hq
        go_wp2
        go_ret2
        exact ⟨by first | rfl | (rw [FIN.out]; rfl), HB.out⟩
    · have HQ := hid hq
      have H1 := hid (rpiece_any l i hi (by omega))
      obtain ⟨⟨c, k⟩, HP⟩ : ∃ r, Hid (pcP (l.drop i) = r) := ⟨_, rfl⟩
      rw [HP.out] at H1
      have hg : ¬ (i : Int) < (l.length : Int) ∨ ((i : Int) < (l.length : Int) ∧ ∃ z : UInt8, l.getD i 0 = z ∧ ((z.toNat : Int) == 34) = false) := by
        by_cases h : i < l.length
        · refine Or.inr ⟨by omega, l.getD i 0, rfl, ?_⟩
          simp only [beq_eq_false_iff_ne, ne_eq]
          exact fun e => hq ((u8_eq (n := 34) (by omega)).1 e)
        · exact Or.inl (by omega)
      by_cases hk : k = 0
      · subst hk
        have FIN := hid (HT.out.bad hq (by rw [HP.out]))
        clear hq
        rcases hg with q2 | ⟨q2, z, hz, n4⟩
        · go_wp2_with (go_at_call 54; refine (H1.out _).mono ?_; rintro e w' ⟨rfl, m, rfl⟩)
          go_ret2
          exact ⟨by rw [FIN.out]; rfl, ⟨HB.out.os, HB.out.tape, HB.out.output, HB.out.size, HB.out.block⟩⟩
        · have i1 := at_mk l i (by omega)
          rw [hz] at i1
          clear hz
          go_wp2_with (go_at_call 54; refine (H1.out _).mono ?_; rintro e w' ⟨rfl, m, rfl⟩)
          go_ret2
          exact ⟨by rw [FIN.out]; rfl, ⟨HB.out.os, HB.out.tape, HB.out.output, HB.out.size, HB.out.block⟩⟩
      · have HM := hid (HT.out.more hq HP.out hk)
        have hml := HM.out.2.1
        have n5 : ¬ (k : Int) = 0 := by omega
        clear hq
        rcases hg with q2 | ⟨q2, z, hz, n4⟩
        · exfalso; omega
        · have i1 := at_mk l i (by omega)
          rw [hz] at i1
          clear hz
          go_wp2_with first
            | (go_at_call 54; refine (H1.out _).mono ?_; rintro e w' ⟨rfl, m, rfl⟩)
            | (refine app_src (by rfl) (.tmp 37) (.tmp 39) (by rfl) w.heap.size _ v (by rfl) ((HO.out.below (below_drewN (Below.refl _ _) m)).below (below_walk _ _)) _ [c] (by rfl) (src_made _ [c] (by simp)) (by simp; omega) (by rw [hp_size]; have := HB.out.size; exact Nat.le_succ_of_le this) ?_
               intro v' w4 ho hg
               have HO4 := hid ho
               have HB4 : Hid (Below w.heap.size w w4) := ((below_drewN HB.out m).trans ((below_walk (wr.drewN m) _).mono HB.out.size)).grown hg (by rw [hp_size]; have := HB.out.size; exact Nat.le_succ_of_le this) (fun q hq => (HO.out.lt q hq).1)
               obtain ⟨sa2, sc2, rfl⟩ := HO4.out.shape
               have HL4 : Hid ((v ++ [c]).length = v.length + 1) := by show _ = _; simp
               rw [HL4.out]
               rw [HL4.out] at HO4
               clear ho hg)
          exact ⟨⟨i + k, v ++ [c], by simp, HM.out, HO4.out, HB4.out⟩, by simp [intOf]; omega⟩

end Go.Proofs.YtjjajfipfeigiabDoor

/- Contracts of the library, laid over this dump. -/
namespace Go.Proofs
open Go.Shelf
def Tryd.lays169_ren : Go.Shelf.Ren := ⟨fun | 169 => 64 | n => n, fun | 70 => 113 | 9 => 9 | 0 => 0 | 72 => 115 | 37 => 39 | 127 => 131 | 3 => 3 | 5 => 5 | n => n, fun | n => n⟩
theorem Tryd.lays169 : Go.Proofs.Lays.n169 Tryd.prog Tryd.lays169_ren := {
  mixed := by kernel_rfl
  f169 := Tryd.func64.trans (congrArg some (by kernel_rfl))
  t0 := Tryd.underlying0
  a0 := Tryd.isAgg0
  z0 := Tryd.sizeOf0
  v0 := Tryd.zeroValue0
  t3 := Tryd.underlying3
  a3 := Tryd.isAgg3
  z3 := Tryd.sizeOf3
  v3 := Tryd.zeroValue3
  t9 := Tryd.underlying9
  a9 := Tryd.isAgg9
  z9 := Tryd.sizeOf9
  v9 := Tryd.zeroValue9
  t37 := Tryd.underlying39
  a37 := Tryd.isAgg39
  z37 := Tryd.sizeOf39
  v37 := Tryd.zeroValue39
  t70 := Tryd.underlying113
  a70 := Tryd.isAgg113
  z70 := Tryd.sizeOf113
  v70 := Tryd.zeroValue113
  t72 := Tryd.underlying115
  a72 := Tryd.isAgg115
  z72 := Tryd.sizeOf115
  v72 := Tryd.zeroValue115
  t127 := Tryd.underlying131
  a127 := Tryd.isAgg131
  z127 := Tryd.sizeOf131
  v127 := Tryd.zeroValue131 }
theorem Tryd.Builder_Extra_169 : Builder.Extra Tryd.prog Tryd.lays169_ren := {
  sizeBuilder := by kernel_rfl
  liesBuilder := by kernel_rfl
  t5 := Tryd.underlying5
  a5 := Tryd.isAgg5
  z5 := Tryd.sizeOf5
  v5 := Tryd.zeroValue5
  infoByte := by kernel_rfl
  cellsByte := by kernel_rfl
  sizeByte := by kernel_rfl
  neB5 := by decide }
open Go.RowKit in
theorem Tryd.Builder_String_any_k (B b : Nat) (l : List UInt8) (w : World) (h : Lib.IsBuilderF 115 5 B b (Lib.byteCells l) w) (hBw : B ≤ w.heap.size) :
    Calls Tryd.prog 64 #[.pointer (some ⟨b, 0, none⟩)] w fun e w' => e = .returned (.string ⟨l.toArray⟩) ∧ (Lib.IsBuilderF 115 5 B b (Lib.byteCells l) w' ∧ Below B w w' ∧ Lib.OthersKept 5 (some b) w w') := Any.Builder_String_any_k Tryd.lays169 Tryd.Builder_Extra_169 B b l w h hBw
end Go.Proofs
