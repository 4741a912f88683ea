/- The order of paths. -/
import Derived.Test.YtoehopigjmmagaaDoorPAbove
namespace Go.Proofs.YtoehopigjmmagaaDoor
open Go.RowKit

def cb : List UInt8 → List UInt8 → Int := Lib.compareBytes
theorem cb_self : ∀ x, cb x x = 0
  | [] => rfl
  | a :: x => by
    unfold cb Lib.compareBytes
    rw [if_neg (by simp), if_neg (by simp)]
    exact cb_self x
theorem cb_range : ∀ x y, cb x y = -1 ∨ cb x y = 0 ∨ cb x y = 1
  | [], [] => by simp [cb, Lib.compareBytes]
  | [], _ :: _ => by simp [cb, Lib.compareBytes]
  | _ :: _, [] => by simp [cb, Lib.compareBytes]
  | a :: x, b :: y => by
    unfold cb Lib.compareBytes
    split
    · simp
    · split
      · simp
      · exact cb_range x y
theorem u8_eq {a b : UInt8} (h1 : ¬ a < b) (h2 : ¬ b < a) : a = b := by
  apply UInt8.toNat_inj.1
  rw [UInt8.lt_iff_toNat_lt] at h1 h2
  omega
theorem cb_zero : ∀ {x y}, cb x y = 0 → x = y
  | [], [], _ => rfl
  | [], _ :: _, h => by simp [cb, Lib.compareBytes] at h
  | _ :: _, [], h => by simp [cb, Lib.compareBytes] at h
  | a :: x, b :: y, h => by
    unfold cb Lib.compareBytes at h
    split at h
    · simp at h
    · split at h
      · simp at h
      · rename_i h1 h2
        rw [u8_eq h1 h2, cb_zero h]
theorem cb_anti : ∀ x y, cb y x = - cb x y
  | [], [] => rfl
  | [], _ :: _ => rfl
  | _ :: _, [] => rfl
  | a :: x, b :: y => by
    have ih := cb_anti x y
    unfold cb Lib.compareBytes
    by_cases h1 : a < b
    · have h2 : ¬ b < a := by rw [UInt8.lt_iff_toNat_lt] at *; omega
      rw [if_neg h2, if_pos h1, if_pos h1]; rfl
    · by_cases h2 : b < a
      · rw [if_pos h2, if_neg h1, if_pos h2]
      · rw [if_neg h2, if_neg h1, if_neg h1, if_neg h2]
        exact ih
theorem cb_trans : ∀ x y z, cb x y ≤ 0 → cb y z ≤ 0 → cb x z ≤ 0
  | [], _, [], _, _ => by simp [cb, Lib.compareBytes]
  | [], _, _ :: _, _, _ => by simp [cb, Lib.compareBytes]
  | a :: x, [], _, h, _ => by simp [cb, Lib.compareBytes] at h
  | a :: x, b :: y, [], _, h => by simp [cb, Lib.compareBytes] at h
  | a :: x, b :: y, c :: z, h1, h2 => by
    have ih := cb_trans x y z
    unfold cb Lib.compareBytes at h1 h2 ⊢
    simp only [UInt8.lt_iff_toNat_lt] at h1 h2 ⊢
    split at h1
    · split at h2
      · rw [if_pos (by omega)]; decide
      · split at h2
        · simp at h2
        · rw [if_pos (by omega)]; decide
    · split at h1
      · simp at h1
      · split at h2
        · rw [if_pos (by omega)]; decide
        · split at h2
          · simp at h2
          · rw [if_neg (by omega), if_neg (by omega)]
            exact ih h1 h2

/-- name by name -/
def cmpL : List (List UInt8) → List (List UInt8) → Int
  | [], [] => 0
  | [], _ :: _ => -1
  | _ :: _, [] => 1
  | x :: a, y :: b => if cb x y = 0 then cmpL a b else cb x y
theorem cmpL_self : ∀ a, cmpL a a = 0
  | [] => rfl
  | x :: a => by rw [cmpL, if_pos (cb_self x)]; exact cmpL_self a
theorem cmpL_range : ∀ a b, cmpL a b = -1 ∨ cmpL a b = 0 ∨ cmpL a b = 1
  | [], [] => by simp [cmpL]
  | [], _ :: _ => by simp [cmpL]
  | _ :: _, [] => by simp [cmpL]
  | x :: a, y :: b => by
    rw [cmpL]
    split
    · exact cmpL_range a b
    · exact cb_range x y
theorem cmpL_zero : ∀ {a b}, cmpL a b = 0 → a = b
  | [], [], _ => rfl
  | [], _ :: _, h => by simp [cmpL] at h
  | _ :: _, [], h => by simp [cmpL] at h
  | x :: a, y :: b, h => by
    rw [cmpL] at h
    split at h
    · rename_i h1; rw [cb_zero h1, cmpL_zero h]
    · rename_i h1; exact absurd h h1
theorem cmpL_anti : ∀ a b, cmpL b a = - cmpL a b
  | [], [] => rfl
  | [], _ :: _ => rfl
  | _ :: _, [] => rfl
  | x :: a, y :: b => by
    rw [cmpL, cmpL]
    have h := cb_anti x y
    by_cases h1 : cb x y = 0
    · rw [if_pos (by omega), if_pos h1]; exact cmpL_anti a b
    · rw [if_neg (by omega), if_neg h1]; exact h
theorem cmpL_trans : ∀ a b c, cmpL a b ≤ 0 → cmpL b c ≤ 0 → cmpL a c ≤ 0
  | [], _, [], _, _ => by simp [cmpL]
  | [], _, _ :: _, _, _ => by simp [cmpL]
  | x :: a, [], _, h, _ => by simp [cmpL] at h
  | x :: a, y :: b, [], _, h => by simp [cmpL] at h
  | x :: a, y :: b, z :: c, h1, h2 => by
    rw [cmpL] at h1 h2 ⊢
    by_cases e1 : cb x y = 0
    · have e := cb_zero e1
      subst e
      rw [if_pos e1] at h1
      by_cases e2 : cb x z = 0
      · rw [if_pos e2] at h2 ⊢; exact cmpL_trans a b c h1 h2
      · rw [if_neg e2] at h2 ⊢; exact h2
    · rw [if_neg e1] at h1
      by_cases e2 : cb y z = 0
      · have e := cb_zero e2
        subst e
        rw [if_neg e1]; exact h1
      · rw [if_neg e2] at h2
        have h3 := cb_trans x y z h1 h2
        by_cases e3 : cb x z = 0
        · have e := cb_zero e3
          subst e
          have := cb_anti x y
          omega
        · rw [if_neg e3]; exact h3
theorem cmpL_pre : ∀ {a r : List (List UInt8)}, r ≠ [] → cmpL a (a ++ r) = -1
  | [], [], h => absurd rfl h
  | [], _ :: _, _ => rfl
  | x :: a, r, h => by
    rw [List.cons_append, cmpL, if_pos (cb_self x)]
    exact cmpL_pre h
theorem cmpL_between : ∀ {a b r : List (List UInt8)}, cmpL a b < 0 → cmpL b (a ++ r) < 0 → ∃ t, t ≠ [] ∧ b = a ++ t
  | [], [], _, h, _ => by simp [cmpL] at h
  | [], y :: b, _, _, _ => ⟨y :: b, by simp, rfl⟩
  | x :: a, [], _, h, _ => by simp [cmpL] at h
  | x :: a, y :: b, r, h1, h2 => by
    rw [List.cons_append, cmpL] at h2
    rw [cmpL] at h1
    have h := cb_anti x y
    by_cases e1 : cb x y = 0
    · rw [if_pos e1] at h1
      rw [if_pos (by omega)] at h2
      obtain ⟨t, ht, e⟩ := cmpL_between h1 h2
      exact ⟨t, ht, by rw [e, cb_zero e1]; rfl⟩
    · rw [if_neg e1] at h1
      rw [if_neg (by omega)] at h2
      omega

def cmP (a b : List UInt8) : Int := if okP a = true ∧ okP b = true then cmpL (nms a) (nms b) else 0

theorem cut_txt {x : List UInt8} {r : List (List UInt8)} (hx : nmP x = true) (hl : (txt (x :: r)).length ≤ 9223372036854775807) :
    ∃ f : Bool, ∀ w, Calls Tryd.prog 39 #[.string (mk (txt (x :: r))), .string ⟨#[47]⟩] w fun e w' => e = .returned (.tuple #[.string (mk x), .string (mk (txt r)), .bool f]) ∧ ∃ n, w' = w.drewN n := by
  cases r with
  | nil =>
    refine ⟨false, fun w => ?_⟩
    rw [txt_one]
    exact (cut_no (mk x) w (by rw [bl_mk]; exact nmP_slash hx)).mono fun e w' ⟨h1, h2⟩ => ⟨h1, 0, h2⟩
  | cons y t =>
    refine ⟨true, fun w => ?_⟩
    exact cut_yes (mk (txt (x :: y :: t))) x (txt (y :: t)) w (by rw [bl_mk, txt_two]) (nmP_slash hx) (by rw [bl_mk]; exact hl)
theorem compare_lib (a b : List UInt8) (w : World) :
    Calls Tryd.prog 57 #[.string (mk a), .string (mk b)] w fun e w' => e = .returned (.int .i64 (cb a b)) ∧ w' = w := by
  have := Tryd.strings_Compare (mk a) (mk b) w
  rw [← bl_eq, ← bl_eq, bl_mk, bl_mk] at this
  exact this
def szOf (v : Value) : Nat := match v with | .string s => s.size | _ => 0
theorem szOf_mk (l : List UInt8) : szOf (.string (mk l)) = l.length := mk_size l
theorem txt_shorter {x : List UInt8} {r : List (List UInt8)} (hx : nmP x = true) : (txt r).length < (txt (x :: r)).length := by
  have : 0 < x.length := List.length_pos_iff.2 (nmP_ne hx).1
  cases r with
  | nil => simp [txt]; omega
  | cons y t => rw [txt_two]; simp; omega

/-- how the comparison stands -/
structure Cst (a b A B : List (List UInt8)) : Prop where
  na : ∀ p ∈ A, nmP p = true
  nb : ∀ p ∈ B, nmP p = true
  la : (txt A).length ≤ 2080
  lb : (txt B).length ≤ 2080
  eq : cmpL a b = cmpL A B

set_option maxRecDepth 100000 in
set_option maxHeartbeats 1000000 in
theorem compareNames_any (a b : List (List UInt8)) (w : World) (h : Cst a b a b) :
    Calls Tryd.prog 48 #[.string (mk (txt a)), .string (mk (txt b))] w fun e w' => e = .returned (.int .i64 (cmpL a b)) ∧ ∃ n, w' = w.drewN n := by
  have H0 := hid h
  clear h
  go_enter Tryd.func48, Tryd.ntmps48
  go_wp2
  go_loopw [0, 1] (fun va vb wr => ∃ (A B : List (List UInt8)) (q : Nat), va = .string (mk (txt A)) ∧ vb = .string (mk (txt B)) ∧ wr = w.drewN q ∧ Cst a b A B) (fun va _ _ => szOf va)
  case atStart => exact ⟨a, b, 0, rfl, rfl, rfl, H0.out⟩
  case round =>
    obtain ⟨A, B, q, rfl, rfl, rfl, hc⟩ := hrel
    have HC := hid hc
    clear hc H0
    have ea : (mk (txt A)).toList = txt A := bl_mk _
    have eb : (mk (txt B)).toList = txt B := bl_mk _
    by_cases hA : A = []
    · subst hA
      have ea' : (mk (txt [])).toList = [] := bl_mk []
      have HL := hid (compare_lib (txt []) (txt B))
      have HR := hid (show cb (txt []) (txt B) = cmpL a b by
        rw [HC.out.eq]
        cases B with
        | nil => rfl
        | cons y t =>
          have := (txt_ne HC.out.nb (by simp))
          cases e : txt (y :: t) with
          | nil => exact absurd e this
          | cons c r => rfl)
      generalize mk (txt []) = xa at *
      generalize mk (txt B) = xb at *
      go_wp2_with (go_at_call 57; refine (HL.out _).mono ?_; rintro e w' ⟨rfl, hw⟩; subst w')
      go_ret
      exact ⟨ret_i HR.out, q, rfl⟩
    · have na' : (txt A).isEmpty = false := by simpa using txt_ne HC.out.na hA
      have na2 : ¬ txt A = [] := txt_ne HC.out.na hA
      have na3 : (txt A != []) = true := by simpa using txt_ne HC.out.na hA
      by_cases hB : B = []
      · subst hB
        have eb' : (mk (txt [])).toList = [] := bl_mk []
        have HL := hid (compare_lib (txt A) (txt []))
        have HR := hid (show cb (txt A) (txt []) = cmpL a b by
          rw [HC.out.eq]
          cases A with
          | nil => exact absurd rfl hA
          | cons y t =>
            cases e : txt (y :: t) with
            | nil => exact absurd e na2
            | cons c r => rfl)
        generalize mk (txt []) = xb at *
        generalize mk (txt A) = xa at *
        go_wp2_with (go_at_call 57; refine (HL.out _).mono ?_; rintro e w' ⟨rfl, hw⟩; subst w')
        go_ret
        exact ⟨ret_i HR.out, q, rfl⟩
      · have nb' : (txt B).isEmpty = false := by simpa using txt_ne HC.out.nb hB
        have nb2 : ¬ txt B = [] := txt_ne HC.out.nb hB
        have nb3 : (txt B != []) = true := by simpa using txt_ne HC.out.nb hB
        obtain ⟨x, A', rfl⟩ : ∃ x A', A = x :: A' := by cases A with | nil => exact absurd rfl hA | cons x A' => exact ⟨x, A', rfl⟩
        obtain ⟨y, B', rfl⟩ : ∃ y B', B = y :: B' := by cases B with | nil => exact absurd rfl hB | cons x A' => exact ⟨x, A', rfl⟩
        have hx := HC.out.na x (by simp)
        have hy := HC.out.nb y (by simp)
        obtain ⟨f1, hc1⟩ := cut_txt hx (r := A') (by have := HC.out.la; omega)
        obtain ⟨f2, hc2⟩ := cut_txt hy (r := B') (by have := HC.out.lb; omega)
        have HC1 := hid hc1
        have HC2 := hid hc2
        have HLB := hid (compare_lib x y)
        have HSZ := hid (txt_shorter hx (r := A'))
        have HMS := hid (szOf_mk (txt (x :: A')))
        have HLA := hid (txt_shorter hy (r := B'))
        clear hc1 hc2 hx hy
        by_cases h0 : cb x y = 0
        · have HN : Hid (Cst a b A' B') := ⟨fun p hp => HC.out.na p (by simp [hp]), fun p hp => HC.out.nb p (by simp [hp]), by have := HC.out.la; have := HSZ.out; omega, by have := HC.out.lb; have := HLA.out; omega, by rw [HC.out.eq, cmpL, if_pos h0]⟩
          rw [h0] at HLB
          generalize mk (txt (x :: A')) = xa at *
          generalize mk (txt (y :: B')) = xb at *
          go_wp2_with fail
          refine (HC1.out _).mono ?_
          rintro e w1 ⟨rfl, n1, rfl⟩
          go_wp2_with fail
          refine (HC2.out _).mono ?_
          rintro e w2 ⟨rfl, n2, rfl⟩
          go_wp2_with (go_at_call 57; refine (HLB.out _).mono ?_; rintro e w' ⟨rfl, hw⟩; subst w')
          refine ⟨⟨A', B', q + (n1 + n2), rfl, rfl, by simp [Nat.add_assoc], HN.out⟩, ?_⟩
          rw [szOf_mk]
          first | exact HSZ.out | (rw [HMS.out]; exact HSZ.out)
        · have HR := hid (show cb x y = cmpL a b by rw [HC.out.eq, cmpL, if_neg h0])
          have c1 : (cb x y != 0) = true := by simpa using h0
          generalize cb x y = cc at *
          generalize mk (txt (x :: A')) = xa at *
          generalize mk (txt (y :: B')) = xb at *
          go_wp2_with fail
          refine (HC1.out _).mono ?_
          rintro e w1 ⟨rfl, n1, rfl⟩
          go_wp2_with fail
          refine (HC2.out _).mono ?_
          rintro e w2 ⟨rfl, n2, rfl⟩
          go_wp2_with (go_at_call 57; refine (HLB.out _).mono ?_; rintro e w' ⟨rfl, hw⟩; subst w')
          go_ret
          exact ⟨ret_i HR.out, q + (n1 + n2), by simp [Nat.add_assoc]⟩

end Go.Proofs.YtoehopigjmmagaaDoor
