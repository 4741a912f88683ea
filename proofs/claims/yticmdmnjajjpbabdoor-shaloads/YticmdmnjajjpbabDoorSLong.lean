/- Write, of more than may be. -/
import Derived.Test.YticmdmnjajjpbabDoorSWrite
namespace Go.Proofs.YticmdmnjajjpbabDoor
open Go.RowKit

set_option maxRecDepth 100000 in
set_option maxHeartbeats 1000000 in
theorem write_long (X : Nat → Prop) (w : World) (b : Nat) (H : List Int) (buf : List UInt8) (N : Nat) (v : Value) (pss : List (List UInt8)) (hs : Hg w b H buf N) (hv : Lists X w v pss) (hn : pss.length ≤ 140737488355327) (hN : N ≤ 2305843009213693951) (hL : 2305843009213693951 < N + (fl pss).length) :
    Calls Tryd.prog 19 #[.pointer (some ⟨b, 0, none⟩), v] w fun e w' => e = .returned (.int .i64 21) ∧ w' = w := by
  obtain ⟨ao, cv, rfl⟩ : ∃ ao cv, v = .slice ao pss.length cv := by
    rcases hv with ⟨ao, c, rfl, rfl⟩ | ⟨g, o, c, rfl, _⟩
    · exact ⟨ao, c, rfl⟩
    · exact ⟨_, c, rfl⟩
  obtain ⟨H0, R0, m, hb, _, _, _⟩ := hs.ex
  have HV := hid hv
  have cn := hb.cn
  have hsub : (N : Int) ≤ 2305843009213693951 := by omega
  clear hb hs hv
  go_enter Tryd.func19, Tryd.ntmps19
  go_wp2_with fail
  rw [show (2305843009213693951 - (N : Int)) = ((2305843009213693951 - N : Nat) : Int) by omega]
  refine (fit_any X w (2305843009213693951 - N) _ pss HV.out (by omega) hn).mono ?_
  rintro e w1 ⟨rfl, h1⟩
  subst h1
  rw [show decide ((fl pss).length ≤ 2305843009213693951 - N) = false from decide_eq_false (by omega)]
  go_wp2
  go_ret
  exact ⟨rfl, rfl⟩

end Go.Proofs.YticmdmnjajjpbabDoor
