/- ShaTags answers true. -/
import Derived.Test.YticmdmnjajjpbacDoorSAwake
import Derived.Test.YticmdmnjajjpbacDoorSLawOf
import Derived.Test.YticmdmnjajjpbacDoorSTagged
namespace Go.Proofs.YticmdmnjajjpbacDoor
open Go.RowKit

/-- the bytes that Preimage answers -/
def preA (l : List UInt8) (pss : List (List UInt8)) : List UInt8 := if tagP l then preP l pss else []
/-- what Preimage answers, of either side -/
structure PreAns (w : World) (l : List UInt8) (pss : List (List UInt8)) (v : Value) (e : Int) : Prop where
  er : e = tgE l
  src : Src w v (preA l pss)
theorem preP_len (l : List UInt8) (pss : List (List UInt8)) (ht : tagP l = true) (hn : pss.length ≤ 1048576) (hN : (fl pss).length ≤ 1048576) : (preP l pss).length ≤ 140737488355327 := by
  have h1 := preQ_len pss
  have h2 := tag_len ht
  unfold preP
  simp only [List.length_cons, List.length_append]
  omega

theorem pre_any (X : Nat → Prop) (w : World) (s : ByteArray) (l : List UInt8) (v : Value) (pss : List (List UInt8)) (hs : s.data.toList = l) (hv : Lists X w v pss) (hn : pss.length ≤ 1048576) (hN : (fl pss).length ≤ 1048576) :
    Calls Tryd.prog 22 #[.string s, v] w fun e w' => ∃ v', e = .returned (.tuple #[v', .int .i64 (tgE l)]) ∧ PreAns w' l pss v' (tgE l) ∧ Below w.heap.size w w' := by
  cases ht : tagP l with
  | false =>
    refine (pre_no w s l v hs ht).mono ?_
    rintro e w' ⟨rfl, rfl⟩
    exact ⟨_, by unfold tgE; rw [ht]; rfl, ⟨rfl, by unfold preA; rw [ht]; exact ⟨by simp, Or.inl ⟨rfl, rfl⟩⟩⟩, Below.refl _ _⟩
  | true =>
    refine (pre_ok X w s l v pss hs ht hv hn hN).mono ?_
    rintro e w' ⟨v', rfl, ho, hb⟩
    exact ⟨_, by unfold tgE; rw [ht]; rfl, ⟨rfl, by unfold preA; rw [ht]; exact ho.src (preP_len l pss ht hn hN)⟩, hb⟩

theorem rpre_any (X : Nat → Prop) (w : World) (s : ByteArray) (l : List UInt8) (v : Value) (pss : List (List UInt8)) (hs : s.data.toList = l) (hlen : s.size ≤ 1048576) (hv : Lists X w v pss) (hn : pss.length ≤ 1048576) (hN : (fl pss).length ≤ 1048576) :
    Calls Tryd.prog 24 #[.string s, v] w fun e w' => ∃ v', e = .returned (.tuple #[v', .int .i64 (tgE l)]) ∧ PreAns w' l pss v' (tgE l) ∧ Below w.heap.size w w' := by
  cases ht : tagP l with
  | false =>
    refine (rpre_no w s l v hs hlen ht).mono ?_
    rintro e w' ⟨rfl, rfl⟩
    exact ⟨_, by unfold tgE; rw [ht]; rfl, ⟨rfl, by unfold preA; rw [ht]; exact ⟨by simp, Or.inl ⟨rfl, rfl⟩⟩⟩, Below.refl _ _⟩
  | true =>
    refine (rpre_ok X w s l v pss hs ht hv hn hN).mono ?_
    rintro e w' ⟨v', rfl, ho, hb⟩
    exact ⟨_, by unfold tgE; rw [ht]; rfl, ⟨rfl, by unfold preA; rw [ht]; exact ho.src (preP_len l pss ht hn hN)⟩, hb⟩

end Go.Proofs.YticmdmnjajjpbacDoor
