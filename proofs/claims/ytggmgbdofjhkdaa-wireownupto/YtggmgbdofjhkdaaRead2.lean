/- From what the rows say of bytes and of calls to what the walks want. -/
import Derived.Test.YtggmgbdofjhkdaaRead
namespace Go.Proofs.Ytggmgbdofjhkdaa
open Go.ChangeShapes Go.WideShapes Go.ChangeAt Go.RowKit

theorem cellsU8 : Try.prog.cellsOf 5 = 1 := by kernel_rfl

section
variable {H : Type} {enc : TypeId × Value → H} {W : World} {spare : Nat → Bool} {held : Bool}

/-- bytes, out of their reading -/
theorem bytes_of {ao : Option Addr} {n c : Nat} {d : DataW H} {pl : List MemPlace} (h : DataW.Trod enc Try.prog W 0 spare held 23 (.slice ao n c) d pl) (hk : Rows.uptoBulk d ≤ 1048576) :
    ∃ bs : List UInt8, Src W (.slice ao n c) bs ∧ bs.length = n ∧ n ≤ 1048576 := by
  obtain ⟨fuel, hf⟩ := h
  rcases open_ints Try.underlying23 Try.underlying5 cellsU8 hf with ⟨hcs, _⟩ | ⟨a, len, cap, zs, hcs, _, hl, hm, hz, hx, hcell, hwz⟩
  · simp [Value.cells] at hcs
    obtain ⟨rfl, rfl, rfl⟩ := hcs
    exact ⟨[], ⟨by simp, Or.inl ⟨rfl, rfl⟩⟩, rfl, by omega⟩
  · simp [Value.cells] at hcs
    obtain ⟨rfl, rfl, rfl⟩ := hcs
    have hlz : n ≤ zs.length := by rw [hz]; split <;> omega
    simp only [Prod.mk.injEq] at hx
    have hn : n ≤ 1048576 := by
      rw [hx.1] at hk
      simp only [Rows.uptoBulk] at hk
      have h1 := bulk_count (lits (H := H) .u8 (zs.take n))
      have h2 : (lits (H := H) .u8 (zs.take n)).length = n := by simp [lits]; omega
      omega
    have hu : ∀ i, i < n → (((zs.getD i 0).toNat.toUInt8).toNat : Int) = zs.getD i 0 := by
      intro i hi
      have hm' : zs.getD i 0 ∈ zs := by
        rw [List.getD_eq_getElem?_getD, List.getElem?_eq_getElem (by omega)]
        exact List.getElem_mem _
      have hw := hwz _ hm'
      have hb : 0 ≤ zs.getD i 0 ∧ zs.getD i 0 ≤ 255 := by simpa [Lit.wf, IntKind.min, IntKind.max, IntKind.signed, IntKind.bits] using hw
      simp only [Nat.toUInt8_eq, UInt8.toNat_ofNat']
      omega
    · refine ⟨(zs.take n).map (fun z => z.toNat.toUInt8), ⟨by simp; omega, Or.inr ⟨a, c, by simp; omega, by simp; omega, hm, fun h => World.block_lt_of_cell? W a (u := .int .u8 (zs.getD 0 0)) (by simp at h; simpa [Addr.add] using hcell 0 (by omega)), fun j hj => ?_⟩⟩, by simp; omega, hn⟩
      have hj' : j < n ∧ j < zs.length := by simp at hj; omega
      have hju := hu j hj'.1
      rw [hcell j hj'.2, ← hju]
      simp [List.getD_eq_getElem?_getD, hj'.1, List.getElem?_eq_getElem hj'.2]
end

end Go.Proofs.Ytggmgbdofjhkdaa
