/- From what the rows list of the program's tables to what the walks ask of the world. -/
import Derived.Test.YticmdmnjajjpbaaDoorSComp
import Derived.Lib.LaidU8
namespace Go.Proofs.YticmdmnjajjpbaaDoor
open Go.RowKit

theorem range_of_reads {P : Program} {w : World} {name : String} {d : DataW Unit} (hr : Lib.VarReads P w name d) (zs : List Int) (g0 : Nat) (t e : TypeId) (n : Nat) (hg : P.globalNamed name = some g0) (hty : (P.globals[g0]?).map (·.type) = some t)
    (ht : P.underlying t = some (.array n e)) (he : P.underlying e = some (.int .u32)) (hce : P.cellsOf e = 1) (hct : P.cellsOf t = n) (hd : d = Lib.tabData .u32 zs) : w.rangeAt g0 0 (u32V zs) := by
  obtain ⟨g, t', cs, fuel, p, h1, h2, h3, h4⟩ := hr
  obtain rfl : g0 = g := by rw [hg] at h1; exact Option.some.inj h1
  obtain rfl : t = t' := by rw [hty] at h2; exact Option.some.inj h2
  subst hd
  have hcs := Lib.cells_of_tab ht he hce hct h4
  unfold World.var? at h3
  rw [hg] at h3
  simp only [Option.bind_some] at h3
  intro j v hv
  rw [Nat.zero_add]
  cases hb : w.heap[g0]? with
  | none => rw [hb] at h3; cases h3
  | some o =>
    rw [hb] at h3
    cases o with
    | cells C ty fr =>
      simp only [Option.some.injEq] at h3
      subst h3
      rw [cell_of_row w g0 j _ _ _ hb]
      have : C.toList[j]? = some v := by rw [hcs]; exact hv
      simpa using this
    | _ => cases h3

end Go.Proofs.YticmdmnjajjpbaaDoor
