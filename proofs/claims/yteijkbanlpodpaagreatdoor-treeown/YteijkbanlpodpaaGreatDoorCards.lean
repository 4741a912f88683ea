/-
  DERIVED. GIVEN WITH THE SEED: THE CARDS: each row of YteijkbanlpodpaaGreatDoorRows.lean that lists a variable, with what it lists TIED to the program's text (the seventh form; the later family's looks); each row that meets fmt, with fmt's text TOLD by the authors' own Lean function (tested against real Go, not proved from fmt's source: count such statements apart). THE CARD IS WHAT COUNTS. Prove the row's statement (the work); the ties are given (YteijkbanlpodpaaGreatDoorTie.lean); close each card by the builder's one call (the guide's Derived/Test/ToyasCard.lean, 'card_holds'). Laid BY PROGRAM, IN A SANDBOX (cutbox-door.mjs). By AI agents, Wed Nov 11 2026. No macro, syntax, notation, axiom, sorry.
-/
import Derived.Test.YteijkbanlpodpaaGreatDoorRows
import GoSem.ClaimSeven
namespace Go.Proofs.YteijkbanlpodpaaGreatDoor
namespace Rows

/-- THE TIED CARD OF 'treadlelaw05.TreeEdits'. -/
def treeEditsCard : Claim7 := { stood := { row := treeEditsRow, standIns := [], harness := (true, "e6d63f4c6a2936ed5bc9ff434b0387f6acf09bf68da8549332d2ef95f7a46ea6"), looks := false }, kinds := [], alts := [], laidByText := true, laidKinds := [.data, .pinned], laidTests := true, laidLooks := .later }
def TreeEditsCardSaid : Prop := Claim7.holds Tryz.pinned (.plain (OpenSpec.ofChange treeEditsSpec)) treeEditsCard

/-- THE TIED CARD OF 'treadlelaw05.TreeGrafts'. -/
def treeGraftsCard : Claim7 := { stood := { row := treeGraftsRow, standIns := [], harness := (true, "e6d63f4c6a2936ed5bc9ff434b0387f6acf09bf68da8549332d2ef95f7a46ea6"), looks := false }, kinds := [], alts := [], laidByText := true, laidKinds := [.data, .pinned], laidTests := true, laidLooks := .later }
def TreeGraftsCardSaid : Prop := Claim7.holds Tryz.pinned (.plain (OpenSpec.ofChange treeGraftsSpec)) treeGraftsCard

/-- THE TIED CARD OF 'treadlelaw05.TreeOwn'. -/
def treeOwnCard : Claim7 := { stood := { row := treeOwnRow, standIns := [], harness := (true, "e6d63f4c6a2936ed5bc9ff434b0387f6acf09bf68da8549332d2ef95f7a46ea6"), looks := false }, kinds := [], alts := [], laidByText := true, laidKinds := [.data, .pinned], laidTests := true, laidLooks := .later }
def TreeOwnCardSaid : Prop := Claim7.holds Tryz.pinned (.plain (OpenSpec.ofChange treeOwnSpec)) treeOwnCard

/-- THE SECOND FORM's CARD OF 'treadlelaw05.TreeEdits'. -/
def treeEditsUptoCard : Claim7 := { stood := { row := treeEditsUptoRow, standIns := [], harness := (true, "e6d63f4c6a2936ed5bc9ff434b0387f6acf09bf68da8549332d2ef95f7a46ea6"), looks := false }, kinds := [], alts := [], laidByText := true, laidKinds := [.data, .pinned], laidTests := true, laidLooks := .later }
def TreeEditsUptoCardSaid : Prop := Claim7.holds Tryz.pinned (.plain (OpenSpec.upto treeEditsSpec)) treeEditsUptoCard

/-- THE SECOND FORM's CARD OF 'treadlelaw05.TreeGrafts'. -/
def treeGraftsUptoCard : Claim7 := { stood := { row := treeGraftsUptoRow, standIns := [], harness := (true, "e6d63f4c6a2936ed5bc9ff434b0387f6acf09bf68da8549332d2ef95f7a46ea6"), looks := false }, kinds := [], alts := [], laidByText := true, laidKinds := [.data, .pinned], laidTests := true, laidLooks := .later }
def TreeGraftsUptoCardSaid : Prop := Claim7.holds Tryz.pinned (.plain (OpenSpec.upto treeGraftsSpec)) treeGraftsUptoCard

/-- THE SECOND FORM's CARD OF 'treadlelaw05.TreeOwn'. -/
def treeOwnUptoCard : Claim7 := { stood := { row := treeOwnUptoRow, standIns := [], harness := (true, "e6d63f4c6a2936ed5bc9ff434b0387f6acf09bf68da8549332d2ef95f7a46ea6"), looks := false }, kinds := [], alts := [], laidByText := true, laidKinds := [.data, .pinned], laidTests := true, laidLooks := .later }
def TreeOwnUptoCardSaid : Prop := Claim7.holds Tryz.pinned (.plain (OpenSpec.upto treeOwnSpec)) treeOwnUptoCard
end Rows
end Go.Proofs.YteijkbanlpodpaaGreatDoor
