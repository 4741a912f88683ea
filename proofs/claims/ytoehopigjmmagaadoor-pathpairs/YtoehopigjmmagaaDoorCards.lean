/-
  DERIVED. GIVEN WITH THE SEED: THE CARDS: each row of YtoehopigjmmagaaDoorRows.lean that lists a variable, with what it lists TIED to the program's text (the seventh form; the later family's looks); each row that meets fmt, with fmt's text TOLD by the authors' own Lean function (tested against real Go, not proved from fmt's source: count such statements apart). THE CARD IS WHAT COUNTS. Prove the row's statement (the work); the ties are given (YtoehopigjmmagaaDoorTie.lean); close each card by the builder's one call (the guide's Derived/Test/ToyasCard.lean, 'card_holds'). Laid BY PROGRAM, IN A SANDBOX (cutbox-door.mjs). By AI agents, Wed Nov 11 2026. No macro, syntax, notation, axiom, sorry.
-/
import Derived.Test.YtoehopigjmmagaaDoorRows
import GoSem.ClaimSeven
namespace Go.Proofs.YtoehopigjmmagaaDoor
namespace Rows

/-- THE TIED CARD OF 'treadlelaw04.PathNames'. -/
def pathNamesCard : Claim7 := { stood := { row := pathNamesRow, standIns := [], harness := (true, "2596f8f71e2712c9a908d67d341594f6e19499b87a12c53f3cdeaac6b39a1f52"), looks := false }, kinds := [], alts := [], laidByText := true, laidKinds := [.data, .pinned], laidTests := true, laidLooks := .later }
def PathNamesCardSaid : Prop := Claim7.holds Tryd.pinned (.plain (OpenSpec.ofChange pathNamesSpec)) pathNamesCard

/-- THE TIED CARD OF 'treadlelaw04.PathOf'. -/
def pathOfCard : Claim7 := { stood := { row := pathOfRow, standIns := [], harness := (true, "2596f8f71e2712c9a908d67d341594f6e19499b87a12c53f3cdeaac6b39a1f52"), looks := false }, kinds := [], alts := [], laidByText := true, laidKinds := [.data, .pinned], laidTests := true, laidLooks := .later }
def PathOfCardSaid : Prop := Claim7.holds Tryd.pinned (.plain (OpenSpec.ofChange pathOfSpec)) pathOfCard

/-- THE TIED CARD OF 'treadlelaw04.PathJoins'. -/
def pathJoinsCard : Claim7 := { stood := { row := pathJoinsRow, standIns := [], harness := (true, "2596f8f71e2712c9a908d67d341594f6e19499b87a12c53f3cdeaac6b39a1f52"), looks := false }, kinds := [], alts := [], laidByText := true, laidKinds := [.data, .pinned], laidTests := true, laidLooks := .later }
def PathJoinsCardSaid : Prop := Claim7.holds Tryd.pinned (.plain (OpenSpec.ofChange pathJoinsSpec)) pathJoinsCard

/-- THE TIED CARD OF 'treadlelaw04.PathCleans'. -/
def pathCleansCard : Claim7 := { stood := { row := pathCleansRow, standIns := [], harness := (true, "2596f8f71e2712c9a908d67d341594f6e19499b87a12c53f3cdeaac6b39a1f52"), looks := false }, kinds := [], alts := [], laidByText := true, laidKinds := [.data, .pinned], laidTests := true, laidLooks := .later }
def PathCleansCardSaid : Prop := Claim7.holds Tryd.pinned (.plain (OpenSpec.ofChange pathCleansSpec)) pathCleansCard

/-- THE TIED CARD OF 'treadlelaw04.PathPairs'. -/
def pathPairsCard : Claim7 := { stood := { row := pathPairsRow, standIns := [], harness := (true, "2596f8f71e2712c9a908d67d341594f6e19499b87a12c53f3cdeaac6b39a1f52"), looks := false }, kinds := [], alts := [], laidByText := true, laidKinds := [.data, .pinned], laidTests := true, laidLooks := .later }
def PathPairsCardSaid : Prop := Claim7.holds Tryd.pinned (.plain (OpenSpec.ofChange pathPairsSpec)) pathPairsCard

/-- THE TIED CARD OF 'treadlelaw04.PathCommons'. -/
def pathCommonsCard : Claim7 := { stood := { row := pathCommonsRow, standIns := [], harness := (true, "2596f8f71e2712c9a908d67d341594f6e19499b87a12c53f3cdeaac6b39a1f52"), looks := false }, kinds := [], alts := [], laidByText := true, laidKinds := [.data, .pinned], laidTests := true, laidLooks := .later }
def PathCommonsCardSaid : Prop := Claim7.holds Tryd.pinned (.plain (OpenSpec.ofChange pathCommonsSpec)) pathCommonsCard

/-- THE SECOND FORM's CARD OF 'treadlelaw04.PathNames'. -/
def pathNamesUptoCard : Claim7 := { stood := { row := pathNamesUptoRow, standIns := [], harness := (true, "2596f8f71e2712c9a908d67d341594f6e19499b87a12c53f3cdeaac6b39a1f52"), looks := false }, kinds := [], alts := [], laidByText := true, laidKinds := [.data, .pinned], laidTests := true, laidLooks := .later }
def PathNamesUptoCardSaid : Prop := Claim7.holds Tryd.pinned (.plain (OpenSpec.upto pathNamesSpec)) pathNamesUptoCard

/-- THE SECOND FORM's CARD OF 'treadlelaw04.PathOf'. -/
def pathOfUptoCard : Claim7 := { stood := { row := pathOfUptoRow, standIns := [], harness := (true, "2596f8f71e2712c9a908d67d341594f6e19499b87a12c53f3cdeaac6b39a1f52"), looks := false }, kinds := [], alts := [], laidByText := true, laidKinds := [.data, .pinned], laidTests := true, laidLooks := .later }
def PathOfUptoCardSaid : Prop := Claim7.holds Tryd.pinned (.plain (OpenSpec.upto pathOfSpec)) pathOfUptoCard

/-- THE SECOND FORM's CARD OF 'treadlelaw04.PathJoins'. -/
def pathJoinsUptoCard : Claim7 := { stood := { row := pathJoinsUptoRow, standIns := [], harness := (true, "2596f8f71e2712c9a908d67d341594f6e19499b87a12c53f3cdeaac6b39a1f52"), looks := false }, kinds := [], alts := [], laidByText := true, laidKinds := [.data, .pinned], laidTests := true, laidLooks := .later }
def PathJoinsUptoCardSaid : Prop := Claim7.holds Tryd.pinned (.plain (OpenSpec.upto pathJoinsSpec)) pathJoinsUptoCard

/-- THE SECOND FORM's CARD OF 'treadlelaw04.PathCleans'. -/
def pathCleansUptoCard : Claim7 := { stood := { row := pathCleansUptoRow, standIns := [], harness := (true, "2596f8f71e2712c9a908d67d341594f6e19499b87a12c53f3cdeaac6b39a1f52"), looks := false }, kinds := [], alts := [], laidByText := true, laidKinds := [.data, .pinned], laidTests := true, laidLooks := .later }
def PathCleansUptoCardSaid : Prop := Claim7.holds Tryd.pinned (.plain (OpenSpec.upto pathCleansSpec)) pathCleansUptoCard

/-- THE SECOND FORM's CARD OF 'treadlelaw04.PathPairs'. -/
def pathPairsUptoCard : Claim7 := { stood := { row := pathPairsUptoRow, standIns := [], harness := (true, "2596f8f71e2712c9a908d67d341594f6e19499b87a12c53f3cdeaac6b39a1f52"), looks := false }, kinds := [], alts := [], laidByText := true, laidKinds := [.data, .pinned], laidTests := true, laidLooks := .later }
def PathPairsUptoCardSaid : Prop := Claim7.holds Tryd.pinned (.plain (OpenSpec.upto pathPairsSpec)) pathPairsUptoCard

/-- THE SECOND FORM's CARD OF 'treadlelaw04.PathCommons'. -/
def pathCommonsUptoCard : Claim7 := { stood := { row := pathCommonsUptoRow, standIns := [], harness := (true, "2596f8f71e2712c9a908d67d341594f6e19499b87a12c53f3cdeaac6b39a1f52"), looks := false }, kinds := [], alts := [], laidByText := true, laidKinds := [.data, .pinned], laidTests := true, laidLooks := .later }
def PathCommonsUptoCardSaid : Prop := Claim7.holds Tryd.pinned (.plain (OpenSpec.upto pathCommonsSpec)) pathCommonsUptoCard
end Rows
end Go.Proofs.YtoehopigjmmagaaDoor
