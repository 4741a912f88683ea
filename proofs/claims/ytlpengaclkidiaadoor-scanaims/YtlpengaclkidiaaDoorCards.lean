/-
  DERIVED. GIVEN WITH THE SEED: THE CARDS: each row of YtlpengaclkidiaaDoorRows.lean that lists a variable, with what it lists TIED to the program's text (the seventh form; the later family's looks); each row that meets fmt, with fmt's text TOLD by the authors' own Lean function (tested against real Go, not proved from fmt's source: count such statements apart). THE CARD IS WHAT COUNTS. Prove the row's statement (the work); the ties are given (YtlpengaclkidiaaDoorTie.lean); close each card by the builder's one call (the guide's Derived/Test/ToyasCard.lean, 'card_holds'). Laid BY PROGRAM, IN A SANDBOX (cutbox-door.mjs). By AI agents, Wed Nov 11 2026. No macro, syntax, notation, axiom, sorry.
-/
import Derived.Test.YtlpengaclkidiaaDoorRows
import GoSem.ClaimSeven
namespace Go.Proofs.YtlpengaclkidiaaDoor
namespace Rows

/-- THE TIED CARD OF 'treadlelaw13.ScanFinds'. -/
def scanFindsCard : Claim7 := { stood := { row := scanFindsRow, standIns := [], harness := (true, "baa0e6bfbc8aeb1b3729b9d1c8cf0c7af0ff8ac9482e525ccdbacbbb94cd90e1"), looks := true }, kinds := [], alts := [], laidByText := true, laidKinds := [.data, .data], laidTests := true, laidLooks := .later }
def ScanFindsCardSaid : Prop := Claim7.holds Tryd.pinned (.plain (OpenSpec.ofChange scanFindsSpec)) scanFindsCard

/-- THE TIED CARD OF 'treadlelaw13.ScanAims'. -/
def scanAimsCard : Claim7 := { stood := { row := scanAimsRow, standIns := [], harness := (true, "baa0e6bfbc8aeb1b3729b9d1c8cf0c7af0ff8ac9482e525ccdbacbbb94cd90e1"), looks := true }, kinds := [], alts := [], laidByText := true, laidKinds := [.data, .data, .data, .pinned], laidTests := true, laidLooks := .later }
def ScanAimsCardSaid : Prop := Claim7.holds Tryd.pinned (.plain (OpenSpec.ofChange scanAimsSpec)) scanAimsCard

/-- THE TIED CARD OF 'treadlelaw13.ScanPuts'. -/
def scanPutsCard : Claim7 := { stood := { row := scanPutsRow, standIns := [], harness := (true, "baa0e6bfbc8aeb1b3729b9d1c8cf0c7af0ff8ac9482e525ccdbacbbb94cd90e1"), looks := true }, kinds := [], alts := [], laidByText := true, laidKinds := [.data, .data], laidTests := true, laidLooks := .later }
def ScanPutsCardSaid : Prop := Claim7.holds Tryd.pinned (.plain (OpenSpec.ofChange scanPutsSpec)) scanPutsCard

/-- THE TIED CARD OF 'treadlelaw13.ScanBack'. -/
def scanBackCard : Claim7 := { stood := { row := scanBackRow, standIns := [], harness := (true, "baa0e6bfbc8aeb1b3729b9d1c8cf0c7af0ff8ac9482e525ccdbacbbb94cd90e1"), looks := true }, kinds := [], alts := [], laidByText := true, laidKinds := [.data, .data], laidTests := true, laidLooks := .later }
def ScanBackCardSaid : Prop := Claim7.holds Tryd.pinned (.plain (OpenSpec.ofChange scanBackSpec)) scanBackCard

/-- THE TIED CARD OF 'treadlelaw13.ScanStops'. -/
def scanStopsCard : Claim7 := { stood := { row := scanStopsRow, standIns := [], harness := (true, "baa0e6bfbc8aeb1b3729b9d1c8cf0c7af0ff8ac9482e525ccdbacbbb94cd90e1"), looks := true }, kinds := [], alts := [], laidByText := true, laidKinds := [.data, .data], laidTests := true, laidLooks := .later }
def ScanStopsCardSaid : Prop := Claim7.holds Tryd.pinned (.plain (OpenSpec.ofChange scanStopsSpec)) scanStopsCard

/-- THE SECOND FORM's CARD OF 'treadlelaw13.ScanFinds'. -/
def scanFindsUptoCard : Claim7 := { stood := { row := scanFindsUptoRow, standIns := [], harness := (true, "baa0e6bfbc8aeb1b3729b9d1c8cf0c7af0ff8ac9482e525ccdbacbbb94cd90e1"), looks := true }, kinds := [], alts := [], laidByText := true, laidKinds := [.data, .data], laidTests := true, laidLooks := .later }
def ScanFindsUptoCardSaid : Prop := Claim7.holds Tryd.pinned (.plain (OpenSpec.upto scanFindsSpec)) scanFindsUptoCard

/-- THE SECOND FORM's CARD OF 'treadlelaw13.ScanAims'. -/
def scanAimsUptoCard : Claim7 := { stood := { row := scanAimsUptoRow, standIns := [], harness := (true, "baa0e6bfbc8aeb1b3729b9d1c8cf0c7af0ff8ac9482e525ccdbacbbb94cd90e1"), looks := true }, kinds := [], alts := [], laidByText := true, laidKinds := [.data, .data, .data, .pinned], laidTests := true, laidLooks := .later }
def ScanAimsUptoCardSaid : Prop := Claim7.holds Tryd.pinned (.plain (OpenSpec.upto scanAimsSpec)) scanAimsUptoCard

/-- THE SECOND FORM's CARD OF 'treadlelaw13.ScanPuts'. -/
def scanPutsUptoCard : Claim7 := { stood := { row := scanPutsUptoRow, standIns := [], harness := (true, "baa0e6bfbc8aeb1b3729b9d1c8cf0c7af0ff8ac9482e525ccdbacbbb94cd90e1"), looks := true }, kinds := [], alts := [], laidByText := true, laidKinds := [.data, .data], laidTests := true, laidLooks := .later }
def ScanPutsUptoCardSaid : Prop := Claim7.holds Tryd.pinned (.plain (OpenSpec.upto scanPutsSpec)) scanPutsUptoCard

/-- THE SECOND FORM's CARD OF 'treadlelaw13.ScanBack'. -/
def scanBackUptoCard : Claim7 := { stood := { row := scanBackUptoRow, standIns := [], harness := (true, "baa0e6bfbc8aeb1b3729b9d1c8cf0c7af0ff8ac9482e525ccdbacbbb94cd90e1"), looks := true }, kinds := [], alts := [], laidByText := true, laidKinds := [.data, .data], laidTests := true, laidLooks := .later }
def ScanBackUptoCardSaid : Prop := Claim7.holds Tryd.pinned (.plain (OpenSpec.upto scanBackSpec)) scanBackUptoCard

/-- THE SECOND FORM's CARD OF 'treadlelaw13.ScanStops'. -/
def scanStopsUptoCard : Claim7 := { stood := { row := scanStopsUptoRow, standIns := [], harness := (true, "baa0e6bfbc8aeb1b3729b9d1c8cf0c7af0ff8ac9482e525ccdbacbbb94cd90e1"), looks := true }, kinds := [], alts := [], laidByText := true, laidKinds := [.data, .data], laidTests := true, laidLooks := .later }
def ScanStopsUptoCardSaid : Prop := Claim7.holds Tryd.pinned (.plain (OpenSpec.upto scanStopsSpec)) scanStopsUptoCard
end Rows
end Go.Proofs.YtlpengaclkidiaaDoor
