/-
  DERIVED. GIVEN WITH THE SEED: THE CARDS: each row of YtgihbllkjoegcabDoorRows.lean that lists a variable, with what it lists TIED to the program's text (the seventh form; the later family's looks); each row that meets fmt, with fmt's text TOLD by the authors' own Lean function (tested against real Go, not proved from fmt's source: count such statements apart). THE CARD IS WHAT COUNTS. Prove the row's statement (the work); the ties are given (YtgihbllkjoegcabDoorTie.lean); close each card by the builder's one call (the guide's Derived/Test/ToyasCard.lean, 'card_holds'). Laid BY PROGRAM, IN A SANDBOX (cutbox-door.mjs). By AI agents, Wed Nov 11 2026. No macro, syntax, notation, axiom, sorry.
-/
import Derived.Test.YtgihbllkjoegcabDoorRows
import GoSem.ClaimSeven
namespace Go.Proofs.YtgihbllkjoegcabDoor
namespace Rows

/-- THE TIED CARD OF 'treadlelaw12.LexSpreads'. -/
def lexSpreadsCard : Claim7 := { stood := { row := lexSpreadsRow, standIns := [], harness := (true, "dd45d0c06fdbf90e504012324aa6aa9bc6cd67a76b954a41d092240cc9e1d354"), looks := false }, kinds := [], alts := [], laidByText := true, laidKinds := [.data, .data], laidTests := true, laidLooks := .later }
def LexSpreadsCardSaid : Prop := Claim7.holds Tryd.pinned (.plain (OpenSpec.ofChange lexSpreadsSpec)) lexSpreadsCard

/-- THE TIED CARD OF 'treadlelaw12.LexLost'. -/
def lexLostCard : Claim7 := { stood := { row := lexLostRow, standIns := [], harness := (true, "dd45d0c06fdbf90e504012324aa6aa9bc6cd67a76b954a41d092240cc9e1d354"), looks := false }, kinds := [], alts := [], laidByText := true, laidKinds := [.data, .data], laidTests := true, laidLooks := .later }
def LexLostCardSaid : Prop := Claim7.holds Tryd.pinned (.plain (OpenSpec.ofChange lexLostSpec)) lexLostCard

/-- THE TIED CARD OF 'treadlelaw12.LexFirst'. -/
def lexFirstCard : Claim7 := { stood := { row := lexFirstRow, standIns := [], harness := (true, "dd45d0c06fdbf90e504012324aa6aa9bc6cd67a76b954a41d092240cc9e1d354"), looks := false }, kinds := [], alts := [], laidByText := true, laidKinds := [.data, .data], laidTests := true, laidLooks := .later }
def LexFirstCardSaid : Prop := Claim7.holds Tryd.pinned (.plain (OpenSpec.ofChange lexFirstSpec)) lexFirstCard

/-- THE TIED CARD OF 'treadlelaw12.LexBack'. -/
def lexBackCard : Claim7 := { stood := { row := lexBackRow, standIns := [], harness := (true, "dd45d0c06fdbf90e504012324aa6aa9bc6cd67a76b954a41d092240cc9e1d354"), looks := false }, kinds := [], alts := [], laidByText := true, laidKinds := [.data, .data], laidTests := true, laidLooks := .later }
def LexBackCardSaid : Prop := Claim7.holds Tryd.pinned (.plain (OpenSpec.ofChange lexBackSpec)) lexBackCard

/-- THE TIED CARD OF 'treadlelaw12.LexOwn'. -/
def lexOwnCard : Claim7 := { stood := { row := lexOwnRow, standIns := [], harness := (true, "dd45d0c06fdbf90e504012324aa6aa9bc6cd67a76b954a41d092240cc9e1d354"), looks := false }, kinds := [], alts := [], laidByText := true, laidKinds := [.data, .data], laidTests := true, laidLooks := .later }
def LexOwnCardSaid : Prop := Claim7.holds Tryd.pinned (.plain (OpenSpec.ofChange lexOwnSpec)) lexOwnCard

/-- THE SECOND FORM's CARD OF 'treadlelaw12.LexSpreads'. -/
def lexSpreadsUptoCard : Claim7 := { stood := { row := lexSpreadsUptoRow, standIns := [], harness := (true, "dd45d0c06fdbf90e504012324aa6aa9bc6cd67a76b954a41d092240cc9e1d354"), looks := false }, kinds := [], alts := [], laidByText := true, laidKinds := [.data, .data], laidTests := true, laidLooks := .later }
def LexSpreadsUptoCardSaid : Prop := Claim7.holds Tryd.pinned (.plain (OpenSpec.upto lexSpreadsSpec)) lexSpreadsUptoCard

/-- THE SECOND FORM's CARD OF 'treadlelaw12.LexLost'. -/
def lexLostUptoCard : Claim7 := { stood := { row := lexLostUptoRow, standIns := [], harness := (true, "dd45d0c06fdbf90e504012324aa6aa9bc6cd67a76b954a41d092240cc9e1d354"), looks := false }, kinds := [], alts := [], laidByText := true, laidKinds := [.data, .data], laidTests := true, laidLooks := .later }
def LexLostUptoCardSaid : Prop := Claim7.holds Tryd.pinned (.plain (OpenSpec.upto lexLostSpec)) lexLostUptoCard

/-- THE SECOND FORM's CARD OF 'treadlelaw12.LexFirst'. -/
def lexFirstUptoCard : Claim7 := { stood := { row := lexFirstUptoRow, standIns := [], harness := (true, "dd45d0c06fdbf90e504012324aa6aa9bc6cd67a76b954a41d092240cc9e1d354"), looks := false }, kinds := [], alts := [], laidByText := true, laidKinds := [.data, .data], laidTests := true, laidLooks := .later }
def LexFirstUptoCardSaid : Prop := Claim7.holds Tryd.pinned (.plain (OpenSpec.upto lexFirstSpec)) lexFirstUptoCard

/-- THE SECOND FORM's CARD OF 'treadlelaw12.LexBack'. -/
def lexBackUptoCard : Claim7 := { stood := { row := lexBackUptoRow, standIns := [], harness := (true, "dd45d0c06fdbf90e504012324aa6aa9bc6cd67a76b954a41d092240cc9e1d354"), looks := false }, kinds := [], alts := [], laidByText := true, laidKinds := [.data, .data], laidTests := true, laidLooks := .later }
def LexBackUptoCardSaid : Prop := Claim7.holds Tryd.pinned (.plain (OpenSpec.upto lexBackSpec)) lexBackUptoCard

/-- THE SECOND FORM's CARD OF 'treadlelaw12.LexOwn'. -/
def lexOwnUptoCard : Claim7 := { stood := { row := lexOwnUptoRow, standIns := [], harness := (true, "dd45d0c06fdbf90e504012324aa6aa9bc6cd67a76b954a41d092240cc9e1d354"), looks := false }, kinds := [], alts := [], laidByText := true, laidKinds := [.data, .data], laidTests := true, laidLooks := .later }
def LexOwnUptoCardSaid : Prop := Claim7.holds Tryd.pinned (.plain (OpenSpec.upto lexOwnSpec)) lexOwnUptoCard
end Rows
end Go.Proofs.YtgihbllkjoegcabDoor
