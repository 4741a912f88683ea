/-
  DERIVED. GIVEN WITH THE SEED: THE CARDS: each row of YticmdmnjajjpbabDoorRows.lean that lists a variable, with what it lists TIED to the program's text (the seventh form; the later family's looks); each row that meets fmt, with fmt's text TOLD by the authors' own Lean function (tested against real Go, not proved from fmt's source: count such statements apart). THE CARD IS WHAT COUNTS. Prove the row's statement (the work); the ties are given (YticmdmnjajjpbabDoorTie.lean); close each card by the builder's one call (the guide's Derived/Test/ToyasCard.lean, 'card_holds'). Laid BY PROGRAM, IN A SANDBOX (cutbox-door.mjs). By AI agents, Wed Nov 11 2026. No macro, syntax, notation, axiom, sorry.
-/
import Derived.Test.YticmdmnjajjpbabDoorRows
import GoSem.ClaimSeven
namespace Go.Proofs.YticmdmnjajjpbabDoor
namespace Rows

/-- THE TIED CARD OF 'treadlelaw02.ShaLoads'. -/
def shaLoadsCard : Claim7 := { stood := { row := shaLoadsRow, standIns := [], harness := (true, "82e4171d35b326721b43c2cc120d5fb96f9feeefa98b9c7d0867b0081a673a12"), looks := false }, kinds := [], alts := [], laidByText := true, laidKinds := [.data, .data, .data], laidTests := true, laidLooks := .later }
def ShaLoadsCardSaid : Prop := Claim7.holds Tryd.pinned (.plain (OpenSpec.ofChange shaLoadsSpec)) shaLoadsCard

/-- THE TIED CARD OF 'treadlelaw02.ShaCuts'. -/
def shaCutsCard : Claim7 := { stood := { row := shaCutsRow, standIns := [], harness := (true, "82e4171d35b326721b43c2cc120d5fb96f9feeefa98b9c7d0867b0081a673a12"), looks := false }, kinds := [], alts := [], laidByText := true, laidKinds := [.data, .data], laidTests := true, laidLooks := .later }
def ShaCutsCardSaid : Prop := Claim7.holds Tryd.pinned (.plain (OpenSpec.ofChange shaCutsSpec)) shaCutsCard

/-- THE TIED CARD OF 'treadlelaw02.ShaExtends'. -/
def shaExtendsCard : Claim7 := { stood := { row := shaExtendsRow, standIns := [], harness := (true, "82e4171d35b326721b43c2cc120d5fb96f9feeefa98b9c7d0867b0081a673a12"), looks := false }, kinds := [], alts := [], laidByText := true, laidKinds := [.data, .data], laidTests := true, laidLooks := .later }
def ShaExtendsCardSaid : Prop := Claim7.holds Tryd.pinned (.plain (OpenSpec.ofChange shaExtendsSpec)) shaExtendsCard

/-- THE TIED CARD OF 'treadlelaw02.ShaApart'. -/
def shaApartCard : Claim7 := { stood := { row := shaApartRow, standIns := [], harness := (true, "82e4171d35b326721b43c2cc120d5fb96f9feeefa98b9c7d0867b0081a673a12"), looks := false }, kinds := [], alts := [], laidByText := true, laidKinds := [.data, .data], laidTests := true, laidLooks := .later }
def ShaApartCardSaid : Prop := Claim7.holds Tryd.pinned (.plain (OpenSpec.ofChange shaApartSpec)) shaApartCard

/-- THE TIED CARD OF 'treadlelaw02.ShaFull'. -/
def shaFullCard : Claim7 := { stood := { row := shaFullRow, standIns := [], harness := (true, "82e4171d35b326721b43c2cc120d5fb96f9feeefa98b9c7d0867b0081a673a12"), looks := false }, kinds := [], alts := [], laidByText := true, laidKinds := [.data, .data], laidTests := true, laidLooks := .later }
def ShaFullCardSaid : Prop := Claim7.holds Tryd.pinned (.plain (OpenSpec.ofChange shaFullSpec)) shaFullCard

/-- THE TIED CARD OF 'treadlelaw02.ShaBack'. -/
def shaBackCard : Claim7 := { stood := { row := shaBackRow, standIns := [], harness := (true, "82e4171d35b326721b43c2cc120d5fb96f9feeefa98b9c7d0867b0081a673a12"), looks := false }, kinds := [], alts := [], laidByText := true, laidKinds := [.data, .data], laidTests := true, laidLooks := .later }
def ShaBackCardSaid : Prop := Claim7.holds Tryd.pinned (.plain (OpenSpec.ofChange shaBackSpec)) shaBackCard

/-- THE SECOND FORM's CARD OF 'treadlelaw02.ShaLoads'. -/
def shaLoadsUptoCard : Claim7 := { stood := { row := shaLoadsUptoRow, standIns := [], harness := (true, "82e4171d35b326721b43c2cc120d5fb96f9feeefa98b9c7d0867b0081a673a12"), looks := false }, kinds := [], alts := [], laidByText := true, laidKinds := [.data, .data, .data], laidTests := true, laidLooks := .later }
def ShaLoadsUptoCardSaid : Prop := Claim7.holds Tryd.pinned (.plain (OpenSpec.upto shaLoadsSpec)) shaLoadsUptoCard

/-- THE SECOND FORM's CARD OF 'treadlelaw02.ShaCuts'. -/
def shaCutsUptoCard : Claim7 := { stood := { row := shaCutsUptoRow, standIns := [], harness := (true, "82e4171d35b326721b43c2cc120d5fb96f9feeefa98b9c7d0867b0081a673a12"), looks := false }, kinds := [], alts := [], laidByText := true, laidKinds := [.data, .data], laidTests := true, laidLooks := .later }
def ShaCutsUptoCardSaid : Prop := Claim7.holds Tryd.pinned (.plain (OpenSpec.upto shaCutsSpec)) shaCutsUptoCard

/-- THE SECOND FORM's CARD OF 'treadlelaw02.ShaExtends'. -/
def shaExtendsUptoCard : Claim7 := { stood := { row := shaExtendsUptoRow, standIns := [], harness := (true, "82e4171d35b326721b43c2cc120d5fb96f9feeefa98b9c7d0867b0081a673a12"), looks := false }, kinds := [], alts := [], laidByText := true, laidKinds := [.data, .data], laidTests := true, laidLooks := .later }
def ShaExtendsUptoCardSaid : Prop := Claim7.holds Tryd.pinned (.plain (OpenSpec.upto shaExtendsSpec)) shaExtendsUptoCard

/-- THE SECOND FORM's CARD OF 'treadlelaw02.ShaApart'. -/
def shaApartUptoCard : Claim7 := { stood := { row := shaApartUptoRow, standIns := [], harness := (true, "82e4171d35b326721b43c2cc120d5fb96f9feeefa98b9c7d0867b0081a673a12"), looks := false }, kinds := [], alts := [], laidByText := true, laidKinds := [.data, .data], laidTests := true, laidLooks := .later }
def ShaApartUptoCardSaid : Prop := Claim7.holds Tryd.pinned (.plain (OpenSpec.upto shaApartSpec)) shaApartUptoCard

/-- THE SECOND FORM's CARD OF 'treadlelaw02.ShaFull'. -/
def shaFullUptoCard : Claim7 := { stood := { row := shaFullUptoRow, standIns := [], harness := (true, "82e4171d35b326721b43c2cc120d5fb96f9feeefa98b9c7d0867b0081a673a12"), looks := false }, kinds := [], alts := [], laidByText := true, laidKinds := [.data, .data], laidTests := true, laidLooks := .later }
def ShaFullUptoCardSaid : Prop := Claim7.holds Tryd.pinned (.plain (OpenSpec.upto shaFullSpec)) shaFullUptoCard

/-- THE SECOND FORM's CARD OF 'treadlelaw02.ShaBack'. -/
def shaBackUptoCard : Claim7 := { stood := { row := shaBackUptoRow, standIns := [], harness := (true, "82e4171d35b326721b43c2cc120d5fb96f9feeefa98b9c7d0867b0081a673a12"), looks := false }, kinds := [], alts := [], laidByText := true, laidKinds := [.data, .data], laidTests := true, laidLooks := .later }
def ShaBackUptoCardSaid : Prop := Claim7.holds Tryd.pinned (.plain (OpenSpec.upto shaBackSpec)) shaBackUptoCard
end Rows
end Go.Proofs.YticmdmnjajjpbabDoor
