/-
  NARROWER THAN 'FOR EVERY INPUT', by the rows' own cells (each row's printed sentence says how): LexNexts: laid · LexAlls: laid · LexReads: laid · LexQuotes: laid · LexPlaces: laid · LexMunch: laid.
  DERIVED. THE GIVEN ROWS OF THIS SEAT. 6 by the template 'for every input the law returns true; each argument reads behind the call as it read before'; 0 by the template 'total and deterministic' (their statements: YtgihbllkjoegcaaDoorTotals.lean).
  GIVEN WITH THE SEED: the statements are not yours to turn. If you find one false, say at which input.
  Laid BY PROGRAM, IN A SANDBOX (cutbox-rows.mjs): the forced cells as the released guide's own fill.sh prints them over the translation 4644afa8fa6ffc49… (all of the seat's roots in one cut). By AI agents, Wed Nov 11 2026. No macro, syntax, notation, axiom, sorry.
-/
import Derived.Test.YtgihbllkjoegcaaDoorChecked
import GoSem.Claim
import GoSem.ClaimJoined
import GoSem.ClaimMapViews
import Derived.JoinedTies
import Derived.KernelRfl
namespace Go.Proofs.YtgihbllkjoegcaaDoor
/- THE CELL 'sum', in the pinned program and in every row, IS THE sha256 OF THE DUMP (.gsa) THAT YtgihbllkjoegcaaDoorProg.lean LOADS. Nothing in Lean hashes anything: it is a label: what it is worth is what the hold of that sum in a sandbox is worth. -/
noncomputable def Tryd.pinned : Pinned := { name := "ytgihbllkjoegcaadoor", sum := "4644afa8fa6ffc499d22de30090d950892ac3cc91580562d0393940d46d6def0", checked := Tryd.checked }
namespace Rows
def none {H : Type} : Left H := { results := [], args := [] }

/- WHAT THE LISTED PACKAGE-LEVEL VARIABLES READ AS WHEN THE CALL BEGINS. Each datum BY PROGRAM (the guide's laid-datum.mjs) off the statement by which the dump's own 'gosem.cut.vars' lays the variable. In a bare row this is a premise. The card (YtgihbllkjoegcaaDoorCards.lean) ties it to the program's text. -/
def laid_treadle_lex_signs {H : Type} : DataW H := .agg [.lit (.string [61, 61]), .lit (.string [33, 61]), .lit (.string [60, 61]), .lit (.string [62, 61]), .lit (.string [43, 43]), .lit (.string [38, 38]), .lit (.string [124, 124]), .lit (.string [40]), .lit (.string [41]), .lit (.string [123]), .lit (.string [125]), .lit (.string [44]), .lit (.string [59]), .lit (.string [58]), .lit (.string [46]), .lit (.string [61]), .lit (.string [60]), .lit (.string [62]), .lit (.string [43]), .lit (.string [45]), .lit (.string [42]), .lit (.string [47]), .lit (.string [37]), .lit (.string [33]), .lit (.string [35])]
def laid_treadle_lex_keys {H : Type} : DataW H := .agg [.lit (.string [105, 110, 99, 108, 117, 100, 101]), .lit (.string [97, 115]), .lit (.string [101, 120, 112, 111, 114, 116]), .lit (.string [99, 111, 110, 115, 116]), .lit (.string [102, 117, 110, 99]), .lit (.string [118, 97, 114]), .lit (.string [105, 102]), .lit (.string [101, 108, 115, 101]), .lit (.string [119, 104, 105, 108, 101]), .lit (.string [114, 101, 116, 117, 114, 110]), .lit (.string [112, 114, 105, 110, 116]), .lit (.string [116, 114, 117, 101]), .lit (.string [102, 97, 108, 115, 101]), .lit (.string [105, 110, 116]), .lit (.string [98, 111, 111, 108]), .lit (.string [116, 101, 120, 116])]

/-- 'treadlelaw12.LexNexts': WHATEVER THE INPUT: true; the input reads as it did. -/
def lexNextsSpec : ChangeSpec := { name := "lexNexts", fn := fun _ => fun
  | [d1, d2] => { results := [.lit (.bool true)], args := [d1, d2] }
  | _ => none }
def lexNextsRow : OpenClaim := { program := "ytgihbllkjoegcaadoor", sum := "4644afa8fa6ffc499d22de30090d950892ac3cc91580562d0393940d46d6def0", func := "treadle/treadlelaw12.LexNexts", spec := "lexNexts", inPlace := ["internal/bytealg.IndexByteString"], named := ["treadle/lex.keys", "treadle/lex.signs"], apart := false, laid := [("treadle/lex.signs", laid_treadle_lex_signs), ("treadle/lex.keys", laid_treadle_lex_keys)] }
def LexNextsSaid : Prop := lexNextsRow.holds Tryd.pinned (OpenSpec.ofChange lexNextsSpec)

/-- ITS FALSE NEIGHBOUR: 'it returns false'. Refute it at one input. -/
def lexNextsWrong : ChangeSpec := { name := "lexNexts", fn := fun _ => fun
  | [d1, d2] => { results := [.lit (.bool false)], args := [d1, d2] }
  | _ => none }
def LexNextsWrongFalsely : Prop := lexNextsRow.holds Tryd.pinned (OpenSpec.ofChange lexNextsWrong)

/-- 'treadlelaw12.LexAlls': WHATEVER THE INPUT: true; the input reads as it did. -/
def lexAllsSpec : ChangeSpec := { name := "lexAlls", fn := fun _ => fun
  | [d] => { results := [.lit (.bool true)], args := [d] }
  | _ => none }
def lexAllsRow : OpenClaim := { program := "ytgihbllkjoegcaadoor", sum := "4644afa8fa6ffc499d22de30090d950892ac3cc91580562d0393940d46d6def0", func := "treadle/treadlelaw12.LexAlls", spec := "lexAlls", inPlace := ["internal/bytealg.IndexByteString"], named := ["treadle/lex.keys", "treadle/lex.signs"], apart := false, laid := [("treadle/lex.signs", laid_treadle_lex_signs), ("treadle/lex.keys", laid_treadle_lex_keys)] }
def LexAllsSaid : Prop := lexAllsRow.holds Tryd.pinned (OpenSpec.ofChange lexAllsSpec)

/-- ITS FALSE NEIGHBOUR: 'it returns false'. Refute it at one input. -/
def lexAllsWrong : ChangeSpec := { name := "lexAlls", fn := fun _ => fun
  | [d] => { results := [.lit (.bool false)], args := [d] }
  | _ => none }
def LexAllsWrongFalsely : Prop := lexAllsRow.holds Tryd.pinned (OpenSpec.ofChange lexAllsWrong)

/-- 'treadlelaw12.LexReads': WHATEVER THE INPUT: true; the input reads as it did. -/
def lexReadsSpec : ChangeSpec := { name := "lexReads", fn := fun _ => fun
  | [d] => { results := [.lit (.bool true)], args := [d] }
  | _ => none }
def lexReadsRow : OpenClaim := { program := "ytgihbllkjoegcaadoor", sum := "4644afa8fa6ffc499d22de30090d950892ac3cc91580562d0393940d46d6def0", func := "treadle/treadlelaw12.LexReads", spec := "lexReads", inPlace := ["internal/bytealg.IndexByteString", "internal/abi.NoEscape"], named := ["treadle/lex.keys", "treadle/lex.signs"], apart := false, laid := [("treadle/lex.signs", laid_treadle_lex_signs), ("treadle/lex.keys", laid_treadle_lex_keys)] }
def LexReadsSaid : Prop := lexReadsRow.holds Tryd.pinned (OpenSpec.ofChange lexReadsSpec)

/-- ITS FALSE NEIGHBOUR: 'it returns false'. Refute it at one input. -/
def lexReadsWrong : ChangeSpec := { name := "lexReads", fn := fun _ => fun
  | [d] => { results := [.lit (.bool false)], args := [d] }
  | _ => none }
def LexReadsWrongFalsely : Prop := lexReadsRow.holds Tryd.pinned (OpenSpec.ofChange lexReadsWrong)

/-- 'treadlelaw12.LexQuotes': WHATEVER THE INPUT: true; the input reads as it did. -/
def lexQuotesSpec : ChangeSpec := { name := "lexQuotes", fn := fun _ => fun
  | [d] => { results := [.lit (.bool true)], args := [d] }
  | _ => none }
def lexQuotesRow : OpenClaim := { program := "ytgihbllkjoegcaadoor", sum := "4644afa8fa6ffc499d22de30090d950892ac3cc91580562d0393940d46d6def0", func := "treadle/treadlelaw12.LexQuotes", spec := "lexQuotes", inPlace := ["internal/abi.NoEscape", "internal/bytealg.IndexByteString"], named := ["treadle/lex.keys", "treadle/lex.signs"], apart := false, laid := [("treadle/lex.signs", laid_treadle_lex_signs), ("treadle/lex.keys", laid_treadle_lex_keys)] }
def LexQuotesSaid : Prop := lexQuotesRow.holds Tryd.pinned (OpenSpec.ofChange lexQuotesSpec)

/-- ITS FALSE NEIGHBOUR: 'it returns false'. Refute it at one input. -/
def lexQuotesWrong : ChangeSpec := { name := "lexQuotes", fn := fun _ => fun
  | [d] => { results := [.lit (.bool false)], args := [d] }
  | _ => none }
def LexQuotesWrongFalsely : Prop := lexQuotesRow.holds Tryd.pinned (OpenSpec.ofChange lexQuotesWrong)

/-- 'treadlelaw12.LexPlaces': WHATEVER THE INPUT: true; the input reads as it did. -/
def lexPlacesSpec : ChangeSpec := { name := "lexPlaces", fn := fun _ => fun
  | [d1, d2] => { results := [.lit (.bool true)], args := [d1, d2] }
  | _ => none }
def lexPlacesRow : OpenClaim := { program := "ytgihbllkjoegcaadoor", sum := "4644afa8fa6ffc499d22de30090d950892ac3cc91580562d0393940d46d6def0", func := "treadle/treadlelaw12.LexPlaces", spec := "lexPlaces", inPlace := ["internal/bytealg.CountString", "internal/bytealg.IndexByteString", "internal/bytealg.IndexString"], named := ["internal/bytealg.MaxLen", "treadle/lex.keys", "treadle/lex.signs"], apart := false, laid := [("treadle/lex.signs", laid_treadle_lex_signs), ("treadle/lex.keys", laid_treadle_lex_keys)] }
def LexPlacesSaid : Prop := lexPlacesRow.holds Tryd.pinned (OpenSpec.ofChange lexPlacesSpec)

/-- ITS FALSE NEIGHBOUR: 'it returns false'. Refute it at one input. -/
def lexPlacesWrong : ChangeSpec := { name := "lexPlaces", fn := fun _ => fun
  | [d1, d2] => { results := [.lit (.bool false)], args := [d1, d2] }
  | _ => none }
def LexPlacesWrongFalsely : Prop := lexPlacesRow.holds Tryd.pinned (OpenSpec.ofChange lexPlacesWrong)

/-- 'treadlelaw12.LexMunch': WHATEVER THE INPUT: true; the input reads as it did. -/
def lexMunchSpec : ChangeSpec := { name := "lexMunch", fn := fun _ => fun
  | [d] => { results := [.lit (.bool true)], args := [d] }
  | _ => none }
def lexMunchRow : OpenClaim := { program := "ytgihbllkjoegcaadoor", sum := "4644afa8fa6ffc499d22de30090d950892ac3cc91580562d0393940d46d6def0", func := "treadle/treadlelaw12.LexMunch", spec := "lexMunch", inPlace := ["internal/bytealg.IndexByteString"], named := ["treadle/lex.keys", "treadle/lex.signs"], apart := false, laid := [("treadle/lex.signs", laid_treadle_lex_signs), ("treadle/lex.keys", laid_treadle_lex_keys)] }
def LexMunchSaid : Prop := lexMunchRow.holds Tryd.pinned (OpenSpec.ofChange lexMunchSpec)

/-- ITS FALSE NEIGHBOUR: 'it returns false'. Refute it at one input. -/
def lexMunchWrong : ChangeSpec := { name := "lexMunch", fn := fun _ => fun
  | [d] => { results := [.lit (.bool false)], args := [d] }
  | _ => none }
def LexMunchWrongFalsely : Prop := lexMunchRow.holds Tryd.pinned (OpenSpec.ofChange lexMunchWrong)

/- THE SECOND FORM. 'bulk': how many values and letters a reading holds, each counted each time it is reached (what is shared counts as often as it is met; a slice's spare places count too). A statement '..UptoSaid' is the law's where the arguments, and the package variables that the reading takes, are together of bulk at most 1048576: NARROWER than '..Said'. Prove '..Said' where nothing that the law and all that it calls make is longer than what came in: it says more and counts as full. Else prove '..UptoSaid'. A law counts once. -/
mutual
def uptoBulk {H : Type} : DataW H → Nat
  | .lit (.string bytes) => bytes.length + 1
  | .lit _ => 1
  | .nil => 1
  | .ptr d => uptoBulk d + 1
  | .slice elems spare => uptoBulkAll elems + uptoBulkAll spare + 1
  | .agg parts => uptoBulkAll parts + 1
  | .iface _ d => uptoBulk d + 1
  | .map entries => uptoBulkEntries entries + 1
  | .held _ => 1
def uptoBulkAll {H : Type} : List (DataW H) → Nat
  | [] => 0
  | d :: r => uptoBulk d + uptoBulkAll r
def uptoBulkEntries {H : Type} : List (Lit × DataW H) → Nat
  | [] => 0
  | x :: r => uptoBulkEntry x + uptoBulkEntries r
def uptoBulkEntry {H : Type} : Lit × DataW H → Nat
  | (.string bytes, d) => bytes.length + uptoBulk d + 1
  | (_, d) => uptoBulk d + 1
 end
def uptoSmall : (H : Type) → List (DataW H) → Bool := fun _ ds => decide (uptoBulkAll ds ≤ 1048576)
def OpenSpec.upto (s : _root_.Go.ChangeSpec) : _root_.Go.OpenSpec := { _root_.Go.OpenSpec.ofChange s with cond := some uptoSmall }

/-- 'treadlelaw12.LexNexts', WHERE WHAT IT READS IS OF BULK AT MOST 1048576: true; the input reads as it did. -/
def lexNextsUptoRow : OpenClaim := { program := "ytgihbllkjoegcaadoor", sum := "4644afa8fa6ffc499d22de30090d950892ac3cc91580562d0393940d46d6def0", func := "treadle/treadlelaw12.LexNexts", spec := "lexNexts", inPlace := ["internal/bytealg.IndexByteString"], named := ["treadle/lex.keys", "treadle/lex.signs"], apart := false, laid := [("treadle/lex.signs", laid_treadle_lex_signs), ("treadle/lex.keys", laid_treadle_lex_keys)], narrowed := true }
def LexNextsUptoSaid : Prop := lexNextsUptoRow.holds Tryd.pinned (OpenSpec.upto lexNextsSpec)

/-- 'treadlelaw12.LexAlls', WHERE WHAT IT READS IS OF BULK AT MOST 1048576: true; the input reads as it did. -/
def lexAllsUptoRow : OpenClaim := { program := "ytgihbllkjoegcaadoor", sum := "4644afa8fa6ffc499d22de30090d950892ac3cc91580562d0393940d46d6def0", func := "treadle/treadlelaw12.LexAlls", spec := "lexAlls", inPlace := ["internal/bytealg.IndexByteString"], named := ["treadle/lex.keys", "treadle/lex.signs"], apart := false, laid := [("treadle/lex.signs", laid_treadle_lex_signs), ("treadle/lex.keys", laid_treadle_lex_keys)], narrowed := true }
def LexAllsUptoSaid : Prop := lexAllsUptoRow.holds Tryd.pinned (OpenSpec.upto lexAllsSpec)

/-- 'treadlelaw12.LexReads', WHERE WHAT IT READS IS OF BULK AT MOST 1048576: true; the input reads as it did. -/
def lexReadsUptoRow : OpenClaim := { program := "ytgihbllkjoegcaadoor", sum := "4644afa8fa6ffc499d22de30090d950892ac3cc91580562d0393940d46d6def0", func := "treadle/treadlelaw12.LexReads", spec := "lexReads", inPlace := ["internal/bytealg.IndexByteString", "internal/abi.NoEscape"], named := ["treadle/lex.keys", "treadle/lex.signs"], apart := false, laid := [("treadle/lex.signs", laid_treadle_lex_signs), ("treadle/lex.keys", laid_treadle_lex_keys)], narrowed := true }
def LexReadsUptoSaid : Prop := lexReadsUptoRow.holds Tryd.pinned (OpenSpec.upto lexReadsSpec)

/-- 'treadlelaw12.LexQuotes', WHERE WHAT IT READS IS OF BULK AT MOST 1048576: true; the input reads as it did. -/
def lexQuotesUptoRow : OpenClaim := { program := "ytgihbllkjoegcaadoor", sum := "4644afa8fa6ffc499d22de30090d950892ac3cc91580562d0393940d46d6def0", func := "treadle/treadlelaw12.LexQuotes", spec := "lexQuotes", inPlace := ["internal/abi.NoEscape", "internal/bytealg.IndexByteString"], named := ["treadle/lex.keys", "treadle/lex.signs"], apart := false, laid := [("treadle/lex.signs", laid_treadle_lex_signs), ("treadle/lex.keys", laid_treadle_lex_keys)], narrowed := true }
def LexQuotesUptoSaid : Prop := lexQuotesUptoRow.holds Tryd.pinned (OpenSpec.upto lexQuotesSpec)

/-- 'treadlelaw12.LexPlaces', WHERE WHAT IT READS IS OF BULK AT MOST 1048576: true; the input reads as it did. -/
def lexPlacesUptoRow : OpenClaim := { program := "ytgihbllkjoegcaadoor", sum := "4644afa8fa6ffc499d22de30090d950892ac3cc91580562d0393940d46d6def0", func := "treadle/treadlelaw12.LexPlaces", spec := "lexPlaces", inPlace := ["internal/bytealg.CountString", "internal/bytealg.IndexByteString", "internal/bytealg.IndexString"], named := ["internal/bytealg.MaxLen", "treadle/lex.keys", "treadle/lex.signs"], apart := false, laid := [("treadle/lex.signs", laid_treadle_lex_signs), ("treadle/lex.keys", laid_treadle_lex_keys)], narrowed := true }
def LexPlacesUptoSaid : Prop := lexPlacesUptoRow.holds Tryd.pinned (OpenSpec.upto lexPlacesSpec)

/-- 'treadlelaw12.LexMunch', WHERE WHAT IT READS IS OF BULK AT MOST 1048576: true; the input reads as it did. -/
def lexMunchUptoRow : OpenClaim := { program := "ytgihbllkjoegcaadoor", sum := "4644afa8fa6ffc499d22de30090d950892ac3cc91580562d0393940d46d6def0", func := "treadle/treadlelaw12.LexMunch", spec := "lexMunch", inPlace := ["internal/bytealg.IndexByteString"], named := ["treadle/lex.keys", "treadle/lex.signs"], apart := false, laid := [("treadle/lex.signs", laid_treadle_lex_signs), ("treadle/lex.keys", laid_treadle_lex_keys)], narrowed := true }
def LexMunchUptoSaid : Prop := lexMunchUptoRow.holds Tryd.pinned (OpenSpec.upto lexMunchSpec)

end Rows
end Go.Proofs.YtgihbllkjoegcaaDoor
