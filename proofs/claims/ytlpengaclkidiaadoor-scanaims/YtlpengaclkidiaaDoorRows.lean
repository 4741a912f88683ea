/-
  NARROWER THAN 'FOR EVERY INPUT', by the rows' own cells (each row's printed sentence says how): ScanFinds: laid · ScanAims: laid · ScanPuts: laid · ScanBack: laid · ScanStops: laid.
  DERIVED. THE GIVEN ROWS OF THIS SEAT. 5 by the template 'for every input the law returns true; each argument reads behind the call as it read before'; 0 by the template 'total and deterministic' (their statements: YtlpengaclkidiaaDoorTotals.lean).
  GIVEN WITH THE SEED: the statements are not yours to turn. If you find one false, say at which input.
  Laid BY PROGRAM, IN A SANDBOX (cutbox-rows.mjs): the forced cells as the released guide's own fill.sh prints them over the translation 6edb7356ac482032… (all of the seat's roots in one cut). By AI agents, Wed Nov 11 2026. No macro, syntax, notation, axiom, sorry.
-/
import Derived.Test.YtlpengaclkidiaaDoorChecked
import GoSem.PinnedTables
import GoSem.Claim
import GoSem.ClaimJoined
import GoSem.ClaimMapViews
import Derived.JoinedTies
import Derived.KernelRfl
namespace Go.Proofs.YtlpengaclkidiaaDoor
/- THE CELL 'sum', in the pinned program and in every row, IS THE sha256 OF THE DUMP (.gsa) THAT YtlpengaclkidiaaDoorProg.lean LOADS. Nothing in Lean hashes anything: it is a label: what it is worth is what the hold of that sum in a sandbox is worth. -/
noncomputable def Tryd.pinned : Pinned := { name := "ytlpengaclkidiaadoor", sum := "6edb7356ac482032f4fc8508e4e5bd5a317984ddccc16edfee1f6d194791b15f", checked := Tryd.checked }
namespace Rows
def none {H : Type} : Left H := { results := [], args := [] }

/- WHAT THE LISTED PACKAGE-LEVEL VARIABLES READ AS WHEN THE CALL BEGINS. Each datum BY PROGRAM (the guide's laid-datum.mjs) off the statement by which the dump's own 'gosem.cut.vars' lays the variable. In a bare row this is a premise. The card (YtlpengaclkidiaaDoorCards.lean) ties it to the program's text. -/
def laid_treadle_lex_signs {H : Type} : DataW H := .agg [.lit (.string [61, 61]), .lit (.string [33, 61]), .lit (.string [60, 61]), .lit (.string [62, 61]), .lit (.string [43, 43]), .lit (.string [38, 38]), .lit (.string [124, 124]), .lit (.string [40]), .lit (.string [41]), .lit (.string [123]), .lit (.string [125]), .lit (.string [44]), .lit (.string [59]), .lit (.string [58]), .lit (.string [46]), .lit (.string [61]), .lit (.string [60]), .lit (.string [62]), .lit (.string [43]), .lit (.string [45]), .lit (.string [42]), .lit (.string [47]), .lit (.string [37]), .lit (.string [33]), .lit (.string [35])]
def laid_treadle_lex_keys {H : Type} : DataW H := .agg [.lit (.string [105, 110, 99, 108, 117, 100, 101]), .lit (.string [97, 115]), .lit (.string [101, 120, 112, 111, 114, 116]), .lit (.string [99, 111, 110, 115, 116]), .lit (.string [102, 117, 110, 99]), .lit (.string [118, 97, 114]), .lit (.string [105, 102]), .lit (.string [101, 108, 115, 101]), .lit (.string [119, 104, 105, 108, 101]), .lit (.string [114, 101, 116, 117, 114, 110]), .lit (.string [112, 114, 105, 110, 116]), .lit (.string [116, 114, 117, 101]), .lit (.string [102, 97, 108, 115, 101]), .lit (.string [105, 110, 116]), .lit (.string [98, 111, 111, 108]), .lit (.string [116, 101, 120, 116])]
def laid_unicode_utf8_acceptRanges {H : Type} : DataW H := .agg [.agg [.lit (.int .u8 128), .lit (.int .u8 191)], .agg [.lit (.int .u8 160), .lit (.int .u8 191)], .agg [.lit (.int .u8 128), .lit (.int .u8 159)], .agg [.lit (.int .u8 144), .lit (.int .u8 191)], .agg [.lit (.int .u8 128), .lit (.int .u8 143)], .agg [.lit (.int .u8 0), .lit (.int .u8 0)], .agg [.lit (.int .u8 0), .lit (.int .u8 0)], .agg [.lit (.int .u8 0), .lit (.int .u8 0)], .agg [.lit (.int .u8 0), .lit (.int .u8 0)], .agg [.lit (.int .u8 0), .lit (.int .u8 0)], .agg [.lit (.int .u8 0), .lit (.int .u8 0)], .agg [.lit (.int .u8 0), .lit (.int .u8 0)], .agg [.lit (.int .u8 0), .lit (.int .u8 0)], .agg [.lit (.int .u8 0), .lit (.int .u8 0)], .agg [.lit (.int .u8 0), .lit (.int .u8 0)], .agg [.lit (.int .u8 0), .lit (.int .u8 0)]]
/-- One of Go's own tables, pinned by name: the form's constant. -/
def laid_unicode_utf8_first : DataW Unit := Go.Pinned.utf8First

/-- 'treadlelaw13.ScanFinds': WHATEVER THE INPUT: true; the input reads as it did. -/
def scanFindsSpec : ChangeSpec := { name := "scanFinds", fn := fun _ => fun
  | [d] => { results := [.lit (.bool true)], args := [d] }
  | _ => none }
def scanFindsRow : OpenClaim := { program := "ytlpengaclkidiaadoor", sum := "6edb7356ac482032f4fc8508e4e5bd5a317984ddccc16edfee1f6d194791b15f", func := "treadle/treadlelaw13.ScanFinds", spec := "scanFinds", inPlace := ["internal/bytealg.IndexByteString", "internal/abi.NoEscape"], unfollowed := true, recurses := true, named := ["treadle/lex.keys", "treadle/lex.signs"], apart := false, laid := [("treadle/lex.signs", laid_treadle_lex_signs), ("treadle/lex.keys", laid_treadle_lex_keys)] }
def ScanFindsSaid : Prop := scanFindsRow.holds Tryd.pinned (OpenSpec.ofChange scanFindsSpec)

/-- ITS FALSE NEIGHBOUR: 'it returns false'. Refute it at one input. -/
def scanFindsWrong : ChangeSpec := { name := "scanFinds", fn := fun _ => fun
  | [d] => { results := [.lit (.bool false)], args := [d] }
  | _ => none }
def ScanFindsWrongFalsely : Prop := scanFindsRow.holds Tryd.pinned (OpenSpec.ofChange scanFindsWrong)

/-- 'treadlelaw13.ScanAims': WHATEVER THE INPUT: true; the input reads as it did. -/
def scanAimsSpec : ChangeSpec := { name := "scanAims", fn := fun _ => fun
  | [d1, d2] => { results := [.lit (.bool true)], args := [d1, d2] }
  | _ => none }
def scanAimsRow : OpenClaim := { program := "ytlpengaclkidiaadoor", sum := "6edb7356ac482032f4fc8508e4e5bd5a317984ddccc16edfee1f6d194791b15f", func := "treadle/treadlelaw13.ScanAims", spec := "scanAims", inPlace := ["internal/bytealg.IndexByteString", "internal/bytealg.IndexString", "internal/bytealg.CountString", "internal/abi.NoEscape", "internal/bytealg.MakeNoZero"], unfollowed := true, recurses := true, named := ["internal/bytealg.MaxLen", "unicode/utf8.first", "unicode/utf8.acceptRanges", "treadle/lex.keys", "treadle/lex.signs"], apart := false, laid := [("unicode/utf8.acceptRanges", laid_unicode_utf8_acceptRanges), ("treadle/lex.signs", laid_treadle_lex_signs), ("treadle/lex.keys", laid_treadle_lex_keys), ("unicode/utf8.first", laid_unicode_utf8_first)] }
def ScanAimsSaid : Prop := scanAimsRow.holds Tryd.pinned (OpenSpec.ofChange scanAimsSpec)

/-- ITS FALSE NEIGHBOUR: 'it returns false'. Refute it at one input. -/
def scanAimsWrong : ChangeSpec := { name := "scanAims", fn := fun _ => fun
  | [d1, d2] => { results := [.lit (.bool false)], args := [d1, d2] }
  | _ => none }
def ScanAimsWrongFalsely : Prop := scanAimsRow.holds Tryd.pinned (OpenSpec.ofChange scanAimsWrong)

/-- 'treadlelaw13.ScanPuts': WHATEVER THE INPUT: true; the input reads as it did. -/
def scanPutsSpec : ChangeSpec := { name := "scanPuts", fn := fun _ => fun
  | [d1, d2] => { results := [.lit (.bool true)], args := [d1, d2] }
  | _ => none }
def scanPutsRow : OpenClaim := { program := "ytlpengaclkidiaadoor", sum := "6edb7356ac482032f4fc8508e4e5bd5a317984ddccc16edfee1f6d194791b15f", func := "treadle/treadlelaw13.ScanPuts", spec := "scanPuts", inPlace := ["internal/bytealg.IndexByteString", "internal/abi.NoEscape"], unfollowed := true, recurses := true, named := ["treadle/lex.keys", "treadle/lex.signs"], apart := false, laid := [("treadle/lex.signs", laid_treadle_lex_signs), ("treadle/lex.keys", laid_treadle_lex_keys)] }
def ScanPutsSaid : Prop := scanPutsRow.holds Tryd.pinned (OpenSpec.ofChange scanPutsSpec)

/-- ITS FALSE NEIGHBOUR: 'it returns false'. Refute it at one input. -/
def scanPutsWrong : ChangeSpec := { name := "scanPuts", fn := fun _ => fun
  | [d1, d2] => { results := [.lit (.bool false)], args := [d1, d2] }
  | _ => none }
def ScanPutsWrongFalsely : Prop := scanPutsRow.holds Tryd.pinned (OpenSpec.ofChange scanPutsWrong)

/-- 'treadlelaw13.ScanBack': WHATEVER THE INPUT: true; the input reads as it did. -/
def scanBackSpec : ChangeSpec := { name := "scanBack", fn := fun _ => fun
  | [d1, d2] => { results := [.lit (.bool true)], args := [d1, d2] }
  | _ => none }
def scanBackRow : OpenClaim := { program := "ytlpengaclkidiaadoor", sum := "6edb7356ac482032f4fc8508e4e5bd5a317984ddccc16edfee1f6d194791b15f", func := "treadle/treadlelaw13.ScanBack", spec := "scanBack", inPlace := ["internal/bytealg.IndexByteString", "internal/abi.NoEscape"], unfollowed := true, recurses := true, named := ["treadle/lex.keys", "treadle/lex.signs"], apart := false, laid := [("treadle/lex.signs", laid_treadle_lex_signs), ("treadle/lex.keys", laid_treadle_lex_keys)] }
def ScanBackSaid : Prop := scanBackRow.holds Tryd.pinned (OpenSpec.ofChange scanBackSpec)

/-- ITS FALSE NEIGHBOUR: 'it returns false'. Refute it at one input. -/
def scanBackWrong : ChangeSpec := { name := "scanBack", fn := fun _ => fun
  | [d1, d2] => { results := [.lit (.bool false)], args := [d1, d2] }
  | _ => none }
def ScanBackWrongFalsely : Prop := scanBackRow.holds Tryd.pinned (OpenSpec.ofChange scanBackWrong)

/-- 'treadlelaw13.ScanStops': WHATEVER THE INPUT: true; the input reads as it did. -/
def scanStopsSpec : ChangeSpec := { name := "scanStops", fn := fun _ => fun
  | [d1, d2] => { results := [.lit (.bool true)], args := [d1, d2] }
  | _ => none }
def scanStopsRow : OpenClaim := { program := "ytlpengaclkidiaadoor", sum := "6edb7356ac482032f4fc8508e4e5bd5a317984ddccc16edfee1f6d194791b15f", func := "treadle/treadlelaw13.ScanStops", spec := "scanStops", inPlace := ["internal/bytealg.IndexByteString", "internal/abi.NoEscape"], unfollowed := true, recurses := true, named := ["treadle/lex.keys", "treadle/lex.signs"], apart := false, laid := [("treadle/lex.signs", laid_treadle_lex_signs), ("treadle/lex.keys", laid_treadle_lex_keys)] }
def ScanStopsSaid : Prop := scanStopsRow.holds Tryd.pinned (OpenSpec.ofChange scanStopsSpec)

/-- ITS FALSE NEIGHBOUR: 'it returns false'. Refute it at one input. -/
def scanStopsWrong : ChangeSpec := { name := "scanStops", fn := fun _ => fun
  | [d1, d2] => { results := [.lit (.bool false)], args := [d1, d2] }
  | _ => none }
def ScanStopsWrongFalsely : Prop := scanStopsRow.holds Tryd.pinned (OpenSpec.ofChange scanStopsWrong)

/- THE SECOND FORM. 'bulk': how many values and letters a reading holds, each counted each time it is reached (what is shared counts as often as it is met; a slice's spare places count too). A statement '..UptoSaid' is the law's where the arguments, and the package variables that the reading takes, are together of bulk at most 1048576: NARROWER than '..Said'. Prove '..Said' where nothing that the law and all that it calls make is longer than what came in: it says more and counts as full. Else prove '..UptoSaid'. A law counts once. -/
mutual
def uptoBulk {H : Type} : DataW H → Nat
  | .lit (.string bytes) => bytes.length + 1
  | .lit _ => 1
  | .nil => 1
  | .ptr d => uptoBulk d + 1
  | .slice elems spare => uptoBulkAll elems + uptoBulkAll spare + 1
  | .agg parts => uptoBulkAll parts + 1
  | .iface _ d => uptoBulk d + 1
  | .map entries => uptoBulkEntries entries + 1
  | .held _ => 1
def uptoBulkAll {H : Type} : List (DataW H) → Nat
  | [] => 0
  | d :: r => uptoBulk d + uptoBulkAll r
def uptoBulkEntries {H : Type} : List (Lit × DataW H) → Nat
  | [] => 0
  | x :: r => uptoBulkEntry x + uptoBulkEntries r
def uptoBulkEntry {H : Type} : Lit × DataW H → Nat
  | (.string bytes, d) => bytes.length + uptoBulk d + 1
  | (_, d) => uptoBulk d + 1
 end
def uptoSmall : (H : Type) → List (DataW H) → Bool := fun _ ds => decide (uptoBulkAll ds ≤ 1048576)
def OpenSpec.upto (s : _root_.Go.ChangeSpec) : _root_.Go.OpenSpec := { _root_.Go.OpenSpec.ofChange s with cond := some uptoSmall }

/-- 'treadlelaw13.ScanFinds', WHERE WHAT IT READS IS OF BULK AT MOST 1048576: true; the input reads as it did. -/
def scanFindsUptoRow : OpenClaim := { program := "ytlpengaclkidiaadoor", sum := "6edb7356ac482032f4fc8508e4e5bd5a317984ddccc16edfee1f6d194791b15f", func := "treadle/treadlelaw13.ScanFinds", spec := "scanFinds", inPlace := ["internal/bytealg.IndexByteString", "internal/abi.NoEscape"], unfollowed := true, recurses := true, named := ["treadle/lex.keys", "treadle/lex.signs"], apart := false, laid := [("treadle/lex.signs", laid_treadle_lex_signs), ("treadle/lex.keys", laid_treadle_lex_keys)], narrowed := true }
def ScanFindsUptoSaid : Prop := scanFindsUptoRow.holds Tryd.pinned (OpenSpec.upto scanFindsSpec)

/-- 'treadlelaw13.ScanAims', WHERE WHAT IT READS IS OF BULK AT MOST 1048576: true; the input reads as it did. -/
def scanAimsUptoRow : OpenClaim := { program := "ytlpengaclkidiaadoor", sum := "6edb7356ac482032f4fc8508e4e5bd5a317984ddccc16edfee1f6d194791b15f", func := "treadle/treadlelaw13.ScanAims", spec := "scanAims", inPlace := ["internal/bytealg.IndexByteString", "internal/bytealg.IndexString", "internal/bytealg.CountString", "internal/abi.NoEscape", "internal/bytealg.MakeNoZero"], unfollowed := true, recurses := true, named := ["internal/bytealg.MaxLen", "unicode/utf8.first", "unicode/utf8.acceptRanges", "treadle/lex.keys", "treadle/lex.signs"], apart := false, laid := [("unicode/utf8.acceptRanges", laid_unicode_utf8_acceptRanges), ("treadle/lex.signs", laid_treadle_lex_signs), ("treadle/lex.keys", laid_treadle_lex_keys), ("unicode/utf8.first", laid_unicode_utf8_first)], narrowed := true }
def ScanAimsUptoSaid : Prop := scanAimsUptoRow.holds Tryd.pinned (OpenSpec.upto scanAimsSpec)

/-- 'treadlelaw13.ScanPuts', WHERE WHAT IT READS IS OF BULK AT MOST 1048576: true; the input reads as it did. -/
def scanPutsUptoRow : OpenClaim := { program := "ytlpengaclkidiaadoor", sum := "6edb7356ac482032f4fc8508e4e5bd5a317984ddccc16edfee1f6d194791b15f", func := "treadle/treadlelaw13.ScanPuts", spec := "scanPuts", inPlace := ["internal/bytealg.IndexByteString", "internal/abi.NoEscape"], unfollowed := true, recurses := true, named := ["treadle/lex.keys", "treadle/lex.signs"], apart := false, laid := [("treadle/lex.signs", laid_treadle_lex_signs), ("treadle/lex.keys", laid_treadle_lex_keys)], narrowed := true }
def ScanPutsUptoSaid : Prop := scanPutsUptoRow.holds Tryd.pinned (OpenSpec.upto scanPutsSpec)

/-- 'treadlelaw13.ScanBack', WHERE WHAT IT READS IS OF BULK AT MOST 1048576: true; the input reads as it did. -/
def scanBackUptoRow : OpenClaim := { program := "ytlpengaclkidiaadoor", sum := "6edb7356ac482032f4fc8508e4e5bd5a317984ddccc16edfee1f6d194791b15f", func := "treadle/treadlelaw13.ScanBack", spec := "scanBack", inPlace := ["internal/bytealg.IndexByteString", "internal/abi.NoEscape"], unfollowed := true, recurses := true, named := ["treadle/lex.keys", "treadle/lex.signs"], apart := false, laid := [("treadle/lex.signs", laid_treadle_lex_signs), ("treadle/lex.keys", laid_treadle_lex_keys)], narrowed := true }
def ScanBackUptoSaid : Prop := scanBackUptoRow.holds Tryd.pinned (OpenSpec.upto scanBackSpec)

/-- 'treadlelaw13.ScanStops', WHERE WHAT IT READS IS OF BULK AT MOST 1048576: true; the input reads as it did. -/
def scanStopsUptoRow : OpenClaim := { program := "ytlpengaclkidiaadoor", sum := "6edb7356ac482032f4fc8508e4e5bd5a317984ddccc16edfee1f6d194791b15f", func := "treadle/treadlelaw13.ScanStops", spec := "scanStops", inPlace := ["internal/bytealg.IndexByteString", "internal/abi.NoEscape"], unfollowed := true, recurses := true, named := ["treadle/lex.keys", "treadle/lex.signs"], apart := false, laid := [("treadle/lex.signs", laid_treadle_lex_signs), ("treadle/lex.keys", laid_treadle_lex_keys)], narrowed := true }
def ScanStopsUptoSaid : Prop := scanStopsUptoRow.holds Tryd.pinned (OpenSpec.upto scanStopsSpec)

end Rows
end Go.Proofs.YtlpengaclkidiaaDoor
