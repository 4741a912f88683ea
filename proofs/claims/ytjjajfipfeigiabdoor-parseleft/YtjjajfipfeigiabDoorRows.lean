/-
  NARROWER THAN 'FOR EVERY INPUT', by the rows' own cells (each row's printed sentence says how): ParseFirst: laid · ParseNests: laid · ParseLeft: laid.
  DERIVED. THE GIVEN ROWS OF THIS SEAT. 3 by the template 'for every input the law returns true; each argument reads behind the call as it read before'; 0 by the template 'total and deterministic' (their statements: YtjjajfipfeigiabDoorTotals.lean).
  GIVEN WITH THE SEED: the statements are not yours to turn. If you find one false, say at which input.
  Laid BY PROGRAM, IN A SANDBOX (cutbox-rows.mjs): the forced cells as the released guide's own fill.sh prints them over the translation 18e1a1717950efbc… (all of the seat's roots in one cut). By AI agents, Wed Nov 11 2026. No macro, syntax, notation, axiom, sorry.
-/
import Derived.Test.YtjjajfipfeigiabDoorChecked
import GoSem.Claim
import GoSem.ClaimJoined
import GoSem.ClaimMapViews
import Derived.JoinedTies
import Derived.KernelRfl
namespace Go.Proofs.YtjjajfipfeigiabDoor
/- THE CELL 'sum', in the pinned program and in every row, IS THE sha256 OF THE DUMP (.gsa) THAT YtjjajfipfeigiabDoorProg.lean LOADS. Nothing in Lean hashes anything: it is a label: what it is worth is what the hold of that sum in a sandbox is worth. -/
noncomputable def Tryd.pinned : Pinned := { name := "ytjjajfipfeigiabdoor", sum := "18e1a1717950efbc8c2bb2be1d6d36375670ef043a8dbfc091bbecb0e48450eb", checked := Tryd.checked }
namespace Rows
def none {H : Type} : Left H := { results := [], args := [] }

/- WHAT THE LISTED PACKAGE-LEVEL VARIABLES READ AS WHEN THE CALL BEGINS. Each datum BY PROGRAM (the guide's laid-datum.mjs) off the statement by which the dump's own 'gosem.cut.vars' lays the variable. In a bare row this is a premise. The card (YtjjajfipfeigiabDoorCards.lean) ties it to the program's text. -/
def laid_treadle_lex_signs {H : Type} : DataW H := .agg [.lit (.string [61, 61]), .lit (.string [33, 61]), .lit (.string [60, 61]), .lit (.string [62, 61]), .lit (.string [43, 43]), .lit (.string [38, 38]), .lit (.string [124, 124]), .lit (.string [40]), .lit (.string [41]), .lit (.string [123]), .lit (.string [125]), .lit (.string [44]), .lit (.string [59]), .lit (.string [58]), .lit (.string [46]), .lit (.string [61]), .lit (.string [60]), .lit (.string [62]), .lit (.string [43]), .lit (.string [45]), .lit (.string [42]), .lit (.string [47]), .lit (.string [37]), .lit (.string [33]), .lit (.string [35])]
def laid_treadle_lex_keys {H : Type} : DataW H := .agg [.lit (.string [105, 110, 99, 108, 117, 100, 101]), .lit (.string [97, 115]), .lit (.string [101, 120, 112, 111, 114, 116]), .lit (.string [99, 111, 110, 115, 116]), .lit (.string [102, 117, 110, 99]), .lit (.string [118, 97, 114]), .lit (.string [105, 102]), .lit (.string [101, 108, 115, 101]), .lit (.string [119, 104, 105, 108, 101]), .lit (.string [114, 101, 116, 117, 114, 110]), .lit (.string [112, 114, 105, 110, 116]), .lit (.string [116, 114, 117, 101]), .lit (.string [102, 97, 108, 115, 101]), .lit (.string [105, 110, 116]), .lit (.string [98, 111, 111, 108]), .lit (.string [116, 101, 120, 116])]
def laid_treadle_parse_binarySigns {H : Type} : DataW H := .agg [.lit (.string []), .lit (.string [124, 124]), .lit (.string [38, 38]), .lit (.string [61, 61]), .lit (.string [33, 61]), .lit (.string [60]), .lit (.string [60, 61]), .lit (.string [62]), .lit (.string [62, 61]), .lit (.string [43]), .lit (.string [45]), .lit (.string [43, 43]), .lit (.string [42]), .lit (.string [47]), .lit (.string [37])]

/-- 'treadlelaw14.ParseFirst': WHATEVER THE INPUT: true; the input reads as it did. -/
def parseFirstSpec : ChangeSpec := { name := "parseFirst", fn := fun _ => fun
  | [d1, d2, d3] => { results := [.lit (.bool true)], args := [d1, d2, d3] }
  | _ => none }
def parseFirstRow : OpenClaim := { program := "ytjjajfipfeigiabdoor", sum := "18e1a1717950efbc8c2bb2be1d6d36375670ef043a8dbfc091bbecb0e48450eb", func := "treadle/treadlelaw14.ParseFirst", spec := "parseFirst", inPlace := ["internal/bytealg.IndexByteString", "internal/abi.NoEscape"], unfollowed := true, recurses := true, named := ["treadle/lex.keys", "treadle/lex.signs", "treadle/parse.binarySigns"], apart := false, laid := [("treadle/lex.signs", laid_treadle_lex_signs), ("treadle/lex.keys", laid_treadle_lex_keys), ("treadle/parse.binarySigns", laid_treadle_parse_binarySigns)] }
def ParseFirstSaid : Prop := parseFirstRow.holds Tryd.pinned (OpenSpec.ofChange parseFirstSpec)

/-- ITS FALSE NEIGHBOUR: 'it returns false'. Refute it at one input. -/
def parseFirstWrong : ChangeSpec := { name := "parseFirst", fn := fun _ => fun
  | [d1, d2, d3] => { results := [.lit (.bool false)], args := [d1, d2, d3] }
  | _ => none }
def ParseFirstWrongFalsely : Prop := parseFirstRow.holds Tryd.pinned (OpenSpec.ofChange parseFirstWrong)

/-- 'treadlelaw14.ParseNests': WHATEVER THE INPUT: true; the input reads as it did. -/
def parseNestsSpec : ChangeSpec := { name := "parseNests", fn := fun _ => fun
  | [d1, d2] => { results := [.lit (.bool true)], args := [d1, d2] }
  | _ => none }
def parseNestsRow : OpenClaim := { program := "ytjjajfipfeigiabdoor", sum := "18e1a1717950efbc8c2bb2be1d6d36375670ef043a8dbfc091bbecb0e48450eb", func := "treadle/treadlelaw14.ParseNests", spec := "parseNests", inPlace := ["internal/bytealg.IndexByteString", "internal/abi.NoEscape"], unfollowed := true, recurses := true, named := ["treadle/lex.keys", "treadle/lex.signs", "treadle/parse.binarySigns"], apart := false, laid := [("treadle/lex.signs", laid_treadle_lex_signs), ("treadle/lex.keys", laid_treadle_lex_keys), ("treadle/parse.binarySigns", laid_treadle_parse_binarySigns)] }
def ParseNestsSaid : Prop := parseNestsRow.holds Tryd.pinned (OpenSpec.ofChange parseNestsSpec)

/-- ITS FALSE NEIGHBOUR: 'it returns false'. Refute it at one input. -/
def parseNestsWrong : ChangeSpec := { name := "parseNests", fn := fun _ => fun
  | [d1, d2] => { results := [.lit (.bool false)], args := [d1, d2] }
  | _ => none }
def ParseNestsWrongFalsely : Prop := parseNestsRow.holds Tryd.pinned (OpenSpec.ofChange parseNestsWrong)

/-- 'treadlelaw14.ParseLeft': WHATEVER THE INPUT: true; the input reads as it did. -/
def parseLeftSpec : ChangeSpec := { name := "parseLeft", fn := fun _ => fun
  | [d1, d2] => { results := [.lit (.bool true)], args := [d1, d2] }
  | _ => none }
def parseLeftRow : OpenClaim := { program := "ytjjajfipfeigiabdoor", sum := "18e1a1717950efbc8c2bb2be1d6d36375670ef043a8dbfc091bbecb0e48450eb", func := "treadle/treadlelaw14.ParseLeft", spec := "parseLeft", inPlace := ["internal/bytealg.IndexByteString", "internal/abi.NoEscape"], unfollowed := true, recurses := true, named := ["treadle/lex.keys", "treadle/lex.signs", "treadle/parse.binarySigns"], apart := false, laid := [("treadle/lex.signs", laid_treadle_lex_signs), ("treadle/lex.keys", laid_treadle_lex_keys), ("treadle/parse.binarySigns", laid_treadle_parse_binarySigns)] }
def ParseLeftSaid : Prop := parseLeftRow.holds Tryd.pinned (OpenSpec.ofChange parseLeftSpec)

/-- ITS FALSE NEIGHBOUR: 'it returns false'. Refute it at one input. -/
def parseLeftWrong : ChangeSpec := { name := "parseLeft", fn := fun _ => fun
  | [d1, d2] => { results := [.lit (.bool false)], args := [d1, d2] }
  | _ => none }
def ParseLeftWrongFalsely : Prop := parseLeftRow.holds Tryd.pinned (OpenSpec.ofChange parseLeftWrong)

/- THE SECOND FORM. 'bulk': how many values and letters a reading holds, each counted each time it is reached (what is shared counts as often as it is met; a slice's spare places count too). A statement '..UptoSaid' is the law's where the arguments, and the package variables that the reading takes, are together of bulk at most 1048576: NARROWER than '..Said'. Prove '..Said' where nothing that the law and all that it calls make is longer than what came in: it says more and counts as full. Else prove '..UptoSaid'. A law counts once. -/
mutual
def uptoBulk {H : Type} : DataW H → Nat
  | .lit (.string bytes) => bytes.length + 1
  | .lit _ => 1
  | .nil => 1
  | .ptr d => uptoBulk d + 1
  | .slice elems spare => uptoBulkAll elems + uptoBulkAll spare + 1
  | .agg parts => uptoBulkAll parts + 1
  | .iface _ d => uptoBulk d + 1
  | .map entries => uptoBulkEntries entries + 1
  | .held _ => 1
def uptoBulkAll {H : Type} : List (DataW H) → Nat
  | [] => 0
  | d :: r => uptoBulk d + uptoBulkAll r
def uptoBulkEntries {H : Type} : List (Lit × DataW H) → Nat
  | [] => 0
  | x :: r => uptoBulkEntry x + uptoBulkEntries r
def uptoBulkEntry {H : Type} : Lit × DataW H → Nat
  | (.string bytes, d) => bytes.length + uptoBulk d + 1
  | (_, d) => uptoBulk d + 1
 end
def uptoSmall : (H : Type) → List (DataW H) → Bool := fun _ ds => decide (uptoBulkAll ds ≤ 1048576)
def OpenSpec.upto (s : _root_.Go.ChangeSpec) : _root_.Go.OpenSpec := { _root_.Go.OpenSpec.ofChange s with cond := some uptoSmall }

/-- 'treadlelaw14.ParseFirst', WHERE WHAT IT READS IS OF BULK AT MOST 1048576: true; the input reads as it did. -/
def parseFirstUptoRow : OpenClaim := { program := "ytjjajfipfeigiabdoor", sum := "18e1a1717950efbc8c2bb2be1d6d36375670ef043a8dbfc091bbecb0e48450eb", func := "treadle/treadlelaw14.ParseFirst", spec := "parseFirst", inPlace := ["internal/bytealg.IndexByteString", "internal/abi.NoEscape"], unfollowed := true, recurses := true, named := ["treadle/lex.keys", "treadle/lex.signs", "treadle/parse.binarySigns"], apart := false, laid := [("treadle/lex.signs", laid_treadle_lex_signs), ("treadle/lex.keys", laid_treadle_lex_keys), ("treadle/parse.binarySigns", laid_treadle_parse_binarySigns)], narrowed := true }
def ParseFirstUptoSaid : Prop := parseFirstUptoRow.holds Tryd.pinned (OpenSpec.upto parseFirstSpec)

/-- 'treadlelaw14.ParseNests', WHERE WHAT IT READS IS OF BULK AT MOST 1048576: true; the input reads as it did. -/
def parseNestsUptoRow : OpenClaim := { program := "ytjjajfipfeigiabdoor", sum := "18e1a1717950efbc8c2bb2be1d6d36375670ef043a8dbfc091bbecb0e48450eb", func := "treadle/treadlelaw14.ParseNests", spec := "parseNests", inPlace := ["internal/bytealg.IndexByteString", "internal/abi.NoEscape"], unfollowed := true, recurses := true, named := ["treadle/lex.keys", "treadle/lex.signs", "treadle/parse.binarySigns"], apart := false, laid := [("treadle/lex.signs", laid_treadle_lex_signs), ("treadle/lex.keys", laid_treadle_lex_keys), ("treadle/parse.binarySigns", laid_treadle_parse_binarySigns)], narrowed := true }
def ParseNestsUptoSaid : Prop := parseNestsUptoRow.holds Tryd.pinned (OpenSpec.upto parseNestsSpec)

/-- 'treadlelaw14.ParseLeft', WHERE WHAT IT READS IS OF BULK AT MOST 1048576: true; the input reads as it did. -/
def parseLeftUptoRow : OpenClaim := { program := "ytjjajfipfeigiabdoor", sum := "18e1a1717950efbc8c2bb2be1d6d36375670ef043a8dbfc091bbecb0e48450eb", func := "treadle/treadlelaw14.ParseLeft", spec := "parseLeft", inPlace := ["internal/bytealg.IndexByteString", "internal/abi.NoEscape"], unfollowed := true, recurses := true, named := ["treadle/lex.keys", "treadle/lex.signs", "treadle/parse.binarySigns"], apart := false, laid := [("treadle/lex.signs", laid_treadle_lex_signs), ("treadle/lex.keys", laid_treadle_lex_keys), ("treadle/parse.binarySigns", laid_treadle_parse_binarySigns)], narrowed := true }
def ParseLeftUptoSaid : Prop := parseLeftUptoRow.holds Tryd.pinned (OpenSpec.upto parseLeftSpec)

end Rows
end Go.Proofs.YtjjajfipfeigiabDoor
