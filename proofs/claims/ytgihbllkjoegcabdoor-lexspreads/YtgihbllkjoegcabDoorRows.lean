/-
  NARROWER THAN 'FOR EVERY INPUT', by the rows' own cells (each row's printed sentence says how): LexSpreads: laid · LexLost: laid · LexFirst: laid · LexBack: laid · LexOwn: laid.
  DERIVED. THE GIVEN ROWS OF THIS SEAT. 5 by the template 'for every input the law returns true; each argument reads behind the call as it read before'; 0 by the template 'total and deterministic' (their statements: YtgihbllkjoegcabDoorTotals.lean).
  GIVEN WITH THE SEED: the statements are not yours to turn. If you find one false, say at which input.
  Laid BY PROGRAM, IN A SANDBOX (cutbox-rows.mjs): the forced cells as the released guide's own fill.sh prints them over the translation 66cf168f2e126c1d… (all of the seat's roots in one cut). By AI agents, Wed Nov 11 2026. No macro, syntax, notation, axiom, sorry.
-/
import Derived.Test.YtgihbllkjoegcabDoorChecked
import GoSem.Claim
import GoSem.ClaimJoined
import GoSem.ClaimMapViews
import Derived.JoinedTies
import Derived.KernelRfl
namespace Go.Proofs.YtgihbllkjoegcabDoor
/- THE CELL 'sum', in the pinned program and in every row, IS THE sha256 OF THE DUMP (.gsa) THAT YtgihbllkjoegcabDoorProg.lean LOADS. Nothing in Lean hashes anything: it is a label: what it is worth is what the hold of that sum in a sandbox is worth. -/
noncomputable def Tryd.pinned : Pinned := { name := "ytgihbllkjoegcabdoor", sum := "66cf168f2e126c1d9bc7c223319609e1493b0c08d721aca91e436f681ff621e2", checked := Tryd.checked }
namespace Rows
def none {H : Type} : Left H := { results := [], args := [] }

/- WHAT THE LISTED PACKAGE-LEVEL VARIABLES READ AS WHEN THE CALL BEGINS. Each datum BY PROGRAM (the guide's laid-datum.mjs) off the statement by which the dump's own 'gosem.cut.vars' lays the variable. In a bare row this is a premise. The card (YtgihbllkjoegcabDoorCards.lean) ties it to the program's text. -/
def laid_treadle_lex_signs {H : Type} : DataW H := .agg [.lit (.string [61, 61]), .lit (.string [33, 61]), .lit (.string [60, 61]), .lit (.string [62, 61]), .lit (.string [43, 43]), .lit (.string [38, 38]), .lit (.string [124, 124]), .lit (.string [40]), .lit (.string [41]), .lit (.string [123]), .lit (.string [125]), .lit (.string [44]), .lit (.string [59]), .lit (.string [58]), .lit (.string [46]), .lit (.string [61]), .lit (.string [60]), .lit (.string [62]), .lit (.string [43]), .lit (.string [45]), .lit (.string [42]), .lit (.string [47]), .lit (.string [37]), .lit (.string [33]), .lit (.string [35])]
def laid_treadle_lex_keys {H : Type} : DataW H := .agg [.lit (.string [105, 110, 99, 108, 117, 100, 101]), .lit (.string [97, 115]), .lit (.string [101, 120, 112, 111, 114, 116]), .lit (.string [99, 111, 110, 115, 116]), .lit (.string [102, 117, 110, 99]), .lit (.string [118, 97, 114]), .lit (.string [105, 102]), .lit (.string [101, 108, 115, 101]), .lit (.string [119, 104, 105, 108, 101]), .lit (.string [114, 101, 116, 117, 114, 110]), .lit (.string [112, 114, 105, 110, 116]), .lit (.string [116, 114, 117, 101]), .lit (.string [102, 97, 108, 115, 101]), .lit (.string [105, 110, 116]), .lit (.string [98, 111, 111, 108]), .lit (.string [116, 101, 120, 116])]

/-- 'treadlelaw12.LexSpreads': WHATEVER THE INPUT: true; the input reads as it did. -/
def lexSpreadsSpec : ChangeSpec := { name := "lexSpreads", fn := fun _ => fun
  | [d1, d2] => { results := [.lit (.bool true)], args := [d1, d2] }
  | _ => none }
def lexSpreadsRow : OpenClaim := { program := "ytgihbllkjoegcabdoor", sum := "66cf168f2e126c1d9bc7c223319609e1493b0c08d721aca91e436f681ff621e2", func := "treadle/treadlelaw12.LexSpreads", spec := "lexSpreads", inPlace := ["internal/bytealg.IndexByteString"], named := ["treadle/lex.keys", "treadle/lex.signs"], apart := false, laid := [("treadle/lex.signs", laid_treadle_lex_signs), ("treadle/lex.keys", laid_treadle_lex_keys)] }
def LexSpreadsSaid : Prop := lexSpreadsRow.holds Tryd.pinned (OpenSpec.ofChange lexSpreadsSpec)

/-- ITS FALSE NEIGHBOUR: 'it returns false'. Refute it at one input. -/
def lexSpreadsWrong : ChangeSpec := { name := "lexSpreads", fn := fun _ => fun
  | [d1, d2] => { results := [.lit (.bool false)], args := [d1, d2] }
  | _ => none }
def LexSpreadsWrongFalsely : Prop := lexSpreadsRow.holds Tryd.pinned (OpenSpec.ofChange lexSpreadsWrong)

/-- 'treadlelaw12.LexLost': WHATEVER THE INPUT: true; the input reads as it did. -/
def lexLostSpec : ChangeSpec := { name := "lexLost", fn := fun _ => fun
  | [d] => { results := [.lit (.bool true)], args := [d] }
  | _ => none }
def lexLostRow : OpenClaim := { program := "ytgihbllkjoegcabdoor", sum := "66cf168f2e126c1d9bc7c223319609e1493b0c08d721aca91e436f681ff621e2", func := "treadle/treadlelaw12.LexLost", spec := "lexLost", inPlace := ["internal/bytealg.IndexByteString"], named := ["treadle/lex.keys", "treadle/lex.signs"], apart := false, laid := [("treadle/lex.signs", laid_treadle_lex_signs), ("treadle/lex.keys", laid_treadle_lex_keys)] }
def LexLostSaid : Prop := lexLostRow.holds Tryd.pinned (OpenSpec.ofChange lexLostSpec)

/-- ITS FALSE NEIGHBOUR: 'it returns false'. Refute it at one input. -/
def lexLostWrong : ChangeSpec := { name := "lexLost", fn := fun _ => fun
  | [d] => { results := [.lit (.bool false)], args := [d] }
  | _ => none }
def LexLostWrongFalsely : Prop := lexLostRow.holds Tryd.pinned (OpenSpec.ofChange lexLostWrong)

/-- 'treadlelaw12.LexFirst': WHATEVER THE INPUT: true; the input reads as it did. -/
def lexFirstSpec : ChangeSpec := { name := "lexFirst", fn := fun _ => fun
  | [d] => { results := [.lit (.bool true)], args := [d] }
  | _ => none }
def lexFirstRow : OpenClaim := { program := "ytgihbllkjoegcabdoor", sum := "66cf168f2e126c1d9bc7c223319609e1493b0c08d721aca91e436f681ff621e2", func := "treadle/treadlelaw12.LexFirst", spec := "lexFirst", inPlace := ["internal/bytealg.IndexByteString"], named := ["treadle/lex.keys", "treadle/lex.signs"], apart := false, laid := [("treadle/lex.signs", laid_treadle_lex_signs), ("treadle/lex.keys", laid_treadle_lex_keys)] }
def LexFirstSaid : Prop := lexFirstRow.holds Tryd.pinned (OpenSpec.ofChange lexFirstSpec)

/-- ITS FALSE NEIGHBOUR: 'it returns false'. Refute it at one input. -/
def lexFirstWrong : ChangeSpec := { name := "lexFirst", fn := fun _ => fun
  | [d] => { results := [.lit (.bool false)], args := [d] }
  | _ => none }
def LexFirstWrongFalsely : Prop := lexFirstRow.holds Tryd.pinned (OpenSpec.ofChange lexFirstWrong)

/-- 'treadlelaw12.LexBack': WHATEVER THE INPUT: true; the input reads as it did. -/
def lexBackSpec : ChangeSpec := { name := "lexBack", fn := fun _ => fun
  | [d1, d2] => { results := [.lit (.bool true)], args := [d1, d2] }
  | _ => none }
def lexBackRow : OpenClaim := { program := "ytgihbllkjoegcabdoor", sum := "66cf168f2e126c1d9bc7c223319609e1493b0c08d721aca91e436f681ff621e2", func := "treadle/treadlelaw12.LexBack", spec := "lexBack", inPlace := ["internal/abi.NoEscape", "internal/bytealg.IndexByteString"], named := ["treadle/lex.keys", "treadle/lex.signs"], apart := false, laid := [("treadle/lex.signs", laid_treadle_lex_signs), ("treadle/lex.keys", laid_treadle_lex_keys)] }
def LexBackSaid : Prop := lexBackRow.holds Tryd.pinned (OpenSpec.ofChange lexBackSpec)

/-- ITS FALSE NEIGHBOUR: 'it returns false'. Refute it at one input. -/
def lexBackWrong : ChangeSpec := { name := "lexBack", fn := fun _ => fun
  | [d1, d2] => { results := [.lit (.bool false)], args := [d1, d2] }
  | _ => none }
def LexBackWrongFalsely : Prop := lexBackRow.holds Tryd.pinned (OpenSpec.ofChange lexBackWrong)

/-- 'treadlelaw12.LexOwn': WHATEVER THE INPUT: true; the input reads as it did. -/
def lexOwnSpec : ChangeSpec := { name := "lexOwn", fn := fun _ => fun
  | [d] => { results := [.lit (.bool true)], args := [d] }
  | _ => none }
def lexOwnRow : OpenClaim := { program := "ytgihbllkjoegcabdoor", sum := "66cf168f2e126c1d9bc7c223319609e1493b0c08d721aca91e436f681ff621e2", func := "treadle/treadlelaw12.LexOwn", spec := "lexOwn", inPlace := ["internal/bytealg.IndexByteString"], named := ["treadle/lex.keys", "treadle/lex.signs"], apart := false, laid := [("treadle/lex.signs", laid_treadle_lex_signs), ("treadle/lex.keys", laid_treadle_lex_keys)] }
def LexOwnSaid : Prop := lexOwnRow.holds Tryd.pinned (OpenSpec.ofChange lexOwnSpec)

/-- ITS FALSE NEIGHBOUR: 'it returns false'. Refute it at one input. -/
def lexOwnWrong : ChangeSpec := { name := "lexOwn", fn := fun _ => fun
  | [d] => { results := [.lit (.bool false)], args := [d] }
  | _ => none }
def LexOwnWrongFalsely : Prop := lexOwnRow.holds Tryd.pinned (OpenSpec.ofChange lexOwnWrong)

/- THE SECOND FORM. 'bulk': how many values and letters a reading holds, each counted each time it is reached (what is shared counts as often as it is met; a slice's spare places count too). A statement '..UptoSaid' is the law's where the arguments, and the package variables that the reading takes, are together of bulk at most 1048576: NARROWER than '..Said'. Prove '..Said' where nothing that the law and all that it calls make is longer than what came in: it says more and counts as full. Else prove '..UptoSaid'. A law counts once. -/
mutual
def uptoBulk {H : Type} : DataW H → Nat
  | .lit (.string bytes) => bytes.length + 1
  | .lit _ => 1
  | .nil => 1
  | .ptr d => uptoBulk d + 1
  | .slice elems spare => uptoBulkAll elems + uptoBulkAll spare + 1
  | .agg parts => uptoBulkAll parts + 1
  | .iface _ d => uptoBulk d + 1
  | .map entries => uptoBulkEntries entries + 1
  | .held _ => 1
def uptoBulkAll {H : Type} : List (DataW H) → Nat
  | [] => 0
  | d :: r => uptoBulk d + uptoBulkAll r
def uptoBulkEntries {H : Type} : List (Lit × DataW H) → Nat
  | [] => 0
  | x :: r => uptoBulkEntry x + uptoBulkEntries r
def uptoBulkEntry {H : Type} : Lit × DataW H → Nat
  | (.string bytes, d) => bytes.length + uptoBulk d + 1
  | (_, d) => uptoBulk d + 1
 end
def uptoSmall : (H : Type) → List (DataW H) → Bool := fun _ ds => decide (uptoBulkAll ds ≤ 1048576)
def OpenSpec.upto (s : _root_.Go.ChangeSpec) : _root_.Go.OpenSpec := { _root_.Go.OpenSpec.ofChange s with cond := some uptoSmall }

/-- 'treadlelaw12.LexSpreads', WHERE WHAT IT READS IS OF BULK AT MOST 1048576: true; the input reads as it did. -/
def lexSpreadsUptoRow : OpenClaim := { program := "ytgihbllkjoegcabdoor", sum := "66cf168f2e126c1d9bc7c223319609e1493b0c08d721aca91e436f681ff621e2", func := "treadle/treadlelaw12.LexSpreads", spec := "lexSpreads", inPlace := ["internal/bytealg.IndexByteString"], named := ["treadle/lex.keys", "treadle/lex.signs"], apart := false, laid := [("treadle/lex.signs", laid_treadle_lex_signs), ("treadle/lex.keys", laid_treadle_lex_keys)], narrowed := true }
def LexSpreadsUptoSaid : Prop := lexSpreadsUptoRow.holds Tryd.pinned (OpenSpec.upto lexSpreadsSpec)

/-- 'treadlelaw12.LexLost', WHERE WHAT IT READS IS OF BULK AT MOST 1048576: true; the input reads as it did. -/
def lexLostUptoRow : OpenClaim := { program := "ytgihbllkjoegcabdoor", sum := "66cf168f2e126c1d9bc7c223319609e1493b0c08d721aca91e436f681ff621e2", func := "treadle/treadlelaw12.LexLost", spec := "lexLost", inPlace := ["internal/bytealg.IndexByteString"], named := ["treadle/lex.keys", "treadle/lex.signs"], apart := false, laid := [("treadle/lex.signs", laid_treadle_lex_signs), ("treadle/lex.keys", laid_treadle_lex_keys)], narrowed := true }
def LexLostUptoSaid : Prop := lexLostUptoRow.holds Tryd.pinned (OpenSpec.upto lexLostSpec)

/-- 'treadlelaw12.LexFirst', WHERE WHAT IT READS IS OF BULK AT MOST 1048576: true; the input reads as it did. -/
def lexFirstUptoRow : OpenClaim := { program := "ytgihbllkjoegcabdoor", sum := "66cf168f2e126c1d9bc7c223319609e1493b0c08d721aca91e436f681ff621e2", func := "treadle/treadlelaw12.LexFirst", spec := "lexFirst", inPlace := ["internal/bytealg.IndexByteString"], named := ["treadle/lex.keys", "treadle/lex.signs"], apart := false, laid := [("treadle/lex.signs", laid_treadle_lex_signs), ("treadle/lex.keys", laid_treadle_lex_keys)], narrowed := true }
def LexFirstUptoSaid : Prop := lexFirstUptoRow.holds Tryd.pinned (OpenSpec.upto lexFirstSpec)

/-- 'treadlelaw12.LexBack', WHERE WHAT IT READS IS OF BULK AT MOST 1048576: true; the input reads as it did. -/
def lexBackUptoRow : OpenClaim := { program := "ytgihbllkjoegcabdoor", sum := "66cf168f2e126c1d9bc7c223319609e1493b0c08d721aca91e436f681ff621e2", func := "treadle/treadlelaw12.LexBack", spec := "lexBack", inPlace := ["internal/abi.NoEscape", "internal/bytealg.IndexByteString"], named := ["treadle/lex.keys", "treadle/lex.signs"], apart := false, laid := [("treadle/lex.signs", laid_treadle_lex_signs), ("treadle/lex.keys", laid_treadle_lex_keys)], narrowed := true }
def LexBackUptoSaid : Prop := lexBackUptoRow.holds Tryd.pinned (OpenSpec.upto lexBackSpec)

/-- 'treadlelaw12.LexOwn', WHERE WHAT IT READS IS OF BULK AT MOST 1048576: true; the input reads as it did. -/
def lexOwnUptoRow : OpenClaim := { program := "ytgihbllkjoegcabdoor", sum := "66cf168f2e126c1d9bc7c223319609e1493b0c08d721aca91e436f681ff621e2", func := "treadle/treadlelaw12.LexOwn", spec := "lexOwn", inPlace := ["internal/bytealg.IndexByteString"], named := ["treadle/lex.keys", "treadle/lex.signs"], apart := false, laid := [("treadle/lex.signs", laid_treadle_lex_signs), ("treadle/lex.keys", laid_treadle_lex_keys)], narrowed := true }
def LexOwnUptoSaid : Prop := lexOwnUptoRow.holds Tryd.pinned (OpenSpec.upto lexOwnSpec)

end Rows
end Go.Proofs.YtgihbllkjoegcabDoor
