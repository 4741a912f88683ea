/-
  No cell of these rows narrows 'for every input' (looked for: loops, veiled, ifaces, maps, wideKeys, modest, calm, conditions, laid).
  DERIVED. THE GIVEN ROWS OF THIS SEAT. 3 by the template 'for every input the law returns true; each argument reads behind the call as it read before'; 0 by the template 'total and deterministic' (their statements: YtiibhccbbpgehabGreatTotals.lean).
  GIVEN WITH THE SEED: the statements are not yours to turn. If you find one false, say at which input.
  Laid BY PROGRAM, IN A SANDBOX (cutbox-rows.mjs): the forced cells as the released guide's own fill.sh prints them over the translation 99ef5795bd4d1074… (all of the seat's roots in one cut). By AI agents, Wed Nov 11 2026. No macro, syntax, notation, axiom, sorry.
-/
import Derived.Test.YtiibhccbbpgehabGreatChecked
import GoSem.Claim
import GoSem.ClaimJoined
import GoSem.ClaimMapViews
import Derived.JoinedTies
import Derived.KernelRfl
namespace Go.Proofs.YtiibhccbbpgehabGreat
/- THE CELL 'sum', in the pinned program and in every row, IS THE sha256 OF THE DUMP (.gsa) THAT YtiibhccbbpgehabGreatProg.lean LOADS. Nothing in Lean hashes anything: it is a label: what it is worth is what the hold of that sum in a sandbox is worth. -/
noncomputable def Tryz.pinned : Pinned := { name := "ytiibhccbbpgehabgreat", sum := "99ef5795bd4d107493f663435b37f38634fb60f96bb87748501debb346e8359b", checked := Tryz.checked }
namespace Rows
def none {H : Type} : Left H := { results := [], args := [] }

/-- 'treadlelaw08.StreamPoisoned': WHATEVER THE INPUT: true; the input reads as it did. -/
def streamPoisonedSpec : ChangeSpec := { name := "streamPoisoned", fn := fun _ => fun
  | [d1, d2] => { results := [.lit (.bool true)], args := [d1, d2] }
  | _ => none }
def streamPoisonedRow : OpenClaim := { program := "ytiibhccbbpgehabgreat", sum := "99ef5795bd4d107493f663435b37f38634fb60f96bb87748501debb346e8359b", func := "treadle/treadlelaw08.StreamPoisoned", spec := "streamPoisoned", unfollowed := true, recurses := true, apart := false }
def StreamPoisonedSaid : Prop := streamPoisonedRow.holds Tryz.pinned (OpenSpec.ofChange streamPoisonedSpec)

/-- ITS FALSE NEIGHBOUR: 'it returns false'. Refute it at one input. -/
def streamPoisonedWrong : ChangeSpec := { name := "streamPoisoned", fn := fun _ => fun
  | [d1, d2] => { results := [.lit (.bool false)], args := [d1, d2] }
  | _ => none }
def StreamPoisonedWrongFalsely : Prop := streamPoisonedRow.holds Tryz.pinned (OpenSpec.ofChange streamPoisonedWrong)

/-- 'treadlelaw08.StreamNobody': WHATEVER THE INPUT: true; the input reads as it did. -/
def streamNobodySpec : ChangeSpec := { name := "streamNobody", fn := fun _ => fun
  | [d1, d2] => { results := [.lit (.bool true)], args := [d1, d2] }
  | _ => none }
def streamNobodyRow : OpenClaim := { program := "ytiibhccbbpgehabgreat", sum := "99ef5795bd4d107493f663435b37f38634fb60f96bb87748501debb346e8359b", func := "treadle/treadlelaw08.StreamNobody", spec := "streamNobody", unfollowed := true, recurses := true, apart := false }
def StreamNobodySaid : Prop := streamNobodyRow.holds Tryz.pinned (OpenSpec.ofChange streamNobodySpec)

/-- ITS FALSE NEIGHBOUR: 'it returns false'. Refute it at one input. -/
def streamNobodyWrong : ChangeSpec := { name := "streamNobody", fn := fun _ => fun
  | [d1, d2] => { results := [.lit (.bool false)], args := [d1, d2] }
  | _ => none }
def StreamNobodyWrongFalsely : Prop := streamNobodyRow.holds Tryz.pinned (OpenSpec.ofChange streamNobodyWrong)

/-- 'treadlelaw08.StreamOwn': WHATEVER THE INPUT: true; the input reads as it did. -/
def streamOwnSpec : ChangeSpec := { name := "streamOwn", fn := fun _ => fun
  | [d1, d2] => { results := [.lit (.bool true)], args := [d1, d2] }
  | _ => none }
def streamOwnRow : OpenClaim := { program := "ytiibhccbbpgehabgreat", sum := "99ef5795bd4d107493f663435b37f38634fb60f96bb87748501debb346e8359b", func := "treadle/treadlelaw08.StreamOwn", spec := "streamOwn", unfollowed := true, recurses := true, apart := false }
def StreamOwnSaid : Prop := streamOwnRow.holds Tryz.pinned (OpenSpec.ofChange streamOwnSpec)

/-- ITS FALSE NEIGHBOUR: 'it returns false'. Refute it at one input. -/
def streamOwnWrong : ChangeSpec := { name := "streamOwn", fn := fun _ => fun
  | [d1, d2] => { results := [.lit (.bool false)], args := [d1, d2] }
  | _ => none }
def StreamOwnWrongFalsely : Prop := streamOwnRow.holds Tryz.pinned (OpenSpec.ofChange streamOwnWrong)

/- THE SECOND FORM. 'bulk': how many values and letters a reading holds, each counted each time it is reached (what is shared counts as often as it is met; a slice's spare places count too). A statement '..UptoSaid' is the law's where the arguments, and the package variables that the reading takes, are together of bulk at most 1048576: NARROWER than '..Said'. Prove '..Said' where nothing that the law and all that it calls make is longer than what came in: it says more and counts as full. Else prove '..UptoSaid'. A law counts once. -/
mutual
def uptoBulk {H : Type} : DataW H → Nat
  | .lit (.string bytes) => bytes.length + 1
  | .lit _ => 1
  | .nil => 1
  | .ptr d => uptoBulk d + 1
  | .slice elems spare => uptoBulkAll elems + uptoBulkAll spare + 1
  | .agg parts => uptoBulkAll parts + 1
  | .iface _ d => uptoBulk d + 1
  | .map entries => uptoBulkEntries entries + 1
  | .held _ => 1
def uptoBulkAll {H : Type} : List (DataW H) → Nat
  | [] => 0
  | d :: r => uptoBulk d + uptoBulkAll r
def uptoBulkEntries {H : Type} : List (Lit × DataW H) → Nat
  | [] => 0
  | x :: r => uptoBulkEntry x + uptoBulkEntries r
def uptoBulkEntry {H : Type} : Lit × DataW H → Nat
  | (.string bytes, d) => bytes.length + uptoBulk d + 1
  | (_, d) => uptoBulk d + 1
 end
def uptoSmall : (H : Type) → List (DataW H) → Bool := fun _ ds => decide (uptoBulkAll ds ≤ 1048576)
def OpenSpec.upto (s : _root_.Go.ChangeSpec) : _root_.Go.OpenSpec := { _root_.Go.OpenSpec.ofChange s with cond := some uptoSmall }

/-- 'treadlelaw08.StreamPoisoned', WHERE WHAT IT READS IS OF BULK AT MOST 1048576: true; the input reads as it did. -/
def streamPoisonedUptoRow : OpenClaim := { program := "ytiibhccbbpgehabgreat", sum := "99ef5795bd4d107493f663435b37f38634fb60f96bb87748501debb346e8359b", func := "treadle/treadlelaw08.StreamPoisoned", spec := "streamPoisoned", unfollowed := true, recurses := true, apart := false, narrowed := true }
def StreamPoisonedUptoSaid : Prop := streamPoisonedUptoRow.holds Tryz.pinned (OpenSpec.upto streamPoisonedSpec)

/-- 'treadlelaw08.StreamNobody', WHERE WHAT IT READS IS OF BULK AT MOST 1048576: true; the input reads as it did. -/
def streamNobodyUptoRow : OpenClaim := { program := "ytiibhccbbpgehabgreat", sum := "99ef5795bd4d107493f663435b37f38634fb60f96bb87748501debb346e8359b", func := "treadle/treadlelaw08.StreamNobody", spec := "streamNobody", unfollowed := true, recurses := true, apart := false, narrowed := true }
def StreamNobodyUptoSaid : Prop := streamNobodyUptoRow.holds Tryz.pinned (OpenSpec.upto streamNobodySpec)

/-- 'treadlelaw08.StreamOwn', WHERE WHAT IT READS IS OF BULK AT MOST 1048576: true; the input reads as it did. -/
def streamOwnUptoRow : OpenClaim := { program := "ytiibhccbbpgehabgreat", sum := "99ef5795bd4d107493f663435b37f38634fb60f96bb87748501debb346e8359b", func := "treadle/treadlelaw08.StreamOwn", spec := "streamOwn", unfollowed := true, recurses := true, apart := false, narrowed := true }
def StreamOwnUptoSaid : Prop := streamOwnUptoRow.holds Tryz.pinned (OpenSpec.upto streamOwnSpec)

end Rows
end Go.Proofs.YtiibhccbbpgehabGreat
