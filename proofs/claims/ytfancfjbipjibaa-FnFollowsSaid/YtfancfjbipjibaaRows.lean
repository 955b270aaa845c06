/-
  No cell of these rows narrows 'for every input' (looked for: loops, veiled, ifaces, maps, wideKeys, modest, calm, conditions, laid).
  DERIVED. THE GIVEN ROWS OF THIS SEAT. 14 by the template 'for every input the law returns true; each argument reads behind the call as it read before'; 0 by the template 'total and deterministic' (their statements: YtfancfjbipjibaaTotals.lean).
  GIVEN WITH THE SEED: the statements are not yours to turn. If you find one false, say at which input.
  Laid BY PROGRAM, IN A SANDBOX (cutbox-rows.mjs): the forced cells as the released guide's own fill.sh prints them over the translation 40acb23938397aa4… (all of the seat's roots in one cut). By AI agents, Wed Nov 11 2026. No macro, syntax, notation, axiom, sorry.
-/
import Derived.Test.YtfancfjbipjibaaChecked
import GoSem.Claim
import GoSem.ClaimJoined
import GoSem.ClaimMapViews
import Derived.JoinedTies
import Derived.KernelRfl
namespace Go.Proofs.Ytfancfjbipjibaa
/- THE CELL 'sum', in the pinned program and in every row, IS THE sha256 OF THE DUMP (.gsa) THAT YtfancfjbipjibaaProg.lean LOADS. Nothing in Lean hashes anything: it is a label: what it is worth is what the hold of that sum in a sandbox is worth. -/
noncomputable def Try.pinned : Pinned := { name := "ytfancfjbipjibaa", sum := "40acb23938397aa46c6f9cf7c0e385863a507cc3e4550ea1fb1c58f06f2e28ad", checked := Try.checked }
namespace Rows
def none {H : Type} : Left H := { results := [], args := [] }

/-- 'laws.FnBothIssues': WHATEVER THE INPUT: true; the input reads as it did. -/
def fnBothIssuesSpec : ChangeSpec := { name := "fnBothIssues", fn := fun _ => fun
  | [d] => { results := [.lit (.bool true)], args := [d] }
  | _ => none }
def fnBothIssuesRow : OpenClaim := { program := "ytfancfjbipjibaa", sum := "40acb23938397aa46c6f9cf7c0e385863a507cc3e4550ea1fb1c58f06f2e28ad", func := "loop.example/openissues/laws.FnBothIssues", spec := "fnBothIssues", recurses := true, apart := false }
def FnBothIssuesSaid : Prop := fnBothIssuesRow.holds Try.pinned (OpenSpec.ofChange fnBothIssuesSpec)

/-- ITS FALSE NEIGHBOUR: 'it returns false'. Refute it at one input. -/
def fnBothIssuesWrong : ChangeSpec := { name := "fnBothIssues", fn := fun _ => fun
  | [d] => { results := [.lit (.bool false)], args := [d] }
  | _ => none }
def FnBothIssuesWrongFalsely : Prop := fnBothIssuesRow.holds Try.pinned (OpenSpec.ofChange fnBothIssuesWrong)

/-- 'laws.FnEitherIssue': WHATEVER THE INPUT: true; the input reads as it did. -/
def fnEitherIssueSpec : ChangeSpec := { name := "fnEitherIssue", fn := fun _ => fun
  | [d] => { results := [.lit (.bool true)], args := [d] }
  | _ => none }
def fnEitherIssueRow : OpenClaim := { program := "ytfancfjbipjibaa", sum := "40acb23938397aa46c6f9cf7c0e385863a507cc3e4550ea1fb1c58f06f2e28ad", func := "loop.example/openissues/laws.FnEitherIssue", spec := "fnEitherIssue", recurses := true, apart := false }
def FnEitherIssueSaid : Prop := fnEitherIssueRow.holds Try.pinned (OpenSpec.ofChange fnEitherIssueSpec)

/-- ITS FALSE NEIGHBOUR: 'it returns false'. Refute it at one input. -/
def fnEitherIssueWrong : ChangeSpec := { name := "fnEitherIssue", fn := fun _ => fun
  | [d] => { results := [.lit (.bool false)], args := [d] }
  | _ => none }
def FnEitherIssueWrongFalsely : Prop := fnEitherIssueRow.holds Try.pinned (OpenSpec.ofChange fnEitherIssueWrong)

/-- 'laws.FnIfIssue': WHATEVER THE INPUT: true; the input reads as it did. -/
def fnIfIssueSpec : ChangeSpec := { name := "fnIfIssue", fn := fun _ => fun
  | [d1, d2] => { results := [.lit (.bool true)], args := [d1, d2] }
  | _ => none }
def fnIfIssueRow : OpenClaim := { program := "ytfancfjbipjibaa", sum := "40acb23938397aa46c6f9cf7c0e385863a507cc3e4550ea1fb1c58f06f2e28ad", func := "loop.example/openissues/laws.FnIfIssue", spec := "fnIfIssue", recurses := true, apart := false }
def FnIfIssueSaid : Prop := fnIfIssueRow.holds Try.pinned (OpenSpec.ofChange fnIfIssueSpec)

/-- ITS FALSE NEIGHBOUR: 'it returns false'. Refute it at one input. -/
def fnIfIssueWrong : ChangeSpec := { name := "fnIfIssue", fn := fun _ => fun
  | [d1, d2] => { results := [.lit (.bool false)], args := [d1, d2] }
  | _ => none }
def FnIfIssueWrongFalsely : Prop := fnIfIssueRow.holds Try.pinned (OpenSpec.ofChange fnIfIssueWrong)

/-- 'laws.FnNotIssue': WHATEVER THE INPUT: true; the input reads as it did. -/
def fnNotIssueSpec : ChangeSpec := { name := "fnNotIssue", fn := fun _ => fun
  | [d] => { results := [.lit (.bool true)], args := [d] }
  | _ => none }
def fnNotIssueRow : OpenClaim := { program := "ytfancfjbipjibaa", sum := "40acb23938397aa46c6f9cf7c0e385863a507cc3e4550ea1fb1c58f06f2e28ad", func := "loop.example/openissues/laws.FnNotIssue", spec := "fnNotIssue", apart := false }
def FnNotIssueSaid : Prop := fnNotIssueRow.holds Try.pinned (OpenSpec.ofChange fnNotIssueSpec)

/-- ITS FALSE NEIGHBOUR: 'it returns false'. Refute it at one input. -/
def fnNotIssueWrong : ChangeSpec := { name := "fnNotIssue", fn := fun _ => fun
  | [d] => { results := [.lit (.bool false)], args := [d] }
  | _ => none }
def FnNotIssueWrongFalsely : Prop := fnNotIssueRow.holds Try.pinned (OpenSpec.ofChange fnNotIssueWrong)

/-- 'laws.FnWhetherIssue': WHATEVER THE INPUT: true; the input reads as it did. -/
def fnWhetherIssueSpec : ChangeSpec := { name := "fnWhetherIssue", fn := fun _ => fun
  | [d] => { results := [.lit (.bool true)], args := [d] }
  | _ => none }
def fnWhetherIssueRow : OpenClaim := { program := "ytfancfjbipjibaa", sum := "40acb23938397aa46c6f9cf7c0e385863a507cc3e4550ea1fb1c58f06f2e28ad", func := "loop.example/openissues/laws.FnWhetherIssue", spec := "fnWhetherIssue", recurses := true, apart := false }
def FnWhetherIssueSaid : Prop := fnWhetherIssueRow.holds Try.pinned (OpenSpec.ofChange fnWhetherIssueSpec)

/-- ITS FALSE NEIGHBOUR: 'it returns false'. Refute it at one input. -/
def fnWhetherIssueWrong : ChangeSpec := { name := "fnWhetherIssue", fn := fun _ => fun
  | [d] => { results := [.lit (.bool false)], args := [d] }
  | _ => none }
def FnWhetherIssueWrongFalsely : Prop := fnWhetherIssueRow.holds Try.pinned (OpenSpec.ofChange fnWhetherIssueWrong)

/-- 'laws.FnFollows': WHATEVER THE INPUT: true; the input reads as it did. -/
def fnFollowsSpec : ChangeSpec := { name := "fnFollows", fn := fun _ => fun
  | [d] => { results := [.lit (.bool true)], args := [d] }
  | _ => none }
def fnFollowsRow : OpenClaim := { program := "ytfancfjbipjibaa", sum := "40acb23938397aa46c6f9cf7c0e385863a507cc3e4550ea1fb1c58f06f2e28ad", func := "loop.example/openissues/laws.FnFollows", spec := "fnFollows", recurses := true, apart := false }
def FnFollowsSaid : Prop := fnFollowsRow.holds Try.pinned (OpenSpec.ofChange fnFollowsSpec)

/-- ITS FALSE NEIGHBOUR: 'it returns false'. Refute it at one input. -/
def fnFollowsWrong : ChangeSpec := { name := "fnFollows", fn := fun _ => fun
  | [d] => { results := [.lit (.bool false)], args := [d] }
  | _ => none }
def FnFollowsWrongFalsely : Prop := fnFollowsRow.holds Try.pinned (OpenSpec.ofChange fnFollowsWrong)

/-- 'laws.FnExactBothIssues': WHATEVER THE INPUT: true; the input reads as it did. -/
def fnExactBothIssuesSpec : ChangeSpec := { name := "fnExactBothIssues", fn := fun _ => fun
  | [d1, d2, d3] => { results := [.lit (.bool true)], args := [d1, d2, d3] }
  | _ => none }
def fnExactBothIssuesRow : OpenClaim := { program := "ytfancfjbipjibaa", sum := "40acb23938397aa46c6f9cf7c0e385863a507cc3e4550ea1fb1c58f06f2e28ad", func := "loop.example/openissues/laws.FnExactBothIssues", spec := "fnExactBothIssues", recurses := true, apart := false }
def FnExactBothIssuesSaid : Prop := fnExactBothIssuesRow.holds Try.pinned (OpenSpec.ofChange fnExactBothIssuesSpec)

/-- ITS FALSE NEIGHBOUR: 'it returns false'. Refute it at one input. -/
def fnExactBothIssuesWrong : ChangeSpec := { name := "fnExactBothIssues", fn := fun _ => fun
  | [d1, d2, d3] => { results := [.lit (.bool false)], args := [d1, d2, d3] }
  | _ => none }
def FnExactBothIssuesWrongFalsely : Prop := fnExactBothIssuesRow.holds Try.pinned (OpenSpec.ofChange fnExactBothIssuesWrong)

/-- 'laws.FnExactEitherIssue': WHATEVER THE INPUT: true; the input reads as it did. -/
def fnExactEitherIssueSpec : ChangeSpec := { name := "fnExactEitherIssue", fn := fun _ => fun
  | [d1, d2, d3] => { results := [.lit (.bool true)], args := [d1, d2, d3] }
  | _ => none }
def fnExactEitherIssueRow : OpenClaim := { program := "ytfancfjbipjibaa", sum := "40acb23938397aa46c6f9cf7c0e385863a507cc3e4550ea1fb1c58f06f2e28ad", func := "loop.example/openissues/laws.FnExactEitherIssue", spec := "fnExactEitherIssue", recurses := true, apart := false }
def FnExactEitherIssueSaid : Prop := fnExactEitherIssueRow.holds Try.pinned (OpenSpec.ofChange fnExactEitherIssueSpec)

/-- ITS FALSE NEIGHBOUR: 'it returns false'. Refute it at one input. -/
def fnExactEitherIssueWrong : ChangeSpec := { name := "fnExactEitherIssue", fn := fun _ => fun
  | [d1, d2, d3] => { results := [.lit (.bool false)], args := [d1, d2, d3] }
  | _ => none }
def FnExactEitherIssueWrongFalsely : Prop := fnExactEitherIssueRow.holds Try.pinned (OpenSpec.ofChange fnExactEitherIssueWrong)

/-- 'laws.FnExactIfIssue': WHATEVER THE INPUT: true; the input reads as it did. -/
def fnExactIfIssueSpec : ChangeSpec := { name := "fnExactIfIssue", fn := fun _ => fun
  | [d1, d2, d3] => { results := [.lit (.bool true)], args := [d1, d2, d3] }
  | _ => none }
def fnExactIfIssueRow : OpenClaim := { program := "ytfancfjbipjibaa", sum := "40acb23938397aa46c6f9cf7c0e385863a507cc3e4550ea1fb1c58f06f2e28ad", func := "loop.example/openissues/laws.FnExactIfIssue", spec := "fnExactIfIssue", recurses := true, apart := false }
def FnExactIfIssueSaid : Prop := fnExactIfIssueRow.holds Try.pinned (OpenSpec.ofChange fnExactIfIssueSpec)

/-- ITS FALSE NEIGHBOUR: 'it returns false'. Refute it at one input. -/
def fnExactIfIssueWrong : ChangeSpec := { name := "fnExactIfIssue", fn := fun _ => fun
  | [d1, d2, d3] => { results := [.lit (.bool false)], args := [d1, d2, d3] }
  | _ => none }
def FnExactIfIssueWrongFalsely : Prop := fnExactIfIssueRow.holds Try.pinned (OpenSpec.ofChange fnExactIfIssueWrong)

/-- 'laws.FnExactNotIssue': WHATEVER THE INPUT: true; the input reads as it did. -/
def fnExactNotIssueSpec : ChangeSpec := { name := "fnExactNotIssue", fn := fun _ => fun
  | [d1, d2] => { results := [.lit (.bool true)], args := [d1, d2] }
  | _ => none }
def fnExactNotIssueRow : OpenClaim := { program := "ytfancfjbipjibaa", sum := "40acb23938397aa46c6f9cf7c0e385863a507cc3e4550ea1fb1c58f06f2e28ad", func := "loop.example/openissues/laws.FnExactNotIssue", spec := "fnExactNotIssue", apart := false }
def FnExactNotIssueSaid : Prop := fnExactNotIssueRow.holds Try.pinned (OpenSpec.ofChange fnExactNotIssueSpec)

/-- ITS FALSE NEIGHBOUR: 'it returns false'. Refute it at one input. -/
def fnExactNotIssueWrong : ChangeSpec := { name := "fnExactNotIssue", fn := fun _ => fun
  | [d1, d2] => { results := [.lit (.bool false)], args := [d1, d2] }
  | _ => none }
def FnExactNotIssueWrongFalsely : Prop := fnExactNotIssueRow.holds Try.pinned (OpenSpec.ofChange fnExactNotIssueWrong)

/-- 'laws.FnExactWhetherIssue': WHATEVER THE INPUT: true; the input reads as it did. -/
def fnExactWhetherIssueSpec : ChangeSpec := { name := "fnExactWhetherIssue", fn := fun _ => fun
  | [d1, d2] => { results := [.lit (.bool true)], args := [d1, d2] }
  | _ => none }
def fnExactWhetherIssueRow : OpenClaim := { program := "ytfancfjbipjibaa", sum := "40acb23938397aa46c6f9cf7c0e385863a507cc3e4550ea1fb1c58f06f2e28ad", func := "loop.example/openissues/laws.FnExactWhetherIssue", spec := "fnExactWhetherIssue", recurses := true, apart := false }
def FnExactWhetherIssueSaid : Prop := fnExactWhetherIssueRow.holds Try.pinned (OpenSpec.ofChange fnExactWhetherIssueSpec)

/-- ITS FALSE NEIGHBOUR: 'it returns false'. Refute it at one input. -/
def fnExactWhetherIssueWrong : ChangeSpec := { name := "fnExactWhetherIssue", fn := fun _ => fun
  | [d1, d2] => { results := [.lit (.bool false)], args := [d1, d2] }
  | _ => none }
def FnExactWhetherIssueWrongFalsely : Prop := fnExactWhetherIssueRow.holds Try.pinned (OpenSpec.ofChange fnExactWhetherIssueWrong)

/-- 'laws.FnExactFollows': WHATEVER THE INPUT: true; the input reads as it did. -/
def fnExactFollowsSpec : ChangeSpec := { name := "fnExactFollows", fn := fun _ => fun
  | [d1, d2, d3] => { results := [.lit (.bool true)], args := [d1, d2, d3] }
  | _ => none }
def fnExactFollowsRow : OpenClaim := { program := "ytfancfjbipjibaa", sum := "40acb23938397aa46c6f9cf7c0e385863a507cc3e4550ea1fb1c58f06f2e28ad", func := "loop.example/openissues/laws.FnExactFollows", spec := "fnExactFollows", apart := false }
def FnExactFollowsSaid : Prop := fnExactFollowsRow.holds Try.pinned (OpenSpec.ofChange fnExactFollowsSpec)

/-- ITS FALSE NEIGHBOUR: 'it returns false'. Refute it at one input. -/
def fnExactFollowsWrong : ChangeSpec := { name := "fnExactFollows", fn := fun _ => fun
  | [d1, d2, d3] => { results := [.lit (.bool false)], args := [d1, d2, d3] }
  | _ => none }
def FnExactFollowsWrongFalsely : Prop := fnExactFollowsRow.holds Try.pinned (OpenSpec.ofChange fnExactFollowsWrong)

/-- 'laws.FnIssuesOf': WHATEVER THE INPUT: true; the input reads as it did. -/
def fnIssuesOfSpec : ChangeSpec := { name := "fnIssuesOf", fn := fun _ => fun
  | [d] => { results := [.lit (.bool true)], args := [d] }
  | _ => none }
def fnIssuesOfRow : OpenClaim := { program := "ytfancfjbipjibaa", sum := "40acb23938397aa46c6f9cf7c0e385863a507cc3e4550ea1fb1c58f06f2e28ad", func := "loop.example/openissues/laws.FnIssuesOf", spec := "fnIssuesOf", unfollowed := true, recurses := true, apart := false }
def FnIssuesOfSaid : Prop := fnIssuesOfRow.holds Try.pinned (OpenSpec.ofChange fnIssuesOfSpec)

/-- ITS FALSE NEIGHBOUR: 'it returns false'. Refute it at one input. -/
def fnIssuesOfWrong : ChangeSpec := { name := "fnIssuesOf", fn := fun _ => fun
  | [d] => { results := [.lit (.bool false)], args := [d] }
  | _ => none }
def FnIssuesOfWrongFalsely : Prop := fnIssuesOfRow.holds Try.pinned (OpenSpec.ofChange fnIssuesOfWrong)

/-- 'laws.FnExactIssuesOf': WHATEVER THE INPUT: true; the input reads as it did. -/
def fnExactIssuesOfSpec : ChangeSpec := { name := "fnExactIssuesOf", fn := fun _ => fun
  | [d] => { results := [.lit (.bool true)], args := [d] }
  | _ => none }
def fnExactIssuesOfRow : OpenClaim := { program := "ytfancfjbipjibaa", sum := "40acb23938397aa46c6f9cf7c0e385863a507cc3e4550ea1fb1c58f06f2e28ad", func := "loop.example/openissues/laws.FnExactIssuesOf", spec := "fnExactIssuesOf", unfollowed := true, recurses := true, apart := false }
def FnExactIssuesOfSaid : Prop := fnExactIssuesOfRow.holds Try.pinned (OpenSpec.ofChange fnExactIssuesOfSpec)

/-- ITS FALSE NEIGHBOUR: 'it returns false'. Refute it at one input. -/
def fnExactIssuesOfWrong : ChangeSpec := { name := "fnExactIssuesOf", fn := fun _ => fun
  | [d] => { results := [.lit (.bool false)], args := [d] }
  | _ => none }
def FnExactIssuesOfWrongFalsely : Prop := fnExactIssuesOfRow.holds Try.pinned (OpenSpec.ofChange fnExactIssuesOfWrong)

/- THE SECOND FORM. 'bulk': how many values and letters a reading holds, each counted each time it is reached (what is shared counts as often as it is met; a slice's spare places count too). A statement '..UptoSaid' is the law's where the arguments, and the package variables that the reading takes, are together of bulk at most 1048576: NARROWER than '..Said'. Prove '..Said' where nothing that the law and all that it calls make is longer than what came in: it says more and counts as full. Else prove '..UptoSaid'. A law counts once. -/
mutual
def uptoBulk {H : Type} : DataW H → Nat
  | .lit (.string bytes) => bytes.length + 1
  | .lit _ => 1
  | .nil => 1
  | .ptr d => uptoBulk d + 1
  | .slice elems spare => uptoBulkAll elems + uptoBulkAll spare + 1
  | .agg parts => uptoBulkAll parts + 1
  | .iface _ d => uptoBulk d + 1
  | .map entries => uptoBulkEntries entries + 1
  | .held _ => 1
def uptoBulkAll {H : Type} : List (DataW H) → Nat
  | [] => 0
  | d :: r => uptoBulk d + uptoBulkAll r
def uptoBulkEntries {H : Type} : List (Lit × DataW H) → Nat
  | [] => 0
  | x :: r => uptoBulkEntry x + uptoBulkEntries r
def uptoBulkEntry {H : Type} : Lit × DataW H → Nat
  | (.string bytes, d) => bytes.length + uptoBulk d + 1
  | (_, d) => uptoBulk d + 1
 end
def uptoSmall : (H : Type) → List (DataW H) → Bool := fun _ ds => decide (uptoBulkAll ds ≤ 1048576)
def OpenSpec.upto (s : _root_.Go.ChangeSpec) : _root_.Go.OpenSpec := { _root_.Go.OpenSpec.ofChange s with cond := some uptoSmall }

/-- 'laws.FnBothIssues', WHERE WHAT IT READS IS OF BULK AT MOST 1048576: true; the input reads as it did. -/
def fnBothIssuesUptoRow : OpenClaim := { program := "ytfancfjbipjibaa", sum := "40acb23938397aa46c6f9cf7c0e385863a507cc3e4550ea1fb1c58f06f2e28ad", func := "loop.example/openissues/laws.FnBothIssues", spec := "fnBothIssues", recurses := true, apart := false, narrowed := true }
def FnBothIssuesUptoSaid : Prop := fnBothIssuesUptoRow.holds Try.pinned (OpenSpec.upto fnBothIssuesSpec)

/-- 'laws.FnEitherIssue', WHERE WHAT IT READS IS OF BULK AT MOST 1048576: true; the input reads as it did. -/
def fnEitherIssueUptoRow : OpenClaim := { program := "ytfancfjbipjibaa", sum := "40acb23938397aa46c6f9cf7c0e385863a507cc3e4550ea1fb1c58f06f2e28ad", func := "loop.example/openissues/laws.FnEitherIssue", spec := "fnEitherIssue", recurses := true, apart := false, narrowed := true }
def FnEitherIssueUptoSaid : Prop := fnEitherIssueUptoRow.holds Try.pinned (OpenSpec.upto fnEitherIssueSpec)

/-- 'laws.FnIfIssue', WHERE WHAT IT READS IS OF BULK AT MOST 1048576: true; the input reads as it did. -/
def fnIfIssueUptoRow : OpenClaim := { program := "ytfancfjbipjibaa", sum := "40acb23938397aa46c6f9cf7c0e385863a507cc3e4550ea1fb1c58f06f2e28ad", func := "loop.example/openissues/laws.FnIfIssue", spec := "fnIfIssue", recurses := true, apart := false, narrowed := true }
def FnIfIssueUptoSaid : Prop := fnIfIssueUptoRow.holds Try.pinned (OpenSpec.upto fnIfIssueSpec)

/-- 'laws.FnNotIssue', WHERE WHAT IT READS IS OF BULK AT MOST 1048576: true; the input reads as it did. -/
def fnNotIssueUptoRow : OpenClaim := { program := "ytfancfjbipjibaa", sum := "40acb23938397aa46c6f9cf7c0e385863a507cc3e4550ea1fb1c58f06f2e28ad", func := "loop.example/openissues/laws.FnNotIssue", spec := "fnNotIssue", apart := false, narrowed := true }
def FnNotIssueUptoSaid : Prop := fnNotIssueUptoRow.holds Try.pinned (OpenSpec.upto fnNotIssueSpec)

/-- 'laws.FnWhetherIssue', WHERE WHAT IT READS IS OF BULK AT MOST 1048576: true; the input reads as it did. -/
def fnWhetherIssueUptoRow : OpenClaim := { program := "ytfancfjbipjibaa", sum := "40acb23938397aa46c6f9cf7c0e385863a507cc3e4550ea1fb1c58f06f2e28ad", func := "loop.example/openissues/laws.FnWhetherIssue", spec := "fnWhetherIssue", recurses := true, apart := false, narrowed := true }
def FnWhetherIssueUptoSaid : Prop := fnWhetherIssueUptoRow.holds Try.pinned (OpenSpec.upto fnWhetherIssueSpec)

/-- 'laws.FnFollows', WHERE WHAT IT READS IS OF BULK AT MOST 1048576: true; the input reads as it did. -/
def fnFollowsUptoRow : OpenClaim := { program := "ytfancfjbipjibaa", sum := "40acb23938397aa46c6f9cf7c0e385863a507cc3e4550ea1fb1c58f06f2e28ad", func := "loop.example/openissues/laws.FnFollows", spec := "fnFollows", recurses := true, apart := false, narrowed := true }
def FnFollowsUptoSaid : Prop := fnFollowsUptoRow.holds Try.pinned (OpenSpec.upto fnFollowsSpec)

/-- 'laws.FnExactBothIssues', WHERE WHAT IT READS IS OF BULK AT MOST 1048576: true; the input reads as it did. -/
def fnExactBothIssuesUptoRow : OpenClaim := { program := "ytfancfjbipjibaa", sum := "40acb23938397aa46c6f9cf7c0e385863a507cc3e4550ea1fb1c58f06f2e28ad", func := "loop.example/openissues/laws.FnExactBothIssues", spec := "fnExactBothIssues", recurses := true, apart := false, narrowed := true }
def FnExactBothIssuesUptoSaid : Prop := fnExactBothIssuesUptoRow.holds Try.pinned (OpenSpec.upto fnExactBothIssuesSpec)

/-- 'laws.FnExactEitherIssue', WHERE WHAT IT READS IS OF BULK AT MOST 1048576: true; the input reads as it did. -/
def fnExactEitherIssueUptoRow : OpenClaim := { program := "ytfancfjbipjibaa", sum := "40acb23938397aa46c6f9cf7c0e385863a507cc3e4550ea1fb1c58f06f2e28ad", func := "loop.example/openissues/laws.FnExactEitherIssue", spec := "fnExactEitherIssue", recurses := true, apart := false, narrowed := true }
def FnExactEitherIssueUptoSaid : Prop := fnExactEitherIssueUptoRow.holds Try.pinned (OpenSpec.upto fnExactEitherIssueSpec)

/-- 'laws.FnExactIfIssue', WHERE WHAT IT READS IS OF BULK AT MOST 1048576: true; the input reads as it did. -/
def fnExactIfIssueUptoRow : OpenClaim := { program := "ytfancfjbipjibaa", sum := "40acb23938397aa46c6f9cf7c0e385863a507cc3e4550ea1fb1c58f06f2e28ad", func := "loop.example/openissues/laws.FnExactIfIssue", spec := "fnExactIfIssue", recurses := true, apart := false, narrowed := true }
def FnExactIfIssueUptoSaid : Prop := fnExactIfIssueUptoRow.holds Try.pinned (OpenSpec.upto fnExactIfIssueSpec)

/-- 'laws.FnExactNotIssue', WHERE WHAT IT READS IS OF BULK AT MOST 1048576: true; the input reads as it did. -/
def fnExactNotIssueUptoRow : OpenClaim := { program := "ytfancfjbipjibaa", sum := "40acb23938397aa46c6f9cf7c0e385863a507cc3e4550ea1fb1c58f06f2e28ad", func := "loop.example/openissues/laws.FnExactNotIssue", spec := "fnExactNotIssue", apart := false, narrowed := true }
def FnExactNotIssueUptoSaid : Prop := fnExactNotIssueUptoRow.holds Try.pinned (OpenSpec.upto fnExactNotIssueSpec)

/-- 'laws.FnExactWhetherIssue', WHERE WHAT IT READS IS OF BULK AT MOST 1048576: true; the input reads as it did. -/
def fnExactWhetherIssueUptoRow : OpenClaim := { program := "ytfancfjbipjibaa", sum := "40acb23938397aa46c6f9cf7c0e385863a507cc3e4550ea1fb1c58f06f2e28ad", func := "loop.example/openissues/laws.FnExactWhetherIssue", spec := "fnExactWhetherIssue", recurses := true, apart := false, narrowed := true }
def FnExactWhetherIssueUptoSaid : Prop := fnExactWhetherIssueUptoRow.holds Try.pinned (OpenSpec.upto fnExactWhetherIssueSpec)

/-- 'laws.FnExactFollows', WHERE WHAT IT READS IS OF BULK AT MOST 1048576: true; the input reads as it did. -/
def fnExactFollowsUptoRow : OpenClaim := { program := "ytfancfjbipjibaa", sum := "40acb23938397aa46c6f9cf7c0e385863a507cc3e4550ea1fb1c58f06f2e28ad", func := "loop.example/openissues/laws.FnExactFollows", spec := "fnExactFollows", apart := false, narrowed := true }
def FnExactFollowsUptoSaid : Prop := fnExactFollowsUptoRow.holds Try.pinned (OpenSpec.upto fnExactFollowsSpec)

/-- 'laws.FnIssuesOf', WHERE WHAT IT READS IS OF BULK AT MOST 1048576: true; the input reads as it did. -/
def fnIssuesOfUptoRow : OpenClaim := { program := "ytfancfjbipjibaa", sum := "40acb23938397aa46c6f9cf7c0e385863a507cc3e4550ea1fb1c58f06f2e28ad", func := "loop.example/openissues/laws.FnIssuesOf", spec := "fnIssuesOf", unfollowed := true, recurses := true, apart := false, narrowed := true }
def FnIssuesOfUptoSaid : Prop := fnIssuesOfUptoRow.holds Try.pinned (OpenSpec.upto fnIssuesOfSpec)

/-- 'laws.FnExactIssuesOf', WHERE WHAT IT READS IS OF BULK AT MOST 1048576: true; the input reads as it did. -/
def fnExactIssuesOfUptoRow : OpenClaim := { program := "ytfancfjbipjibaa", sum := "40acb23938397aa46c6f9cf7c0e385863a507cc3e4550ea1fb1c58f06f2e28ad", func := "loop.example/openissues/laws.FnExactIssuesOf", spec := "fnExactIssuesOf", unfollowed := true, recurses := true, apart := false, narrowed := true }
def FnExactIssuesOfUptoSaid : Prop := fnExactIssuesOfUptoRow.holds Try.pinned (OpenSpec.upto fnExactIssuesOfSpec)

end Rows
end Go.Proofs.Ytfancfjbipjibaa
