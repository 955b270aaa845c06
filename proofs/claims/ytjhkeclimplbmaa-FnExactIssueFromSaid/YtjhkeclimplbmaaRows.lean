/-
  No cell of these rows narrows 'for every input' (looked for: loops, veiled, ifaces, maps, wideKeys, modest, calm, conditions, laid).
  DERIVED. THE GIVEN ROWS OF THIS SEAT. 14 by the template 'for every input the law returns true; each argument reads behind the call as it read before'; 0 by the template 'total and deterministic' (their statements: YtjhkeclimplbmaaTotals.lean).
  GIVEN WITH THE SEED: the statements are not yours to turn. If you find one false, say at which input.
  Laid BY PROGRAM, IN A SANDBOX (cutbox-rows.mjs): the forced cells as the released guide's own fill.sh prints them over the translation cbe39eec44fed548… (all of the seat's roots in one cut). By AI agents, Wed Nov 11 2026. No macro, syntax, notation, axiom, sorry.
-/
import Derived.Test.YtjhkeclimplbmaaChecked
import GoSem.Claim
import GoSem.ClaimJoined
import GoSem.ClaimMapViews
import Derived.JoinedTies
import Derived.KernelRfl
namespace Go.Proofs.Ytjhkeclimplbmaa
/- THE CELL 'sum', in the pinned program and in every row, IS THE sha256 OF THE DUMP (.gsa) THAT YtjhkeclimplbmaaProg.lean LOADS. Nothing in Lean hashes anything: it is a label: what it is worth is what the hold of that sum in a sandbox is worth. -/
noncomputable def Try.pinned : Pinned := { name := "ytjhkeclimplbmaa", sum := "cbe39eec44fed54851262184affee9ad28cdb4dcefe24c56cb28360d6beaac99", checked := Try.checked }
namespace Rows
def none {H : Type} : Left H := { results := [], args := [] }

/-- 'laws.FnWorldsOf': WHATEVER THE INPUT: true; the input reads as it did. -/
def fnWorldsOfSpec : ChangeSpec := { name := "fnWorldsOf", fn := fun _ => fun
  | [d] => { results := [.lit (.bool true)], args := [d] }
  | _ => none }
def fnWorldsOfRow : OpenClaim := { program := "ytjhkeclimplbmaa", sum := "cbe39eec44fed54851262184affee9ad28cdb4dcefe24c56cb28360d6beaac99", func := "loop.example/openissues/laws.FnWorldsOf", spec := "fnWorldsOf", apart := false }
def FnWorldsOfSaid : Prop := fnWorldsOfRow.holds Try.pinned (OpenSpec.ofChange fnWorldsOfSpec)

/-- ITS FALSE NEIGHBOUR: 'it returns false'. Refute it at one input. -/
def fnWorldsOfWrong : ChangeSpec := { name := "fnWorldsOf", fn := fun _ => fun
  | [d] => { results := [.lit (.bool false)], args := [d] }
  | _ => none }
def FnWorldsOfWrongFalsely : Prop := fnWorldsOfRow.holds Try.pinned (OpenSpec.ofChange fnWorldsOfWrong)

/-- 'laws.FnSetOk': WHATEVER THE INPUT: true; the input reads as it did. -/
def fnSetOkSpec : ChangeSpec := { name := "fnSetOk", fn := fun _ => fun
  | [d] => { results := [.lit (.bool true)], args := [d] }
  | _ => none }
def fnSetOkRow : OpenClaim := { program := "ytjhkeclimplbmaa", sum := "cbe39eec44fed54851262184affee9ad28cdb4dcefe24c56cb28360d6beaac99", func := "loop.example/openissues/laws.FnSetOk", spec := "fnSetOk", apart := false }
def FnSetOkSaid : Prop := fnSetOkRow.holds Try.pinned (OpenSpec.ofChange fnSetOkSpec)

/-- ITS FALSE NEIGHBOUR: 'it returns false'. Refute it at one input. -/
def fnSetOkWrong : ChangeSpec := { name := "fnSetOk", fn := fun _ => fun
  | [d] => { results := [.lit (.bool false)], args := [d] }
  | _ => none }
def FnSetOkWrongFalsely : Prop := fnSetOkRow.holds Try.pinned (OpenSpec.ofChange fnSetOkWrong)

/-- 'laws.FnIssueOk': WHATEVER THE INPUT: true; the input reads as it did. -/
def fnIssueOkSpec : ChangeSpec := { name := "fnIssueOk", fn := fun _ => fun
  | [d] => { results := [.lit (.bool true)], args := [d] }
  | _ => none }
def fnIssueOkRow : OpenClaim := { program := "ytjhkeclimplbmaa", sum := "cbe39eec44fed54851262184affee9ad28cdb4dcefe24c56cb28360d6beaac99", func := "loop.example/openissues/laws.FnIssueOk", spec := "fnIssueOk", apart := false }
def FnIssueOkSaid : Prop := fnIssueOkRow.holds Try.pinned (OpenSpec.ofChange fnIssueOkSpec)

/-- ITS FALSE NEIGHBOUR: 'it returns false'. Refute it at one input. -/
def fnIssueOkWrong : ChangeSpec := { name := "fnIssueOk", fn := fun _ => fun
  | [d] => { results := [.lit (.bool false)], args := [d] }
  | _ => none }
def FnIssueOkWrongFalsely : Prop := fnIssueOkRow.holds Try.pinned (OpenSpec.ofChange fnIssueOkWrong)

/-- 'laws.FnIssueFrom': WHATEVER THE INPUT: true; the input reads as it did. -/
def fnIssueFromSpec : ChangeSpec := { name := "fnIssueFrom", fn := fun _ => fun
  | [d] => { results := [.lit (.bool true)], args := [d] }
  | _ => none }
def fnIssueFromRow : OpenClaim := { program := "ytjhkeclimplbmaa", sum := "cbe39eec44fed54851262184affee9ad28cdb4dcefe24c56cb28360d6beaac99", func := "loop.example/openissues/laws.FnIssueFrom", spec := "fnIssueFrom", recurses := true, apart := false }
def FnIssueFromSaid : Prop := fnIssueFromRow.holds Try.pinned (OpenSpec.ofChange fnIssueFromSpec)

/-- ITS FALSE NEIGHBOUR: 'it returns false'. Refute it at one input. -/
def fnIssueFromWrong : ChangeSpec := { name := "fnIssueFrom", fn := fun _ => fun
  | [d] => { results := [.lit (.bool false)], args := [d] }
  | _ => none }
def FnIssueFromWrongFalsely : Prop := fnIssueFromRow.holds Try.pinned (OpenSpec.ofChange fnIssueFromWrong)

/-- 'laws.FnSettles': WHATEVER THE INPUT: true; the input reads as it did. -/
def fnSettlesSpec : ChangeSpec := { name := "fnSettles", fn := fun _ => fun
  | [d1, d2] => { results := [.lit (.bool true)], args := [d1, d2] }
  | _ => none }
def fnSettlesRow : OpenClaim := { program := "ytjhkeclimplbmaa", sum := "cbe39eec44fed54851262184affee9ad28cdb4dcefe24c56cb28360d6beaac99", func := "loop.example/openissues/laws.FnSettles", spec := "fnSettles", apart := false }
def FnSettlesSaid : Prop := fnSettlesRow.holds Try.pinned (OpenSpec.ofChange fnSettlesSpec)

/-- ITS FALSE NEIGHBOUR: 'it returns false'. Refute it at one input. -/
def fnSettlesWrong : ChangeSpec := { name := "fnSettles", fn := fun _ => fun
  | [d1, d2] => { results := [.lit (.bool false)], args := [d1, d2] }
  | _ => none }
def FnSettlesWrongFalsely : Prop := fnSettlesRow.holds Try.pinned (OpenSpec.ofChange fnSettlesWrong)

/-- 'laws.FnGrantedBy': WHATEVER THE INPUT: true; the input reads as it did. -/
def fnGrantedBySpec : ChangeSpec := { name := "fnGrantedBy", fn := fun _ => fun
  | [d] => { results := [.lit (.bool true)], args := [d] }
  | _ => none }
def fnGrantedByRow : OpenClaim := { program := "ytjhkeclimplbmaa", sum := "cbe39eec44fed54851262184affee9ad28cdb4dcefe24c56cb28360d6beaac99", func := "loop.example/openissues/laws.FnGrantedBy", spec := "fnGrantedBy", apart := false }
def FnGrantedBySaid : Prop := fnGrantedByRow.holds Try.pinned (OpenSpec.ofChange fnGrantedBySpec)

/-- ITS FALSE NEIGHBOUR: 'it returns false'. Refute it at one input. -/
def fnGrantedByWrong : ChangeSpec := { name := "fnGrantedBy", fn := fun _ => fun
  | [d] => { results := [.lit (.bool false)], args := [d] }
  | _ => none }
def FnGrantedByWrongFalsely : Prop := fnGrantedByRow.holds Try.pinned (OpenSpec.ofChange fnGrantedByWrong)

/-- 'laws.FnStatementOf': WHATEVER THE INPUT: true; the input reads as it did. -/
def fnStatementOfSpec : ChangeSpec := { name := "fnStatementOf", fn := fun _ => fun
  | [d] => { results := [.lit (.bool true)], args := [d] }
  | _ => none }
def fnStatementOfRow : OpenClaim := { program := "ytjhkeclimplbmaa", sum := "cbe39eec44fed54851262184affee9ad28cdb4dcefe24c56cb28360d6beaac99", func := "loop.example/openissues/laws.FnStatementOf", spec := "fnStatementOf", apart := false }
def FnStatementOfSaid : Prop := fnStatementOfRow.holds Try.pinned (OpenSpec.ofChange fnStatementOfSpec)

/-- ITS FALSE NEIGHBOUR: 'it returns false'. Refute it at one input. -/
def fnStatementOfWrong : ChangeSpec := { name := "fnStatementOf", fn := fun _ => fun
  | [d] => { results := [.lit (.bool false)], args := [d] }
  | _ => none }
def FnStatementOfWrongFalsely : Prop := fnStatementOfRow.holds Try.pinned (OpenSpec.ofChange fnStatementOfWrong)

/-- 'laws.FnExactWorldsOf': WHATEVER THE INPUT: true; the input reads as it did. -/
def fnExactWorldsOfSpec : ChangeSpec := { name := "fnExactWorldsOf", fn := fun _ => fun
  | [d] => { results := [.lit (.bool true)], args := [d] }
  | _ => none }
def fnExactWorldsOfRow : OpenClaim := { program := "ytjhkeclimplbmaa", sum := "cbe39eec44fed54851262184affee9ad28cdb4dcefe24c56cb28360d6beaac99", func := "loop.example/openissues/laws.FnExactWorldsOf", spec := "fnExactWorldsOf", apart := false }
def FnExactWorldsOfSaid : Prop := fnExactWorldsOfRow.holds Try.pinned (OpenSpec.ofChange fnExactWorldsOfSpec)

/-- ITS FALSE NEIGHBOUR: 'it returns false'. Refute it at one input. -/
def fnExactWorldsOfWrong : ChangeSpec := { name := "fnExactWorldsOf", fn := fun _ => fun
  | [d] => { results := [.lit (.bool false)], args := [d] }
  | _ => none }
def FnExactWorldsOfWrongFalsely : Prop := fnExactWorldsOfRow.holds Try.pinned (OpenSpec.ofChange fnExactWorldsOfWrong)

/-- 'laws.FnExactSetOk': WHATEVER THE INPUT: true; the input reads as it did. -/
def fnExactSetOkSpec : ChangeSpec := { name := "fnExactSetOk", fn := fun _ => fun
  | [d1, d2] => { results := [.lit (.bool true)], args := [d1, d2] }
  | _ => none }
def fnExactSetOkRow : OpenClaim := { program := "ytjhkeclimplbmaa", sum := "cbe39eec44fed54851262184affee9ad28cdb4dcefe24c56cb28360d6beaac99", func := "loop.example/openissues/laws.FnExactSetOk", spec := "fnExactSetOk", apart := false }
def FnExactSetOkSaid : Prop := fnExactSetOkRow.holds Try.pinned (OpenSpec.ofChange fnExactSetOkSpec)

/-- ITS FALSE NEIGHBOUR: 'it returns false'. Refute it at one input. -/
def fnExactSetOkWrong : ChangeSpec := { name := "fnExactSetOk", fn := fun _ => fun
  | [d1, d2] => { results := [.lit (.bool false)], args := [d1, d2] }
  | _ => none }
def FnExactSetOkWrongFalsely : Prop := fnExactSetOkRow.holds Try.pinned (OpenSpec.ofChange fnExactSetOkWrong)

/-- 'laws.FnExactIssueOk': WHATEVER THE INPUT: true; the input reads as it did. -/
def fnExactIssueOkSpec : ChangeSpec := { name := "fnExactIssueOk", fn := fun _ => fun
  | [d1, d2] => { results := [.lit (.bool true)], args := [d1, d2] }
  | _ => none }
def fnExactIssueOkRow : OpenClaim := { program := "ytjhkeclimplbmaa", sum := "cbe39eec44fed54851262184affee9ad28cdb4dcefe24c56cb28360d6beaac99", func := "loop.example/openissues/laws.FnExactIssueOk", spec := "fnExactIssueOk", apart := false }
def FnExactIssueOkSaid : Prop := fnExactIssueOkRow.holds Try.pinned (OpenSpec.ofChange fnExactIssueOkSpec)

/-- ITS FALSE NEIGHBOUR: 'it returns false'. Refute it at one input. -/
def fnExactIssueOkWrong : ChangeSpec := { name := "fnExactIssueOk", fn := fun _ => fun
  | [d1, d2] => { results := [.lit (.bool false)], args := [d1, d2] }
  | _ => none }
def FnExactIssueOkWrongFalsely : Prop := fnExactIssueOkRow.holds Try.pinned (OpenSpec.ofChange fnExactIssueOkWrong)

/-- 'laws.FnExactIssueFrom': WHATEVER THE INPUT: true; the input reads as it did. -/
def fnExactIssueFromSpec : ChangeSpec := { name := "fnExactIssueFrom", fn := fun _ => fun
  | [d1, d2] => { results := [.lit (.bool true)], args := [d1, d2] }
  | _ => none }
def fnExactIssueFromRow : OpenClaim := { program := "ytjhkeclimplbmaa", sum := "cbe39eec44fed54851262184affee9ad28cdb4dcefe24c56cb28360d6beaac99", func := "loop.example/openissues/laws.FnExactIssueFrom", spec := "fnExactIssueFrom", recurses := true, apart := false }
def FnExactIssueFromSaid : Prop := fnExactIssueFromRow.holds Try.pinned (OpenSpec.ofChange fnExactIssueFromSpec)

/-- ITS FALSE NEIGHBOUR: 'it returns false'. Refute it at one input. -/
def fnExactIssueFromWrong : ChangeSpec := { name := "fnExactIssueFrom", fn := fun _ => fun
  | [d1, d2] => { results := [.lit (.bool false)], args := [d1, d2] }
  | _ => none }
def FnExactIssueFromWrongFalsely : Prop := fnExactIssueFromRow.holds Try.pinned (OpenSpec.ofChange fnExactIssueFromWrong)

/-- 'laws.FnExactSettles': WHATEVER THE INPUT: true; the input reads as it did. -/
def fnExactSettlesSpec : ChangeSpec := { name := "fnExactSettles", fn := fun _ => fun
  | [d1, d2, d3] => { results := [.lit (.bool true)], args := [d1, d2, d3] }
  | _ => none }
def fnExactSettlesRow : OpenClaim := { program := "ytjhkeclimplbmaa", sum := "cbe39eec44fed54851262184affee9ad28cdb4dcefe24c56cb28360d6beaac99", func := "loop.example/openissues/laws.FnExactSettles", spec := "fnExactSettles", apart := false }
def FnExactSettlesSaid : Prop := fnExactSettlesRow.holds Try.pinned (OpenSpec.ofChange fnExactSettlesSpec)

/-- ITS FALSE NEIGHBOUR: 'it returns false'. Refute it at one input. -/
def fnExactSettlesWrong : ChangeSpec := { name := "fnExactSettles", fn := fun _ => fun
  | [d1, d2, d3] => { results := [.lit (.bool false)], args := [d1, d2, d3] }
  | _ => none }
def FnExactSettlesWrongFalsely : Prop := fnExactSettlesRow.holds Try.pinned (OpenSpec.ofChange fnExactSettlesWrong)

/-- 'laws.FnExactGrantedBy': WHATEVER THE INPUT: true; the input reads as it did. -/
def fnExactGrantedBySpec : ChangeSpec := { name := "fnExactGrantedBy", fn := fun _ => fun
  | [d1, d2] => { results := [.lit (.bool true)], args := [d1, d2] }
  | _ => none }
def fnExactGrantedByRow : OpenClaim := { program := "ytjhkeclimplbmaa", sum := "cbe39eec44fed54851262184affee9ad28cdb4dcefe24c56cb28360d6beaac99", func := "loop.example/openissues/laws.FnExactGrantedBy", spec := "fnExactGrantedBy", apart := false }
def FnExactGrantedBySaid : Prop := fnExactGrantedByRow.holds Try.pinned (OpenSpec.ofChange fnExactGrantedBySpec)

/-- ITS FALSE NEIGHBOUR: 'it returns false'. Refute it at one input. -/
def fnExactGrantedByWrong : ChangeSpec := { name := "fnExactGrantedBy", fn := fun _ => fun
  | [d1, d2] => { results := [.lit (.bool false)], args := [d1, d2] }
  | _ => none }
def FnExactGrantedByWrongFalsely : Prop := fnExactGrantedByRow.holds Try.pinned (OpenSpec.ofChange fnExactGrantedByWrong)

/-- 'laws.FnExactStatementOf': WHATEVER THE INPUT: true; the input reads as it did. -/
def fnExactStatementOfSpec : ChangeSpec := { name := "fnExactStatementOf", fn := fun _ => fun
  | [d1, d2] => { results := [.lit (.bool true)], args := [d1, d2] }
  | _ => none }
def fnExactStatementOfRow : OpenClaim := { program := "ytjhkeclimplbmaa", sum := "cbe39eec44fed54851262184affee9ad28cdb4dcefe24c56cb28360d6beaac99", func := "loop.example/openissues/laws.FnExactStatementOf", spec := "fnExactStatementOf", apart := false }
def FnExactStatementOfSaid : Prop := fnExactStatementOfRow.holds Try.pinned (OpenSpec.ofChange fnExactStatementOfSpec)

/-- ITS FALSE NEIGHBOUR: 'it returns false'. Refute it at one input. -/
def fnExactStatementOfWrong : ChangeSpec := { name := "fnExactStatementOf", fn := fun _ => fun
  | [d1, d2] => { results := [.lit (.bool false)], args := [d1, d2] }
  | _ => none }
def FnExactStatementOfWrongFalsely : Prop := fnExactStatementOfRow.holds Try.pinned (OpenSpec.ofChange fnExactStatementOfWrong)

/- THE SECOND FORM. 'bulk': how many values and letters a reading holds, each counted each time it is reached (what is shared counts as often as it is met; a slice's spare places count too). A statement '..UptoSaid' is the law's where the arguments, and the package variables that the reading takes, are together of bulk at most 1048576: NARROWER than '..Said'. Prove '..Said' where nothing that the law and all that it calls make is longer than what came in: it says more and counts as full. Else prove '..UptoSaid'. A law counts once. -/
mutual
def uptoBulk {H : Type} : DataW H → Nat
  | .lit (.string bytes) => bytes.length + 1
  | .lit _ => 1
  | .nil => 1
  | .ptr d => uptoBulk d + 1
  | .slice elems spare => uptoBulkAll elems + uptoBulkAll spare + 1
  | .agg parts => uptoBulkAll parts + 1
  | .iface _ d => uptoBulk d + 1
  | .map entries => uptoBulkEntries entries + 1
  | .held _ => 1
def uptoBulkAll {H : Type} : List (DataW H) → Nat
  | [] => 0
  | d :: r => uptoBulk d + uptoBulkAll r
def uptoBulkEntries {H : Type} : List (Lit × DataW H) → Nat
  | [] => 0
  | x :: r => uptoBulkEntry x + uptoBulkEntries r
def uptoBulkEntry {H : Type} : Lit × DataW H → Nat
  | (.string bytes, d) => bytes.length + uptoBulk d + 1
  | (_, d) => uptoBulk d + 1
 end
def uptoSmall : (H : Type) → List (DataW H) → Bool := fun _ ds => decide (uptoBulkAll ds ≤ 1048576)
def OpenSpec.upto (s : _root_.Go.ChangeSpec) : _root_.Go.OpenSpec := { _root_.Go.OpenSpec.ofChange s with cond := some uptoSmall }

/-- 'laws.FnWorldsOf', WHERE WHAT IT READS IS OF BULK AT MOST 1048576: true; the input reads as it did. -/
def fnWorldsOfUptoRow : OpenClaim := { program := "ytjhkeclimplbmaa", sum := "cbe39eec44fed54851262184affee9ad28cdb4dcefe24c56cb28360d6beaac99", func := "loop.example/openissues/laws.FnWorldsOf", spec := "fnWorldsOf", apart := false, narrowed := true }
def FnWorldsOfUptoSaid : Prop := fnWorldsOfUptoRow.holds Try.pinned (OpenSpec.upto fnWorldsOfSpec)

/-- 'laws.FnSetOk', WHERE WHAT IT READS IS OF BULK AT MOST 1048576: true; the input reads as it did. -/
def fnSetOkUptoRow : OpenClaim := { program := "ytjhkeclimplbmaa", sum := "cbe39eec44fed54851262184affee9ad28cdb4dcefe24c56cb28360d6beaac99", func := "loop.example/openissues/laws.FnSetOk", spec := "fnSetOk", apart := false, narrowed := true }
def FnSetOkUptoSaid : Prop := fnSetOkUptoRow.holds Try.pinned (OpenSpec.upto fnSetOkSpec)

/-- 'laws.FnIssueOk', WHERE WHAT IT READS IS OF BULK AT MOST 1048576: true; the input reads as it did. -/
def fnIssueOkUptoRow : OpenClaim := { program := "ytjhkeclimplbmaa", sum := "cbe39eec44fed54851262184affee9ad28cdb4dcefe24c56cb28360d6beaac99", func := "loop.example/openissues/laws.FnIssueOk", spec := "fnIssueOk", apart := false, narrowed := true }
def FnIssueOkUptoSaid : Prop := fnIssueOkUptoRow.holds Try.pinned (OpenSpec.upto fnIssueOkSpec)

/-- 'laws.FnIssueFrom', WHERE WHAT IT READS IS OF BULK AT MOST 1048576: true; the input reads as it did. -/
def fnIssueFromUptoRow : OpenClaim := { program := "ytjhkeclimplbmaa", sum := "cbe39eec44fed54851262184affee9ad28cdb4dcefe24c56cb28360d6beaac99", func := "loop.example/openissues/laws.FnIssueFrom", spec := "fnIssueFrom", recurses := true, apart := false, narrowed := true }
def FnIssueFromUptoSaid : Prop := fnIssueFromUptoRow.holds Try.pinned (OpenSpec.upto fnIssueFromSpec)

/-- 'laws.FnSettles', WHERE WHAT IT READS IS OF BULK AT MOST 1048576: true; the input reads as it did. -/
def fnSettlesUptoRow : OpenClaim := { program := "ytjhkeclimplbmaa", sum := "cbe39eec44fed54851262184affee9ad28cdb4dcefe24c56cb28360d6beaac99", func := "loop.example/openissues/laws.FnSettles", spec := "fnSettles", apart := false, narrowed := true }
def FnSettlesUptoSaid : Prop := fnSettlesUptoRow.holds Try.pinned (OpenSpec.upto fnSettlesSpec)

/-- 'laws.FnGrantedBy', WHERE WHAT IT READS IS OF BULK AT MOST 1048576: true; the input reads as it did. -/
def fnGrantedByUptoRow : OpenClaim := { program := "ytjhkeclimplbmaa", sum := "cbe39eec44fed54851262184affee9ad28cdb4dcefe24c56cb28360d6beaac99", func := "loop.example/openissues/laws.FnGrantedBy", spec := "fnGrantedBy", apart := false, narrowed := true }
def FnGrantedByUptoSaid : Prop := fnGrantedByUptoRow.holds Try.pinned (OpenSpec.upto fnGrantedBySpec)

/-- 'laws.FnStatementOf', WHERE WHAT IT READS IS OF BULK AT MOST 1048576: true; the input reads as it did. -/
def fnStatementOfUptoRow : OpenClaim := { program := "ytjhkeclimplbmaa", sum := "cbe39eec44fed54851262184affee9ad28cdb4dcefe24c56cb28360d6beaac99", func := "loop.example/openissues/laws.FnStatementOf", spec := "fnStatementOf", apart := false, narrowed := true }
def FnStatementOfUptoSaid : Prop := fnStatementOfUptoRow.holds Try.pinned (OpenSpec.upto fnStatementOfSpec)

/-- 'laws.FnExactWorldsOf', WHERE WHAT IT READS IS OF BULK AT MOST 1048576: true; the input reads as it did. -/
def fnExactWorldsOfUptoRow : OpenClaim := { program := "ytjhkeclimplbmaa", sum := "cbe39eec44fed54851262184affee9ad28cdb4dcefe24c56cb28360d6beaac99", func := "loop.example/openissues/laws.FnExactWorldsOf", spec := "fnExactWorldsOf", apart := false, narrowed := true }
def FnExactWorldsOfUptoSaid : Prop := fnExactWorldsOfUptoRow.holds Try.pinned (OpenSpec.upto fnExactWorldsOfSpec)

/-- 'laws.FnExactSetOk', WHERE WHAT IT READS IS OF BULK AT MOST 1048576: true; the input reads as it did. -/
def fnExactSetOkUptoRow : OpenClaim := { program := "ytjhkeclimplbmaa", sum := "cbe39eec44fed54851262184affee9ad28cdb4dcefe24c56cb28360d6beaac99", func := "loop.example/openissues/laws.FnExactSetOk", spec := "fnExactSetOk", apart := false, narrowed := true }
def FnExactSetOkUptoSaid : Prop := fnExactSetOkUptoRow.holds Try.pinned (OpenSpec.upto fnExactSetOkSpec)

/-- 'laws.FnExactIssueOk', WHERE WHAT IT READS IS OF BULK AT MOST 1048576: true; the input reads as it did. -/
def fnExactIssueOkUptoRow : OpenClaim := { program := "ytjhkeclimplbmaa", sum := "cbe39eec44fed54851262184affee9ad28cdb4dcefe24c56cb28360d6beaac99", func := "loop.example/openissues/laws.FnExactIssueOk", spec := "fnExactIssueOk", apart := false, narrowed := true }
def FnExactIssueOkUptoSaid : Prop := fnExactIssueOkUptoRow.holds Try.pinned (OpenSpec.upto fnExactIssueOkSpec)

/-- 'laws.FnExactIssueFrom', WHERE WHAT IT READS IS OF BULK AT MOST 1048576: true; the input reads as it did. -/
def fnExactIssueFromUptoRow : OpenClaim := { program := "ytjhkeclimplbmaa", sum := "cbe39eec44fed54851262184affee9ad28cdb4dcefe24c56cb28360d6beaac99", func := "loop.example/openissues/laws.FnExactIssueFrom", spec := "fnExactIssueFrom", recurses := true, apart := false, narrowed := true }
def FnExactIssueFromUptoSaid : Prop := fnExactIssueFromUptoRow.holds Try.pinned (OpenSpec.upto fnExactIssueFromSpec)

/-- 'laws.FnExactSettles', WHERE WHAT IT READS IS OF BULK AT MOST 1048576: true; the input reads as it did. -/
def fnExactSettlesUptoRow : OpenClaim := { program := "ytjhkeclimplbmaa", sum := "cbe39eec44fed54851262184affee9ad28cdb4dcefe24c56cb28360d6beaac99", func := "loop.example/openissues/laws.FnExactSettles", spec := "fnExactSettles", apart := false, narrowed := true }
def FnExactSettlesUptoSaid : Prop := fnExactSettlesUptoRow.holds Try.pinned (OpenSpec.upto fnExactSettlesSpec)

/-- 'laws.FnExactGrantedBy', WHERE WHAT IT READS IS OF BULK AT MOST 1048576: true; the input reads as it did. -/
def fnExactGrantedByUptoRow : OpenClaim := { program := "ytjhkeclimplbmaa", sum := "cbe39eec44fed54851262184affee9ad28cdb4dcefe24c56cb28360d6beaac99", func := "loop.example/openissues/laws.FnExactGrantedBy", spec := "fnExactGrantedBy", apart := false, narrowed := true }
def FnExactGrantedByUptoSaid : Prop := fnExactGrantedByUptoRow.holds Try.pinned (OpenSpec.upto fnExactGrantedBySpec)

/-- 'laws.FnExactStatementOf', WHERE WHAT IT READS IS OF BULK AT MOST 1048576: true; the input reads as it did. -/
def fnExactStatementOfUptoRow : OpenClaim := { program := "ytjhkeclimplbmaa", sum := "cbe39eec44fed54851262184affee9ad28cdb4dcefe24c56cb28360d6beaac99", func := "loop.example/openissues/laws.FnExactStatementOf", spec := "fnExactStatementOf", apart := false, narrowed := true }
def FnExactStatementOfUptoSaid : Prop := fnExactStatementOfUptoRow.holds Try.pinned (OpenSpec.upto fnExactStatementOfSpec)

end Rows
end Go.Proofs.Ytjhkeclimplbmaa
