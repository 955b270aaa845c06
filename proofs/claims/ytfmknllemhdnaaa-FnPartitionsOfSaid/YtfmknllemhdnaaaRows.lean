/-
  No cell of these rows narrows 'for every input' (looked for: loops, veiled, ifaces, maps, wideKeys, modest, calm, conditions, laid).
  DERIVED. THE GIVEN ROWS OF THIS SEAT. 4 by the template 'for every input the law returns true; each argument reads behind the call as it read before'; 0 by the template 'total and deterministic' (their statements: YtfmknllemhdnaaaTotals.lean).
  GIVEN WITH THE SEED: the statements are not yours to turn. If you find one false, say at which input.
  Laid BY PROGRAM, IN A SANDBOX (cutbox-rows.mjs): the forced cells as the released guide's own fill.sh prints them over the translation aeaa66ad8ecaba4d… (all of the seat's roots in one cut). By AI agents, Wed Nov 11 2026. No macro, syntax, notation, axiom, sorry.
-/
import Derived.Test.YtfmknllemhdnaaaChecked
import GoSem.Claim
import GoSem.ClaimJoined
import GoSem.ClaimMapViews
import Derived.JoinedTies
import Derived.KernelRfl
namespace Go.Proofs.Ytfmknllemhdnaaa
/- THE CELL 'sum', in the pinned program and in every row, IS THE sha256 OF THE DUMP (.gsa) THAT YtfmknllemhdnaaaProg.lean LOADS. Nothing in Lean hashes anything: it is a label: what it is worth is what the hold of that sum in a sandbox is worth. -/
noncomputable def Try.pinned : Pinned := { name := "ytfmknllemhdnaaa", sum := "aeaa66ad8ecaba4d8cc07aa4256e2a7543af6c8428ca9032d6aa78ae7208773b", checked := Try.checked }
namespace Rows
def none {H : Type} : Left H := { results := [], args := [] }

/-- 'laws.FnIssuesOf': WHATEVER THE INPUT: true; the input reads as it did. -/
def fnIssuesOfSpec : ChangeSpec := { name := "fnIssuesOf", fn := fun _ => fun
  | [d] => { results := [.lit (.bool true)], args := [d] }
  | _ => none }
def fnIssuesOfRow : OpenClaim := { program := "ytfmknllemhdnaaa", sum := "aeaa66ad8ecaba4d8cc07aa4256e2a7543af6c8428ca9032d6aa78ae7208773b", func := "loop.example/openissues/laws.FnIssuesOf", spec := "fnIssuesOf", unfollowed := true, recurses := true, apart := false }
def FnIssuesOfSaid : Prop := fnIssuesOfRow.holds Try.pinned (OpenSpec.ofChange fnIssuesOfSpec)

/-- ITS FALSE NEIGHBOUR: 'it returns false'. Refute it at one input. -/
def fnIssuesOfWrong : ChangeSpec := { name := "fnIssuesOf", fn := fun _ => fun
  | [d] => { results := [.lit (.bool false)], args := [d] }
  | _ => none }
def FnIssuesOfWrongFalsely : Prop := fnIssuesOfRow.holds Try.pinned (OpenSpec.ofChange fnIssuesOfWrong)

/-- 'laws.FnExactIssuesOf': WHATEVER THE INPUT: true; the input reads as it did. -/
def fnExactIssuesOfSpec : ChangeSpec := { name := "fnExactIssuesOf", fn := fun _ => fun
  | [d] => { results := [.lit (.bool true)], args := [d] }
  | _ => none }
def fnExactIssuesOfRow : OpenClaim := { program := "ytfmknllemhdnaaa", sum := "aeaa66ad8ecaba4d8cc07aa4256e2a7543af6c8428ca9032d6aa78ae7208773b", func := "loop.example/openissues/laws.FnExactIssuesOf", spec := "fnExactIssuesOf", unfollowed := true, recurses := true, apart := false }
def FnExactIssuesOfSaid : Prop := fnExactIssuesOfRow.holds Try.pinned (OpenSpec.ofChange fnExactIssuesOfSpec)

/-- ITS FALSE NEIGHBOUR: 'it returns false'. Refute it at one input. -/
def fnExactIssuesOfWrong : ChangeSpec := { name := "fnExactIssuesOf", fn := fun _ => fun
  | [d] => { results := [.lit (.bool false)], args := [d] }
  | _ => none }
def FnExactIssuesOfWrongFalsely : Prop := fnExactIssuesOfRow.holds Try.pinned (OpenSpec.ofChange fnExactIssuesOfWrong)

/-- 'laws.FnPartitionsOf': WHATEVER THE INPUT: true; the input reads as it did. -/
def fnPartitionsOfSpec : ChangeSpec := { name := "fnPartitionsOf", fn := fun _ => fun
  | [d] => { results := [.lit (.bool true)], args := [d] }
  | _ => none }
def fnPartitionsOfRow : OpenClaim := { program := "ytfmknllemhdnaaa", sum := "aeaa66ad8ecaba4d8cc07aa4256e2a7543af6c8428ca9032d6aa78ae7208773b", func := "loop.example/openissues/laws.FnPartitionsOf", spec := "fnPartitionsOf", unfollowed := true, recurses := true, apart := false }
def FnPartitionsOfSaid : Prop := fnPartitionsOfRow.holds Try.pinned (OpenSpec.ofChange fnPartitionsOfSpec)

/-- ITS FALSE NEIGHBOUR: 'it returns false'. Refute it at one input. -/
def fnPartitionsOfWrong : ChangeSpec := { name := "fnPartitionsOf", fn := fun _ => fun
  | [d] => { results := [.lit (.bool false)], args := [d] }
  | _ => none }
def FnPartitionsOfWrongFalsely : Prop := fnPartitionsOfRow.holds Try.pinned (OpenSpec.ofChange fnPartitionsOfWrong)

/-- 'laws.FnExactPartitionsOf': WHATEVER THE INPUT: true; the input reads as it did. -/
def fnExactPartitionsOfSpec : ChangeSpec := { name := "fnExactPartitionsOf", fn := fun _ => fun
  | [d] => { results := [.lit (.bool true)], args := [d] }
  | _ => none }
def fnExactPartitionsOfRow : OpenClaim := { program := "ytfmknllemhdnaaa", sum := "aeaa66ad8ecaba4d8cc07aa4256e2a7543af6c8428ca9032d6aa78ae7208773b", func := "loop.example/openissues/laws.FnExactPartitionsOf", spec := "fnExactPartitionsOf", unfollowed := true, recurses := true, apart := false }
def FnExactPartitionsOfSaid : Prop := fnExactPartitionsOfRow.holds Try.pinned (OpenSpec.ofChange fnExactPartitionsOfSpec)

/-- ITS FALSE NEIGHBOUR: 'it returns false'. Refute it at one input. -/
def fnExactPartitionsOfWrong : ChangeSpec := { name := "fnExactPartitionsOf", fn := fun _ => fun
  | [d] => { results := [.lit (.bool false)], args := [d] }
  | _ => none }
def FnExactPartitionsOfWrongFalsely : Prop := fnExactPartitionsOfRow.holds Try.pinned (OpenSpec.ofChange fnExactPartitionsOfWrong)

/- THE SECOND FORM. 'bulk': how many values and letters a reading holds, each counted each time it is reached (what is shared counts as often as it is met; a slice's spare places count too). A statement '..UptoSaid' is the law's where the arguments, and the package variables that the reading takes, are together of bulk at most 1048576: NARROWER than '..Said'. Prove '..Said' where nothing that the law and all that it calls make is longer than what came in: it says more and counts as full. Else prove '..UptoSaid'. A law counts once. -/
mutual
def uptoBulk {H : Type} : DataW H → Nat
  | .lit (.string bytes) => bytes.length + 1
  | .lit _ => 1
  | .nil => 1
  | .ptr d => uptoBulk d + 1
  | .slice elems spare => uptoBulkAll elems + uptoBulkAll spare + 1
  | .agg parts => uptoBulkAll parts + 1
  | .iface _ d => uptoBulk d + 1
  | .map entries => uptoBulkEntries entries + 1
  | .held _ => 1
def uptoBulkAll {H : Type} : List (DataW H) → Nat
  | [] => 0
  | d :: r => uptoBulk d + uptoBulkAll r
def uptoBulkEntries {H : Type} : List (Lit × DataW H) → Nat
  | [] => 0
  | x :: r => uptoBulkEntry x + uptoBulkEntries r
def uptoBulkEntry {H : Type} : Lit × DataW H → Nat
  | (.string bytes, d) => bytes.length + uptoBulk d + 1
  | (_, d) => uptoBulk d + 1
 end
def uptoSmall : (H : Type) → List (DataW H) → Bool := fun _ ds => decide (uptoBulkAll ds ≤ 1048576)
def OpenSpec.upto (s : _root_.Go.ChangeSpec) : _root_.Go.OpenSpec := { _root_.Go.OpenSpec.ofChange s with cond := some uptoSmall }

/-- 'laws.FnIssuesOf', WHERE WHAT IT READS IS OF BULK AT MOST 1048576: true; the input reads as it did. -/
def fnIssuesOfUptoRow : OpenClaim := { program := "ytfmknllemhdnaaa", sum := "aeaa66ad8ecaba4d8cc07aa4256e2a7543af6c8428ca9032d6aa78ae7208773b", func := "loop.example/openissues/laws.FnIssuesOf", spec := "fnIssuesOf", unfollowed := true, recurses := true, apart := false, narrowed := true }
def FnIssuesOfUptoSaid : Prop := fnIssuesOfUptoRow.holds Try.pinned (OpenSpec.upto fnIssuesOfSpec)

/-- 'laws.FnExactIssuesOf', WHERE WHAT IT READS IS OF BULK AT MOST 1048576: true; the input reads as it did. -/
def fnExactIssuesOfUptoRow : OpenClaim := { program := "ytfmknllemhdnaaa", sum := "aeaa66ad8ecaba4d8cc07aa4256e2a7543af6c8428ca9032d6aa78ae7208773b", func := "loop.example/openissues/laws.FnExactIssuesOf", spec := "fnExactIssuesOf", unfollowed := true, recurses := true, apart := false, narrowed := true }
def FnExactIssuesOfUptoSaid : Prop := fnExactIssuesOfUptoRow.holds Try.pinned (OpenSpec.upto fnExactIssuesOfSpec)

/-- 'laws.FnPartitionsOf', WHERE WHAT IT READS IS OF BULK AT MOST 1048576: true; the input reads as it did. -/
def fnPartitionsOfUptoRow : OpenClaim := { program := "ytfmknllemhdnaaa", sum := "aeaa66ad8ecaba4d8cc07aa4256e2a7543af6c8428ca9032d6aa78ae7208773b", func := "loop.example/openissues/laws.FnPartitionsOf", spec := "fnPartitionsOf", unfollowed := true, recurses := true, apart := false, narrowed := true }
def FnPartitionsOfUptoSaid : Prop := fnPartitionsOfUptoRow.holds Try.pinned (OpenSpec.upto fnPartitionsOfSpec)

/-- 'laws.FnExactPartitionsOf', WHERE WHAT IT READS IS OF BULK AT MOST 1048576: true; the input reads as it did. -/
def fnExactPartitionsOfUptoRow : OpenClaim := { program := "ytfmknllemhdnaaa", sum := "aeaa66ad8ecaba4d8cc07aa4256e2a7543af6c8428ca9032d6aa78ae7208773b", func := "loop.example/openissues/laws.FnExactPartitionsOf", spec := "fnExactPartitionsOf", unfollowed := true, recurses := true, apart := false, narrowed := true }
def FnExactPartitionsOfUptoSaid : Prop := fnExactPartitionsOfUptoRow.holds Try.pinned (OpenSpec.upto fnExactPartitionsOfSpec)

end Rows
end Go.Proofs.Ytfmknllemhdnaaa
