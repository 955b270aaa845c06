/-
  No cell of these rows narrows 'for every input' (looked for: loops, veiled, ifaces, maps, wideKeys, modest, calm, conditions, laid).
  DERIVED. THE GIVEN ROWS OF THIS SEAT. 8 by the template 'for every input the law returns true; each argument reads behind the call as it read before'; 0 by the template 'total and deterministic' (their statements: YtbiifcdlfmeahaaTotals.lean).
  GIVEN WITH THE SEED: the statements are not yours to turn. If you find one false, say at which input.
  Laid BY PROGRAM, IN A SANDBOX (cutbox-rows.mjs): the forced cells as the released guide's own fill.sh prints them over the translation a2ae1412d80bb291… (all of the seat's roots in one cut). By AI agents, Wed Nov 11 2026. No macro, syntax, notation, axiom, sorry.
-/
import Derived.Test.YtbiifcdlfmeahaaChecked
import GoSem.Claim
import GoSem.ClaimJoined
import GoSem.ClaimMapViews
import Derived.JoinedTies
import Derived.KernelRfl
namespace Go.Proofs.Ytbiifcdlfmeahaa
/- THE CELL 'sum', in the pinned program and in every row, IS THE sha256 OF THE DUMP (.gsa) THAT YtbiifcdlfmeahaaProg.lean LOADS. Nothing in Lean hashes anything: it is a label: what it is worth is what the hold of that sum in a sandbox is worth. -/
noncomputable def Try.pinned : Pinned := { name := "ytbiifcdlfmeahaa", sum := "a2ae1412d80bb291c16a3f88a95fe3e0caee7164a44202e1a7367dff75251655", checked := Try.checked }
namespace Rows
def none {H : Type} : Left H := { results := [], args := [] }

/-- 'laws.FnResolutionsOf': WHATEVER THE INPUT: true; the input reads as it did. -/
def fnResolutionsOfSpec : ChangeSpec := { name := "fnResolutionsOf", fn := fun _ => fun
  | [d] => { results := [.lit (.bool true)], args := [d] }
  | _ => none }
def fnResolutionsOfRow : OpenClaim := { program := "ytbiifcdlfmeahaa", sum := "a2ae1412d80bb291c16a3f88a95fe3e0caee7164a44202e1a7367dff75251655", func := "loop.example/openissues/laws.FnResolutionsOf", spec := "fnResolutionsOf", inPlace := ["internal/bytealg.IndexByteString"], unfollowed := true, recurses := true, apart := false }
def FnResolutionsOfSaid : Prop := fnResolutionsOfRow.holds Try.pinned (OpenSpec.ofChange fnResolutionsOfSpec)

/-- ITS FALSE NEIGHBOUR: 'it returns false'. Refute it at one input. -/
def fnResolutionsOfWrong : ChangeSpec := { name := "fnResolutionsOf", fn := fun _ => fun
  | [d] => { results := [.lit (.bool false)], args := [d] }
  | _ => none }
def FnResolutionsOfWrongFalsely : Prop := fnResolutionsOfRow.holds Try.pinned (OpenSpec.ofChange fnResolutionsOfWrong)

/-- 'laws.FnByResolutions': WHATEVER THE INPUT: true; the input reads as it did. -/
def fnByResolutionsSpec : ChangeSpec := { name := "fnByResolutions", fn := fun _ => fun
  | [d] => { results := [.lit (.bool true)], args := [d] }
  | _ => none }
def fnByResolutionsRow : OpenClaim := { program := "ytbiifcdlfmeahaa", sum := "a2ae1412d80bb291c16a3f88a95fe3e0caee7164a44202e1a7367dff75251655", func := "loop.example/openissues/laws.FnByResolutions", spec := "fnByResolutions", inPlace := ["internal/bytealg.IndexByteString"], unfollowed := true, recurses := true, apart := false }
def FnByResolutionsSaid : Prop := fnByResolutionsRow.holds Try.pinned (OpenSpec.ofChange fnByResolutionsSpec)

/-- ITS FALSE NEIGHBOUR: 'it returns false'. Refute it at one input. -/
def fnByResolutionsWrong : ChangeSpec := { name := "fnByResolutions", fn := fun _ => fun
  | [d] => { results := [.lit (.bool false)], args := [d] }
  | _ => none }
def FnByResolutionsWrongFalsely : Prop := fnByResolutionsRow.holds Try.pinned (OpenSpec.ofChange fnByResolutionsWrong)

/-- 'laws.FnAnswersOf': WHATEVER THE INPUT: true; the input reads as it did. -/
def fnAnswersOfSpec : ChangeSpec := { name := "fnAnswersOf", fn := fun _ => fun
  | [d] => { results := [.lit (.bool true)], args := [d] }
  | _ => none }
def fnAnswersOfRow : OpenClaim := { program := "ytbiifcdlfmeahaa", sum := "a2ae1412d80bb291c16a3f88a95fe3e0caee7164a44202e1a7367dff75251655", func := "loop.example/openissues/laws.FnAnswersOf", spec := "fnAnswersOf", inPlace := ["internal/bytealg.IndexByteString"], unfollowed := true, recurses := true, apart := false }
def FnAnswersOfSaid : Prop := fnAnswersOfRow.holds Try.pinned (OpenSpec.ofChange fnAnswersOfSpec)

/-- ITS FALSE NEIGHBOUR: 'it returns false'. Refute it at one input. -/
def fnAnswersOfWrong : ChangeSpec := { name := "fnAnswersOf", fn := fun _ => fun
  | [d] => { results := [.lit (.bool false)], args := [d] }
  | _ => none }
def FnAnswersOfWrongFalsely : Prop := fnAnswersOfRow.holds Try.pinned (OpenSpec.ofChange fnAnswersOfWrong)

/-- 'laws.FnAnswersIt': WHATEVER THE INPUT: true; the input reads as it did. -/
def fnAnswersItSpec : ChangeSpec := { name := "fnAnswersIt", fn := fun _ => fun
  | [d] => { results := [.lit (.bool true)], args := [d] }
  | _ => none }
def fnAnswersItRow : OpenClaim := { program := "ytbiifcdlfmeahaa", sum := "a2ae1412d80bb291c16a3f88a95fe3e0caee7164a44202e1a7367dff75251655", func := "loop.example/openissues/laws.FnAnswersIt", spec := "fnAnswersIt", inPlace := ["internal/bytealg.IndexByteString"], unfollowed := true, recurses := true, apart := false }
def FnAnswersItSaid : Prop := fnAnswersItRow.holds Try.pinned (OpenSpec.ofChange fnAnswersItSpec)

/-- ITS FALSE NEIGHBOUR: 'it returns false'. Refute it at one input. -/
def fnAnswersItWrong : ChangeSpec := { name := "fnAnswersIt", fn := fun _ => fun
  | [d] => { results := [.lit (.bool false)], args := [d] }
  | _ => none }
def FnAnswersItWrongFalsely : Prop := fnAnswersItRow.holds Try.pinned (OpenSpec.ofChange fnAnswersItWrong)

/-- 'laws.FnExactResolutionsOf': WHATEVER THE INPUT: true; the input reads as it did. -/
def fnExactResolutionsOfSpec : ChangeSpec := { name := "fnExactResolutionsOf", fn := fun _ => fun
  | [d1, d2] => { results := [.lit (.bool true)], args := [d1, d2] }
  | _ => none }
def fnExactResolutionsOfRow : OpenClaim := { program := "ytbiifcdlfmeahaa", sum := "a2ae1412d80bb291c16a3f88a95fe3e0caee7164a44202e1a7367dff75251655", func := "loop.example/openissues/laws.FnExactResolutionsOf", spec := "fnExactResolutionsOf", inPlace := ["internal/bytealg.IndexByteString"], unfollowed := true, recurses := true, apart := false }
def FnExactResolutionsOfSaid : Prop := fnExactResolutionsOfRow.holds Try.pinned (OpenSpec.ofChange fnExactResolutionsOfSpec)

/-- ITS FALSE NEIGHBOUR: 'it returns false'. Refute it at one input. -/
def fnExactResolutionsOfWrong : ChangeSpec := { name := "fnExactResolutionsOf", fn := fun _ => fun
  | [d1, d2] => { results := [.lit (.bool false)], args := [d1, d2] }
  | _ => none }
def FnExactResolutionsOfWrongFalsely : Prop := fnExactResolutionsOfRow.holds Try.pinned (OpenSpec.ofChange fnExactResolutionsOfWrong)

/-- 'laws.FnExactByResolutions': WHATEVER THE INPUT: true; the input reads as it did. -/
def fnExactByResolutionsSpec : ChangeSpec := { name := "fnExactByResolutions", fn := fun _ => fun
  | [d1, d2, d3] => { results := [.lit (.bool true)], args := [d1, d2, d3] }
  | _ => none }
def fnExactByResolutionsRow : OpenClaim := { program := "ytbiifcdlfmeahaa", sum := "a2ae1412d80bb291c16a3f88a95fe3e0caee7164a44202e1a7367dff75251655", func := "loop.example/openissues/laws.FnExactByResolutions", spec := "fnExactByResolutions", inPlace := ["internal/bytealg.IndexByteString"], unfollowed := true, recurses := true, apart := false }
def FnExactByResolutionsSaid : Prop := fnExactByResolutionsRow.holds Try.pinned (OpenSpec.ofChange fnExactByResolutionsSpec)

/-- ITS FALSE NEIGHBOUR: 'it returns false'. Refute it at one input. -/
def fnExactByResolutionsWrong : ChangeSpec := { name := "fnExactByResolutions", fn := fun _ => fun
  | [d1, d2, d3] => { results := [.lit (.bool false)], args := [d1, d2, d3] }
  | _ => none }
def FnExactByResolutionsWrongFalsely : Prop := fnExactByResolutionsRow.holds Try.pinned (OpenSpec.ofChange fnExactByResolutionsWrong)

/-- 'laws.FnExactAnswersOf': WHATEVER THE INPUT: true; the input reads as it did. -/
def fnExactAnswersOfSpec : ChangeSpec := { name := "fnExactAnswersOf", fn := fun _ => fun
  | [d1, d2] => { results := [.lit (.bool true)], args := [d1, d2] }
  | _ => none }
def fnExactAnswersOfRow : OpenClaim := { program := "ytbiifcdlfmeahaa", sum := "a2ae1412d80bb291c16a3f88a95fe3e0caee7164a44202e1a7367dff75251655", func := "loop.example/openissues/laws.FnExactAnswersOf", spec := "fnExactAnswersOf", inPlace := ["internal/bytealg.IndexByteString"], unfollowed := true, recurses := true, apart := false }
def FnExactAnswersOfSaid : Prop := fnExactAnswersOfRow.holds Try.pinned (OpenSpec.ofChange fnExactAnswersOfSpec)

/-- ITS FALSE NEIGHBOUR: 'it returns false'. Refute it at one input. -/
def fnExactAnswersOfWrong : ChangeSpec := { name := "fnExactAnswersOf", fn := fun _ => fun
  | [d1, d2] => { results := [.lit (.bool false)], args := [d1, d2] }
  | _ => none }
def FnExactAnswersOfWrongFalsely : Prop := fnExactAnswersOfRow.holds Try.pinned (OpenSpec.ofChange fnExactAnswersOfWrong)

/-- 'laws.FnExactAnswersIt': WHATEVER THE INPUT: true; the input reads as it did. -/
def fnExactAnswersItSpec : ChangeSpec := { name := "fnExactAnswersIt", fn := fun _ => fun
  | [d1, d2, d3] => { results := [.lit (.bool true)], args := [d1, d2, d3] }
  | _ => none }
def fnExactAnswersItRow : OpenClaim := { program := "ytbiifcdlfmeahaa", sum := "a2ae1412d80bb291c16a3f88a95fe3e0caee7164a44202e1a7367dff75251655", func := "loop.example/openissues/laws.FnExactAnswersIt", spec := "fnExactAnswersIt", inPlace := ["internal/bytealg.IndexByteString"], unfollowed := true, recurses := true, apart := false }
def FnExactAnswersItSaid : Prop := fnExactAnswersItRow.holds Try.pinned (OpenSpec.ofChange fnExactAnswersItSpec)

/-- ITS FALSE NEIGHBOUR: 'it returns false'. Refute it at one input. -/
def fnExactAnswersItWrong : ChangeSpec := { name := "fnExactAnswersIt", fn := fun _ => fun
  | [d1, d2, d3] => { results := [.lit (.bool false)], args := [d1, d2, d3] }
  | _ => none }
def FnExactAnswersItWrongFalsely : Prop := fnExactAnswersItRow.holds Try.pinned (OpenSpec.ofChange fnExactAnswersItWrong)

/- THE SECOND FORM. 'bulk': how many values and letters a reading holds, each counted each time it is reached (what is shared counts as often as it is met; a slice's spare places count too). A statement '..UptoSaid' is the law's where the arguments, and the package variables that the reading takes, are together of bulk at most 1048576: NARROWER than '..Said'. Prove '..Said' where nothing that the law and all that it calls make is longer than what came in: it says more and counts as full. Else prove '..UptoSaid'. A law counts once. -/
mutual
def uptoBulk {H : Type} : DataW H → Nat
  | .lit (.string bytes) => bytes.length + 1
  | .lit _ => 1
  | .nil => 1
  | .ptr d => uptoBulk d + 1
  | .slice elems spare => uptoBulkAll elems + uptoBulkAll spare + 1
  | .agg parts => uptoBulkAll parts + 1
  | .iface _ d => uptoBulk d + 1
  | .map entries => uptoBulkEntries entries + 1
  | .held _ => 1
def uptoBulkAll {H : Type} : List (DataW H) → Nat
  | [] => 0
  | d :: r => uptoBulk d + uptoBulkAll r
def uptoBulkEntries {H : Type} : List (Lit × DataW H) → Nat
  | [] => 0
  | x :: r => uptoBulkEntry x + uptoBulkEntries r
def uptoBulkEntry {H : Type} : Lit × DataW H → Nat
  | (.string bytes, d) => bytes.length + uptoBulk d + 1
  | (_, d) => uptoBulk d + 1
 end
def uptoSmall : (H : Type) → List (DataW H) → Bool := fun _ ds => decide (uptoBulkAll ds ≤ 1048576)
def OpenSpec.upto (s : _root_.Go.ChangeSpec) : _root_.Go.OpenSpec := { _root_.Go.OpenSpec.ofChange s with cond := some uptoSmall }

/-- 'laws.FnResolutionsOf', WHERE WHAT IT READS IS OF BULK AT MOST 1048576: true; the input reads as it did. -/
def fnResolutionsOfUptoRow : OpenClaim := { program := "ytbiifcdlfmeahaa", sum := "a2ae1412d80bb291c16a3f88a95fe3e0caee7164a44202e1a7367dff75251655", func := "loop.example/openissues/laws.FnResolutionsOf", spec := "fnResolutionsOf", inPlace := ["internal/bytealg.IndexByteString"], unfollowed := true, recurses := true, apart := false, narrowed := true }
def FnResolutionsOfUptoSaid : Prop := fnResolutionsOfUptoRow.holds Try.pinned (OpenSpec.upto fnResolutionsOfSpec)

/-- 'laws.FnByResolutions', WHERE WHAT IT READS IS OF BULK AT MOST 1048576: true; the input reads as it did. -/
def fnByResolutionsUptoRow : OpenClaim := { program := "ytbiifcdlfmeahaa", sum := "a2ae1412d80bb291c16a3f88a95fe3e0caee7164a44202e1a7367dff75251655", func := "loop.example/openissues/laws.FnByResolutions", spec := "fnByResolutions", inPlace := ["internal/bytealg.IndexByteString"], unfollowed := true, recurses := true, apart := false, narrowed := true }
def FnByResolutionsUptoSaid : Prop := fnByResolutionsUptoRow.holds Try.pinned (OpenSpec.upto fnByResolutionsSpec)

/-- 'laws.FnAnswersOf', WHERE WHAT IT READS IS OF BULK AT MOST 1048576: true; the input reads as it did. -/
def fnAnswersOfUptoRow : OpenClaim := { program := "ytbiifcdlfmeahaa", sum := "a2ae1412d80bb291c16a3f88a95fe3e0caee7164a44202e1a7367dff75251655", func := "loop.example/openissues/laws.FnAnswersOf", spec := "fnAnswersOf", inPlace := ["internal/bytealg.IndexByteString"], unfollowed := true, recurses := true, apart := false, narrowed := true }
def FnAnswersOfUptoSaid : Prop := fnAnswersOfUptoRow.holds Try.pinned (OpenSpec.upto fnAnswersOfSpec)

/-- 'laws.FnAnswersIt', WHERE WHAT IT READS IS OF BULK AT MOST 1048576: true; the input reads as it did. -/
def fnAnswersItUptoRow : OpenClaim := { program := "ytbiifcdlfmeahaa", sum := "a2ae1412d80bb291c16a3f88a95fe3e0caee7164a44202e1a7367dff75251655", func := "loop.example/openissues/laws.FnAnswersIt", spec := "fnAnswersIt", inPlace := ["internal/bytealg.IndexByteString"], unfollowed := true, recurses := true, apart := false, narrowed := true }
def FnAnswersItUptoSaid : Prop := fnAnswersItUptoRow.holds Try.pinned (OpenSpec.upto fnAnswersItSpec)

/-- 'laws.FnExactResolutionsOf', WHERE WHAT IT READS IS OF BULK AT MOST 1048576: true; the input reads as it did. -/
def fnExactResolutionsOfUptoRow : OpenClaim := { program := "ytbiifcdlfmeahaa", sum := "a2ae1412d80bb291c16a3f88a95fe3e0caee7164a44202e1a7367dff75251655", func := "loop.example/openissues/laws.FnExactResolutionsOf", spec := "fnExactResolutionsOf", inPlace := ["internal/bytealg.IndexByteString"], unfollowed := true, recurses := true, apart := false, narrowed := true }
def FnExactResolutionsOfUptoSaid : Prop := fnExactResolutionsOfUptoRow.holds Try.pinned (OpenSpec.upto fnExactResolutionsOfSpec)

/-- 'laws.FnExactByResolutions', WHERE WHAT IT READS IS OF BULK AT MOST 1048576: true; the input reads as it did. -/
def fnExactByResolutionsUptoRow : OpenClaim := { program := "ytbiifcdlfmeahaa", sum := "a2ae1412d80bb291c16a3f88a95fe3e0caee7164a44202e1a7367dff75251655", func := "loop.example/openissues/laws.FnExactByResolutions", spec := "fnExactByResolutions", inPlace := ["internal/bytealg.IndexByteString"], unfollowed := true, recurses := true, apart := false, narrowed := true }
def FnExactByResolutionsUptoSaid : Prop := fnExactByResolutionsUptoRow.holds Try.pinned (OpenSpec.upto fnExactByResolutionsSpec)

/-- 'laws.FnExactAnswersOf', WHERE WHAT IT READS IS OF BULK AT MOST 1048576: true; the input reads as it did. -/
def fnExactAnswersOfUptoRow : OpenClaim := { program := "ytbiifcdlfmeahaa", sum := "a2ae1412d80bb291c16a3f88a95fe3e0caee7164a44202e1a7367dff75251655", func := "loop.example/openissues/laws.FnExactAnswersOf", spec := "fnExactAnswersOf", inPlace := ["internal/bytealg.IndexByteString"], unfollowed := true, recurses := true, apart := false, narrowed := true }
def FnExactAnswersOfUptoSaid : Prop := fnExactAnswersOfUptoRow.holds Try.pinned (OpenSpec.upto fnExactAnswersOfSpec)

/-- 'laws.FnExactAnswersIt', WHERE WHAT IT READS IS OF BULK AT MOST 1048576: true; the input reads as it did. -/
def fnExactAnswersItUptoRow : OpenClaim := { program := "ytbiifcdlfmeahaa", sum := "a2ae1412d80bb291c16a3f88a95fe3e0caee7164a44202e1a7367dff75251655", func := "loop.example/openissues/laws.FnExactAnswersIt", spec := "fnExactAnswersIt", inPlace := ["internal/bytealg.IndexByteString"], unfollowed := true, recurses := true, apart := false, narrowed := true }
def FnExactAnswersItUptoSaid : Prop := fnExactAnswersItUptoRow.holds Try.pinned (OpenSpec.upto fnExactAnswersItSpec)

end Rows
end Go.Proofs.Ytbiifcdlfmeahaa
