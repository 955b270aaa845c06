/-
  No cell of these rows narrows 'for every input' (looked for: loops, veiled, ifaces, maps, wideKeys, modest, calm, conditions, laid).
  DERIVED. THE GIVEN ROWS OF THIS SEAT. 10 by the template 'for every input the law returns true; each argument reads behind the call as it read before'; 0 by the template 'total and deterministic' (their statements: YtkjjpleedobkdaaTotals.lean).
  GIVEN WITH THE SEED: the statements are not yours to turn. If you find one false, say at which input.
  Laid BY PROGRAM, IN A SANDBOX (cutbox-rows.mjs): the forced cells as the released guide's own fill.sh prints them over the translation f087d475b10bba60… (all of the seat's roots in one cut). By AI agents, Wed Nov 11 2026. No macro, syntax, notation, axiom, sorry.
-/
import Derived.Test.YtkjjpleedobkdaaChecked
import GoSem.Claim
import GoSem.ClaimJoined
import GoSem.ClaimMapViews
import Derived.JoinedTies
import Derived.KernelRfl
namespace Go.Proofs.Ytkjjpleedobkdaa
/- THE CELL 'sum', in the pinned program and in every row, IS THE sha256 OF THE DUMP (.gsa) THAT YtkjjpleedobkdaaProg.lean LOADS. Nothing in Lean hashes anything: it is a label: what it is worth is what the hold of that sum in a sandbox is worth. -/
noncomputable def Try.pinned : Pinned := { name := "ytkjjpleedobkdaa", sum := "f087d475b10bba6023fd7203e17a63fdea031556bca5dd2e7a5f4516191047dc", checked := Try.checked }
namespace Rows
def none {H : Type} : Left H := { results := [], args := [] }

/-- 'laws.FnIsPartition': WHATEVER THE INPUT: true; the input reads as it did. -/
def fnIsPartitionSpec : ChangeSpec := { name := "fnIsPartition", fn := fun _ => fun
  | [d] => { results := [.lit (.bool true)], args := [d] }
  | _ => none }
def fnIsPartitionRow : OpenClaim := { program := "ytkjjpleedobkdaa", sum := "f087d475b10bba6023fd7203e17a63fdea031556bca5dd2e7a5f4516191047dc", func := "loop.example/openissues/laws.FnIsPartition", spec := "fnIsPartition", unfollowed := true, recurses := true, apart := false }
def FnIsPartitionSaid : Prop := fnIsPartitionRow.holds Try.pinned (OpenSpec.ofChange fnIsPartitionSpec)

/-- ITS FALSE NEIGHBOUR: 'it returns false'. Refute it at one input. -/
def fnIsPartitionWrong : ChangeSpec := { name := "fnIsPartition", fn := fun _ => fun
  | [d] => { results := [.lit (.bool false)], args := [d] }
  | _ => none }
def FnIsPartitionWrongFalsely : Prop := fnIsPartitionRow.holds Try.pinned (OpenSpec.ofChange fnIsPartitionWrong)

/-- 'laws.FnAsksOf': WHATEVER THE INPUT: true; the input reads as it did. -/
def fnAsksOfSpec : ChangeSpec := { name := "fnAsksOf", fn := fun _ => fun
  | [d] => { results := [.lit (.bool true)], args := [d] }
  | _ => none }
def fnAsksOfRow : OpenClaim := { program := "ytkjjpleedobkdaa", sum := "f087d475b10bba6023fd7203e17a63fdea031556bca5dd2e7a5f4516191047dc", func := "loop.example/openissues/laws.FnAsksOf", spec := "fnAsksOf", unfollowed := true, recurses := true, apart := false }
def FnAsksOfSaid : Prop := fnAsksOfRow.holds Try.pinned (OpenSpec.ofChange fnAsksOfSpec)

/-- ITS FALSE NEIGHBOUR: 'it returns false'. Refute it at one input. -/
def fnAsksOfWrong : ChangeSpec := { name := "fnAsksOf", fn := fun _ => fun
  | [d] => { results := [.lit (.bool false)], args := [d] }
  | _ => none }
def FnAsksOfWrongFalsely : Prop := fnAsksOfRow.holds Try.pinned (OpenSpec.ofChange fnAsksOfWrong)

/-- 'laws.FnAnswerIn': WHATEVER THE INPUT: true; the input reads as it did. -/
def fnAnswerInSpec : ChangeSpec := { name := "fnAnswerIn", fn := fun _ => fun
  | [d] => { results := [.lit (.bool true)], args := [d] }
  | _ => none }
def fnAnswerInRow : OpenClaim := { program := "ytkjjpleedobkdaa", sum := "f087d475b10bba6023fd7203e17a63fdea031556bca5dd2e7a5f4516191047dc", func := "loop.example/openissues/laws.FnAnswerIn", spec := "fnAnswerIn", unfollowed := true, recurses := true, apart := false }
def FnAnswerInSaid : Prop := fnAnswerInRow.holds Try.pinned (OpenSpec.ofChange fnAnswerInSpec)

/-- ITS FALSE NEIGHBOUR: 'it returns false'. Refute it at one input. -/
def fnAnswerInWrong : ChangeSpec := { name := "fnAnswerIn", fn := fun _ => fun
  | [d] => { results := [.lit (.bool false)], args := [d] }
  | _ => none }
def FnAnswerInWrongFalsely : Prop := fnAnswerInRow.holds Try.pinned (OpenSpec.ofChange fnAnswerInWrong)

/-- 'laws.FnCoarserOf': WHATEVER THE INPUT: true; the input reads as it did. -/
def fnCoarserOfSpec : ChangeSpec := { name := "fnCoarserOf", fn := fun _ => fun
  | [d] => { results := [.lit (.bool true)], args := [d] }
  | _ => none }
def fnCoarserOfRow : OpenClaim := { program := "ytkjjpleedobkdaa", sum := "f087d475b10bba6023fd7203e17a63fdea031556bca5dd2e7a5f4516191047dc", func := "loop.example/openissues/laws.FnCoarserOf", spec := "fnCoarserOf", unfollowed := true, recurses := true, apart := false }
def FnCoarserOfSaid : Prop := fnCoarserOfRow.holds Try.pinned (OpenSpec.ofChange fnCoarserOfSpec)

/-- ITS FALSE NEIGHBOUR: 'it returns false'. Refute it at one input. -/
def fnCoarserOfWrong : ChangeSpec := { name := "fnCoarserOf", fn := fun _ => fun
  | [d] => { results := [.lit (.bool false)], args := [d] }
  | _ => none }
def FnCoarserOfWrongFalsely : Prop := fnCoarserOfRow.holds Try.pinned (OpenSpec.ofChange fnCoarserOfWrong)

/-- 'laws.FnPartitionsOf': WHATEVER THE INPUT: true; the input reads as it did. -/
def fnPartitionsOfSpec : ChangeSpec := { name := "fnPartitionsOf", fn := fun _ => fun
  | [d] => { results := [.lit (.bool true)], args := [d] }
  | _ => none }
def fnPartitionsOfRow : OpenClaim := { program := "ytkjjpleedobkdaa", sum := "f087d475b10bba6023fd7203e17a63fdea031556bca5dd2e7a5f4516191047dc", func := "loop.example/openissues/laws.FnPartitionsOf", spec := "fnPartitionsOf", unfollowed := true, recurses := true, apart := false }
def FnPartitionsOfSaid : Prop := fnPartitionsOfRow.holds Try.pinned (OpenSpec.ofChange fnPartitionsOfSpec)

/-- ITS FALSE NEIGHBOUR: 'it returns false'. Refute it at one input. -/
def fnPartitionsOfWrong : ChangeSpec := { name := "fnPartitionsOf", fn := fun _ => fun
  | [d] => { results := [.lit (.bool false)], args := [d] }
  | _ => none }
def FnPartitionsOfWrongFalsely : Prop := fnPartitionsOfRow.holds Try.pinned (OpenSpec.ofChange fnPartitionsOfWrong)

/-- 'laws.FnExactIsPartition': WHATEVER THE INPUT: true; the input reads as it did. -/
def fnExactIsPartitionSpec : ChangeSpec := { name := "fnExactIsPartition", fn := fun _ => fun
  | [d1, d2] => { results := [.lit (.bool true)], args := [d1, d2] }
  | _ => none }
def fnExactIsPartitionRow : OpenClaim := { program := "ytkjjpleedobkdaa", sum := "f087d475b10bba6023fd7203e17a63fdea031556bca5dd2e7a5f4516191047dc", func := "loop.example/openissues/laws.FnExactIsPartition", spec := "fnExactIsPartition", apart := false }
def FnExactIsPartitionSaid : Prop := fnExactIsPartitionRow.holds Try.pinned (OpenSpec.ofChange fnExactIsPartitionSpec)

/-- ITS FALSE NEIGHBOUR: 'it returns false'. Refute it at one input. -/
def fnExactIsPartitionWrong : ChangeSpec := { name := "fnExactIsPartition", fn := fun _ => fun
  | [d1, d2] => { results := [.lit (.bool false)], args := [d1, d2] }
  | _ => none }
def FnExactIsPartitionWrongFalsely : Prop := fnExactIsPartitionRow.holds Try.pinned (OpenSpec.ofChange fnExactIsPartitionWrong)

/-- 'laws.FnExactAsksOf': WHATEVER THE INPUT: true; the input reads as it did. -/
def fnExactAsksOfSpec : ChangeSpec := { name := "fnExactAsksOf", fn := fun _ => fun
  | [d1, d2] => { results := [.lit (.bool true)], args := [d1, d2] }
  | _ => none }
def fnExactAsksOfRow : OpenClaim := { program := "ytkjjpleedobkdaa", sum := "f087d475b10bba6023fd7203e17a63fdea031556bca5dd2e7a5f4516191047dc", func := "loop.example/openissues/laws.FnExactAsksOf", spec := "fnExactAsksOf", unfollowed := true, recurses := true, apart := false }
def FnExactAsksOfSaid : Prop := fnExactAsksOfRow.holds Try.pinned (OpenSpec.ofChange fnExactAsksOfSpec)

/-- ITS FALSE NEIGHBOUR: 'it returns false'. Refute it at one input. -/
def fnExactAsksOfWrong : ChangeSpec := { name := "fnExactAsksOf", fn := fun _ => fun
  | [d1, d2] => { results := [.lit (.bool false)], args := [d1, d2] }
  | _ => none }
def FnExactAsksOfWrongFalsely : Prop := fnExactAsksOfRow.holds Try.pinned (OpenSpec.ofChange fnExactAsksOfWrong)

/-- 'laws.FnExactAnswerIn': WHATEVER THE INPUT: true; the input reads as it did. -/
def fnExactAnswerInSpec : ChangeSpec := { name := "fnExactAnswerIn", fn := fun _ => fun
  | [d1, d2, d3] => { results := [.lit (.bool true)], args := [d1, d2, d3] }
  | _ => none }
def fnExactAnswerInRow : OpenClaim := { program := "ytkjjpleedobkdaa", sum := "f087d475b10bba6023fd7203e17a63fdea031556bca5dd2e7a5f4516191047dc", func := "loop.example/openissues/laws.FnExactAnswerIn", spec := "fnExactAnswerIn", unfollowed := true, recurses := true, apart := false }
def FnExactAnswerInSaid : Prop := fnExactAnswerInRow.holds Try.pinned (OpenSpec.ofChange fnExactAnswerInSpec)

/-- ITS FALSE NEIGHBOUR: 'it returns false'. Refute it at one input. -/
def fnExactAnswerInWrong : ChangeSpec := { name := "fnExactAnswerIn", fn := fun _ => fun
  | [d1, d2, d3] => { results := [.lit (.bool false)], args := [d1, d2, d3] }
  | _ => none }
def FnExactAnswerInWrongFalsely : Prop := fnExactAnswerInRow.holds Try.pinned (OpenSpec.ofChange fnExactAnswerInWrong)

/-- 'laws.FnExactCoarserOf': WHATEVER THE INPUT: true; the input reads as it did. -/
def fnExactCoarserOfSpec : ChangeSpec := { name := "fnExactCoarserOf", fn := fun _ => fun
  | [d1, d2, d3] => { results := [.lit (.bool true)], args := [d1, d2, d3] }
  | _ => none }
def fnExactCoarserOfRow : OpenClaim := { program := "ytkjjpleedobkdaa", sum := "f087d475b10bba6023fd7203e17a63fdea031556bca5dd2e7a5f4516191047dc", func := "loop.example/openissues/laws.FnExactCoarserOf", spec := "fnExactCoarserOf", unfollowed := true, recurses := true, apart := false }
def FnExactCoarserOfSaid : Prop := fnExactCoarserOfRow.holds Try.pinned (OpenSpec.ofChange fnExactCoarserOfSpec)

/-- ITS FALSE NEIGHBOUR: 'it returns false'. Refute it at one input. -/
def fnExactCoarserOfWrong : ChangeSpec := { name := "fnExactCoarserOf", fn := fun _ => fun
  | [d1, d2, d3] => { results := [.lit (.bool false)], args := [d1, d2, d3] }
  | _ => none }
def FnExactCoarserOfWrongFalsely : Prop := fnExactCoarserOfRow.holds Try.pinned (OpenSpec.ofChange fnExactCoarserOfWrong)

/-- 'laws.FnExactPartitionsOf': WHATEVER THE INPUT: true; the input reads as it did. -/
def fnExactPartitionsOfSpec : ChangeSpec := { name := "fnExactPartitionsOf", fn := fun _ => fun
  | [d] => { results := [.lit (.bool true)], args := [d] }
  | _ => none }
def fnExactPartitionsOfRow : OpenClaim := { program := "ytkjjpleedobkdaa", sum := "f087d475b10bba6023fd7203e17a63fdea031556bca5dd2e7a5f4516191047dc", func := "loop.example/openissues/laws.FnExactPartitionsOf", spec := "fnExactPartitionsOf", unfollowed := true, recurses := true, apart := false }
def FnExactPartitionsOfSaid : Prop := fnExactPartitionsOfRow.holds Try.pinned (OpenSpec.ofChange fnExactPartitionsOfSpec)

/-- ITS FALSE NEIGHBOUR: 'it returns false'. Refute it at one input. -/
def fnExactPartitionsOfWrong : ChangeSpec := { name := "fnExactPartitionsOf", fn := fun _ => fun
  | [d] => { results := [.lit (.bool false)], args := [d] }
  | _ => none }
def FnExactPartitionsOfWrongFalsely : Prop := fnExactPartitionsOfRow.holds Try.pinned (OpenSpec.ofChange fnExactPartitionsOfWrong)

/- THE SECOND FORM. 'bulk': how many values and letters a reading holds, each counted each time it is reached (what is shared counts as often as it is met; a slice's spare places count too). A statement '..UptoSaid' is the law's where the arguments, and the package variables that the reading takes, are together of bulk at most 1048576: NARROWER than '..Said'. Prove '..Said' where nothing that the law and all that it calls make is longer than what came in: it says more and counts as full. Else prove '..UptoSaid'. A law counts once. -/
mutual
def uptoBulk {H : Type} : DataW H → Nat
  | .lit (.string bytes) => bytes.length + 1
  | .lit _ => 1
  | .nil => 1
  | .ptr d => uptoBulk d + 1
  | .slice elems spare => uptoBulkAll elems + uptoBulkAll spare + 1
  | .agg parts => uptoBulkAll parts + 1
  | .iface _ d => uptoBulk d + 1
  | .map entries => uptoBulkEntries entries + 1
  | .held _ => 1
def uptoBulkAll {H : Type} : List (DataW H) → Nat
  | [] => 0
  | d :: r => uptoBulk d + uptoBulkAll r
def uptoBulkEntries {H : Type} : List (Lit × DataW H) → Nat
  | [] => 0
  | x :: r => uptoBulkEntry x + uptoBulkEntries r
def uptoBulkEntry {H : Type} : Lit × DataW H → Nat
  | (.string bytes, d) => bytes.length + uptoBulk d + 1
  | (_, d) => uptoBulk d + 1
 end
def uptoSmall : (H : Type) → List (DataW H) → Bool := fun _ ds => decide (uptoBulkAll ds ≤ 1048576)
def OpenSpec.upto (s : _root_.Go.ChangeSpec) : _root_.Go.OpenSpec := { _root_.Go.OpenSpec.ofChange s with cond := some uptoSmall }

/-- 'laws.FnIsPartition', WHERE WHAT IT READS IS OF BULK AT MOST 1048576: true; the input reads as it did. -/
def fnIsPartitionUptoRow : OpenClaim := { program := "ytkjjpleedobkdaa", sum := "f087d475b10bba6023fd7203e17a63fdea031556bca5dd2e7a5f4516191047dc", func := "loop.example/openissues/laws.FnIsPartition", spec := "fnIsPartition", unfollowed := true, recurses := true, apart := false, narrowed := true }
def FnIsPartitionUptoSaid : Prop := fnIsPartitionUptoRow.holds Try.pinned (OpenSpec.upto fnIsPartitionSpec)

/-- 'laws.FnAsksOf', WHERE WHAT IT READS IS OF BULK AT MOST 1048576: true; the input reads as it did. -/
def fnAsksOfUptoRow : OpenClaim := { program := "ytkjjpleedobkdaa", sum := "f087d475b10bba6023fd7203e17a63fdea031556bca5dd2e7a5f4516191047dc", func := "loop.example/openissues/laws.FnAsksOf", spec := "fnAsksOf", unfollowed := true, recurses := true, apart := false, narrowed := true }
def FnAsksOfUptoSaid : Prop := fnAsksOfUptoRow.holds Try.pinned (OpenSpec.upto fnAsksOfSpec)

/-- 'laws.FnAnswerIn', WHERE WHAT IT READS IS OF BULK AT MOST 1048576: true; the input reads as it did. -/
def fnAnswerInUptoRow : OpenClaim := { program := "ytkjjpleedobkdaa", sum := "f087d475b10bba6023fd7203e17a63fdea031556bca5dd2e7a5f4516191047dc", func := "loop.example/openissues/laws.FnAnswerIn", spec := "fnAnswerIn", unfollowed := true, recurses := true, apart := false, narrowed := true }
def FnAnswerInUptoSaid : Prop := fnAnswerInUptoRow.holds Try.pinned (OpenSpec.upto fnAnswerInSpec)

/-- 'laws.FnCoarserOf', WHERE WHAT IT READS IS OF BULK AT MOST 1048576: true; the input reads as it did. -/
def fnCoarserOfUptoRow : OpenClaim := { program := "ytkjjpleedobkdaa", sum := "f087d475b10bba6023fd7203e17a63fdea031556bca5dd2e7a5f4516191047dc", func := "loop.example/openissues/laws.FnCoarserOf", spec := "fnCoarserOf", unfollowed := true, recurses := true, apart := false, narrowed := true }
def FnCoarserOfUptoSaid : Prop := fnCoarserOfUptoRow.holds Try.pinned (OpenSpec.upto fnCoarserOfSpec)

/-- 'laws.FnPartitionsOf', WHERE WHAT IT READS IS OF BULK AT MOST 1048576: true; the input reads as it did. -/
def fnPartitionsOfUptoRow : OpenClaim := { program := "ytkjjpleedobkdaa", sum := "f087d475b10bba6023fd7203e17a63fdea031556bca5dd2e7a5f4516191047dc", func := "loop.example/openissues/laws.FnPartitionsOf", spec := "fnPartitionsOf", unfollowed := true, recurses := true, apart := false, narrowed := true }
def FnPartitionsOfUptoSaid : Prop := fnPartitionsOfUptoRow.holds Try.pinned (OpenSpec.upto fnPartitionsOfSpec)

/-- 'laws.FnExactIsPartition', WHERE WHAT IT READS IS OF BULK AT MOST 1048576: true; the input reads as it did. -/
def fnExactIsPartitionUptoRow : OpenClaim := { program := "ytkjjpleedobkdaa", sum := "f087d475b10bba6023fd7203e17a63fdea031556bca5dd2e7a5f4516191047dc", func := "loop.example/openissues/laws.FnExactIsPartition", spec := "fnExactIsPartition", apart := false, narrowed := true }
def FnExactIsPartitionUptoSaid : Prop := fnExactIsPartitionUptoRow.holds Try.pinned (OpenSpec.upto fnExactIsPartitionSpec)

/-- 'laws.FnExactAsksOf', WHERE WHAT IT READS IS OF BULK AT MOST 1048576: true; the input reads as it did. -/
def fnExactAsksOfUptoRow : OpenClaim := { program := "ytkjjpleedobkdaa", sum := "f087d475b10bba6023fd7203e17a63fdea031556bca5dd2e7a5f4516191047dc", func := "loop.example/openissues/laws.FnExactAsksOf", spec := "fnExactAsksOf", unfollowed := true, recurses := true, apart := false, narrowed := true }
def FnExactAsksOfUptoSaid : Prop := fnExactAsksOfUptoRow.holds Try.pinned (OpenSpec.upto fnExactAsksOfSpec)

/-- 'laws.FnExactAnswerIn', WHERE WHAT IT READS IS OF BULK AT MOST 1048576: true; the input reads as it did. -/
def fnExactAnswerInUptoRow : OpenClaim := { program := "ytkjjpleedobkdaa", sum := "f087d475b10bba6023fd7203e17a63fdea031556bca5dd2e7a5f4516191047dc", func := "loop.example/openissues/laws.FnExactAnswerIn", spec := "fnExactAnswerIn", unfollowed := true, recurses := true, apart := false, narrowed := true }
def FnExactAnswerInUptoSaid : Prop := fnExactAnswerInUptoRow.holds Try.pinned (OpenSpec.upto fnExactAnswerInSpec)

/-- 'laws.FnExactCoarserOf', WHERE WHAT IT READS IS OF BULK AT MOST 1048576: true; the input reads as it did. -/
def fnExactCoarserOfUptoRow : OpenClaim := { program := "ytkjjpleedobkdaa", sum := "f087d475b10bba6023fd7203e17a63fdea031556bca5dd2e7a5f4516191047dc", func := "loop.example/openissues/laws.FnExactCoarserOf", spec := "fnExactCoarserOf", unfollowed := true, recurses := true, apart := false, narrowed := true }
def FnExactCoarserOfUptoSaid : Prop := fnExactCoarserOfUptoRow.holds Try.pinned (OpenSpec.upto fnExactCoarserOfSpec)

/-- 'laws.FnExactPartitionsOf', WHERE WHAT IT READS IS OF BULK AT MOST 1048576: true; the input reads as it did. -/
def fnExactPartitionsOfUptoRow : OpenClaim := { program := "ytkjjpleedobkdaa", sum := "f087d475b10bba6023fd7203e17a63fdea031556bca5dd2e7a5f4516191047dc", func := "loop.example/openissues/laws.FnExactPartitionsOf", spec := "fnExactPartitionsOf", unfollowed := true, recurses := true, apart := false, narrowed := true }
def FnExactPartitionsOfUptoSaid : Prop := fnExactPartitionsOfUptoRow.holds Try.pinned (OpenSpec.upto fnExactPartitionsOfSpec)

end Rows
end Go.Proofs.Ytkjjpleedobkdaa
