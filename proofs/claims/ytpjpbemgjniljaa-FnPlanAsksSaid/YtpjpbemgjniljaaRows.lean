/-
  No cell of these rows narrows 'for every input' (looked for: loops, veiled, ifaces, maps, wideKeys, modest, calm, conditions, laid).
  DERIVED. THE GIVEN ROWS OF THIS SEAT. 6 by the template 'for every input the law returns true; each argument reads behind the call as it read before'; 0 by the template 'total and deterministic' (their statements: YtpjpbemgjniljaaTotals.lean).
  GIVEN WITH THE SEED: the statements are not yours to turn. If you find one false, say at which input.
  Laid BY PROGRAM, IN A SANDBOX (cutbox-rows.mjs): the forced cells as the released guide's own fill.sh prints them over the translation 3cba0f5a1ff0555c… (all of the seat's roots in one cut). By AI agents, Wed Nov 11 2026. No macro, syntax, notation, axiom, sorry.
-/
import Derived.Test.YtpjpbemgjniljaaChecked
import GoSem.Claim
import GoSem.ClaimJoined
import GoSem.ClaimMapViews
import Derived.JoinedTies
import Derived.KernelRfl
namespace Go.Proofs.Ytpjpbemgjniljaa
/- THE CELL 'sum', in the pinned program and in every row, IS THE sha256 OF THE DUMP (.gsa) THAT YtpjpbemgjniljaaProg.lean LOADS. Nothing in Lean hashes anything: it is a label: what it is worth is what the hold of that sum in a sandbox is worth. -/
noncomputable def Try.pinned : Pinned := { name := "ytpjpbemgjniljaa", sum := "3cba0f5a1ff0555c39c03616a949969ee81e41c98ea64853d98aa1ccef9285d7", checked := Try.checked }
namespace Rows
def none {H : Type} : Left H := { results := [], args := [] }

/-- 'laws.FnAsksNeeded': WHATEVER THE INPUT: true; the input reads as it did. -/
def fnAsksNeededSpec : ChangeSpec := { name := "fnAsksNeeded", fn := fun _ => fun
  | [d1, d2] => { results := [.lit (.bool true)], args := [d1, d2] }
  | _ => none }
def fnAsksNeededRow : OpenClaim := { program := "ytpjpbemgjniljaa", sum := "3cba0f5a1ff0555c39c03616a949969ee81e41c98ea64853d98aa1ccef9285d7", func := "loop.example/openissues/laws.FnAsksNeeded", spec := "fnAsksNeeded", unfollowed := true, recurses := true, apart := false }
def FnAsksNeededSaid : Prop := fnAsksNeededRow.holds Try.pinned (OpenSpec.ofChange fnAsksNeededSpec)

/-- ITS FALSE NEIGHBOUR: 'it returns false'. Refute it at one input. -/
def fnAsksNeededWrong : ChangeSpec := { name := "fnAsksNeeded", fn := fun _ => fun
  | [d1, d2] => { results := [.lit (.bool false)], args := [d1, d2] }
  | _ => none }
def FnAsksNeededWrongFalsely : Prop := fnAsksNeededRow.holds Try.pinned (OpenSpec.ofChange fnAsksNeededWrong)

/-- 'laws.FnPlanAsks': WHATEVER THE INPUT: true; the input reads as it did. -/
def fnPlanAsksSpec : ChangeSpec := { name := "fnPlanAsks", fn := fun _ => fun
  | [d] => { results := [.lit (.bool true)], args := [d] }
  | _ => none }
def fnPlanAsksRow : OpenClaim := { program := "ytpjpbemgjniljaa", sum := "3cba0f5a1ff0555c39c03616a949969ee81e41c98ea64853d98aa1ccef9285d7", func := "loop.example/openissues/laws.FnPlanAsks", spec := "fnPlanAsks", inPlace := ["internal/bytealg.IndexByteString"], unfollowed := true, recurses := true, apart := false }
def FnPlanAsksSaid : Prop := fnPlanAsksRow.holds Try.pinned (OpenSpec.ofChange fnPlanAsksSpec)

/-- ITS FALSE NEIGHBOUR: 'it returns false'. Refute it at one input. -/
def fnPlanAsksWrong : ChangeSpec := { name := "fnPlanAsks", fn := fun _ => fun
  | [d] => { results := [.lit (.bool false)], args := [d] }
  | _ => none }
def FnPlanAsksWrongFalsely : Prop := fnPlanAsksRow.holds Try.pinned (OpenSpec.ofChange fnPlanAsksWrong)

/-- 'laws.FnAnswersTo': WHATEVER THE INPUT: true; the input reads as it did. -/
def fnAnswersToSpec : ChangeSpec := { name := "fnAnswersTo", fn := fun _ => fun
  | [d] => { results := [.lit (.bool true)], args := [d] }
  | _ => none }
def fnAnswersToRow : OpenClaim := { program := "ytpjpbemgjniljaa", sum := "3cba0f5a1ff0555c39c03616a949969ee81e41c98ea64853d98aa1ccef9285d7", func := "loop.example/openissues/laws.FnAnswersTo", spec := "fnAnswersTo", inPlace := ["internal/bytealg.IndexByteString"], unfollowed := true, recurses := true, apart := false }
def FnAnswersToSaid : Prop := fnAnswersToRow.holds Try.pinned (OpenSpec.ofChange fnAnswersToSpec)

/-- ITS FALSE NEIGHBOUR: 'it returns false'. Refute it at one input. -/
def fnAnswersToWrong : ChangeSpec := { name := "fnAnswersTo", fn := fun _ => fun
  | [d] => { results := [.lit (.bool false)], args := [d] }
  | _ => none }
def FnAnswersToWrongFalsely : Prop := fnAnswersToRow.holds Try.pinned (OpenSpec.ofChange fnAnswersToWrong)

/-- 'laws.FnExactAsksNeeded': WHATEVER THE INPUT: true; the input reads as it did. -/
def fnExactAsksNeededSpec : ChangeSpec := { name := "fnExactAsksNeeded", fn := fun _ => fun
  | [d1, d2, d3, d4] => { results := [.lit (.bool true)], args := [d1, d2, d3, d4] }
  | _ => none }
def fnExactAsksNeededRow : OpenClaim := { program := "ytpjpbemgjniljaa", sum := "3cba0f5a1ff0555c39c03616a949969ee81e41c98ea64853d98aa1ccef9285d7", func := "loop.example/openissues/laws.FnExactAsksNeeded", spec := "fnExactAsksNeeded", unfollowed := true, recurses := true, apart := false }
def FnExactAsksNeededSaid : Prop := fnExactAsksNeededRow.holds Try.pinned (OpenSpec.ofChange fnExactAsksNeededSpec)

/-- ITS FALSE NEIGHBOUR: 'it returns false'. Refute it at one input. -/
def fnExactAsksNeededWrong : ChangeSpec := { name := "fnExactAsksNeeded", fn := fun _ => fun
  | [d1, d2, d3, d4] => { results := [.lit (.bool false)], args := [d1, d2, d3, d4] }
  | _ => none }
def FnExactAsksNeededWrongFalsely : Prop := fnExactAsksNeededRow.holds Try.pinned (OpenSpec.ofChange fnExactAsksNeededWrong)

/-- 'laws.FnExactPlanAsks': WHATEVER THE INPUT: true; the input reads as it did. -/
def fnExactPlanAsksSpec : ChangeSpec := { name := "fnExactPlanAsks", fn := fun _ => fun
  | [d1, d2, d3, d4, d5] => { results := [.lit (.bool true)], args := [d1, d2, d3, d4, d5] }
  | _ => none }
def fnExactPlanAsksRow : OpenClaim := { program := "ytpjpbemgjniljaa", sum := "3cba0f5a1ff0555c39c03616a949969ee81e41c98ea64853d98aa1ccef9285d7", func := "loop.example/openissues/laws.FnExactPlanAsks", spec := "fnExactPlanAsks", inPlace := ["internal/bytealg.IndexByteString"], unfollowed := true, recurses := true, apart := false }
def FnExactPlanAsksSaid : Prop := fnExactPlanAsksRow.holds Try.pinned (OpenSpec.ofChange fnExactPlanAsksSpec)

/-- ITS FALSE NEIGHBOUR: 'it returns false'. Refute it at one input. -/
def fnExactPlanAsksWrong : ChangeSpec := { name := "fnExactPlanAsks", fn := fun _ => fun
  | [d1, d2, d3, d4, d5] => { results := [.lit (.bool false)], args := [d1, d2, d3, d4, d5] }
  | _ => none }
def FnExactPlanAsksWrongFalsely : Prop := fnExactPlanAsksRow.holds Try.pinned (OpenSpec.ofChange fnExactPlanAsksWrong)

/-- 'laws.FnExactAnswersTo': WHATEVER THE INPUT: true; the input reads as it did. -/
def fnExactAnswersToSpec : ChangeSpec := { name := "fnExactAnswersTo", fn := fun _ => fun
  | [d1, d2, d3, d4, d5, d6] => { results := [.lit (.bool true)], args := [d1, d2, d3, d4, d5, d6] }
  | _ => none }
def fnExactAnswersToRow : OpenClaim := { program := "ytpjpbemgjniljaa", sum := "3cba0f5a1ff0555c39c03616a949969ee81e41c98ea64853d98aa1ccef9285d7", func := "loop.example/openissues/laws.FnExactAnswersTo", spec := "fnExactAnswersTo", inPlace := ["internal/bytealg.IndexByteString"], unfollowed := true, recurses := true, apart := false }
def FnExactAnswersToSaid : Prop := fnExactAnswersToRow.holds Try.pinned (OpenSpec.ofChange fnExactAnswersToSpec)

/-- ITS FALSE NEIGHBOUR: 'it returns false'. Refute it at one input. -/
def fnExactAnswersToWrong : ChangeSpec := { name := "fnExactAnswersTo", fn := fun _ => fun
  | [d1, d2, d3, d4, d5, d6] => { results := [.lit (.bool false)], args := [d1, d2, d3, d4, d5, d6] }
  | _ => none }
def FnExactAnswersToWrongFalsely : Prop := fnExactAnswersToRow.holds Try.pinned (OpenSpec.ofChange fnExactAnswersToWrong)

/- THE SECOND FORM. 'bulk': how many values and letters a reading holds, each counted each time it is reached (what is shared counts as often as it is met; a slice's spare places count too). A statement '..UptoSaid' is the law's where the arguments, and the package variables that the reading takes, are together of bulk at most 1048576: NARROWER than '..Said'. Prove '..Said' where nothing that the law and all that it calls make is longer than what came in: it says more and counts as full. Else prove '..UptoSaid'. A law counts once. -/
mutual
def uptoBulk {H : Type} : DataW H → Nat
  | .lit (.string bytes) => bytes.length + 1
  | .lit _ => 1
  | .nil => 1
  | .ptr d => uptoBulk d + 1
  | .slice elems spare => uptoBulkAll elems + uptoBulkAll spare + 1
  | .agg parts => uptoBulkAll parts + 1
  | .iface _ d => uptoBulk d + 1
  | .map entries => uptoBulkEntries entries + 1
  | .held _ => 1
def uptoBulkAll {H : Type} : List (DataW H) → Nat
  | [] => 0
  | d :: r => uptoBulk d + uptoBulkAll r
def uptoBulkEntries {H : Type} : List (Lit × DataW H) → Nat
  | [] => 0
  | x :: r => uptoBulkEntry x + uptoBulkEntries r
def uptoBulkEntry {H : Type} : Lit × DataW H → Nat
  | (.string bytes, d) => bytes.length + uptoBulk d + 1
  | (_, d) => uptoBulk d + 1
 end
def uptoSmall : (H : Type) → List (DataW H) → Bool := fun _ ds => decide (uptoBulkAll ds ≤ 1048576)
def OpenSpec.upto (s : _root_.Go.ChangeSpec) : _root_.Go.OpenSpec := { _root_.Go.OpenSpec.ofChange s with cond := some uptoSmall }

/-- 'laws.FnAsksNeeded', WHERE WHAT IT READS IS OF BULK AT MOST 1048576: true; the input reads as it did. -/
def fnAsksNeededUptoRow : OpenClaim := { program := "ytpjpbemgjniljaa", sum := "3cba0f5a1ff0555c39c03616a949969ee81e41c98ea64853d98aa1ccef9285d7", func := "loop.example/openissues/laws.FnAsksNeeded", spec := "fnAsksNeeded", unfollowed := true, recurses := true, apart := false, narrowed := true }
def FnAsksNeededUptoSaid : Prop := fnAsksNeededUptoRow.holds Try.pinned (OpenSpec.upto fnAsksNeededSpec)

/-- 'laws.FnPlanAsks', WHERE WHAT IT READS IS OF BULK AT MOST 1048576: true; the input reads as it did. -/
def fnPlanAsksUptoRow : OpenClaim := { program := "ytpjpbemgjniljaa", sum := "3cba0f5a1ff0555c39c03616a949969ee81e41c98ea64853d98aa1ccef9285d7", func := "loop.example/openissues/laws.FnPlanAsks", spec := "fnPlanAsks", inPlace := ["internal/bytealg.IndexByteString"], unfollowed := true, recurses := true, apart := false, narrowed := true }
def FnPlanAsksUptoSaid : Prop := fnPlanAsksUptoRow.holds Try.pinned (OpenSpec.upto fnPlanAsksSpec)

/-- 'laws.FnAnswersTo', WHERE WHAT IT READS IS OF BULK AT MOST 1048576: true; the input reads as it did. -/
def fnAnswersToUptoRow : OpenClaim := { program := "ytpjpbemgjniljaa", sum := "3cba0f5a1ff0555c39c03616a949969ee81e41c98ea64853d98aa1ccef9285d7", func := "loop.example/openissues/laws.FnAnswersTo", spec := "fnAnswersTo", inPlace := ["internal/bytealg.IndexByteString"], unfollowed := true, recurses := true, apart := false, narrowed := true }
def FnAnswersToUptoSaid : Prop := fnAnswersToUptoRow.holds Try.pinned (OpenSpec.upto fnAnswersToSpec)

/-- 'laws.FnExactAsksNeeded', WHERE WHAT IT READS IS OF BULK AT MOST 1048576: true; the input reads as it did. -/
def fnExactAsksNeededUptoRow : OpenClaim := { program := "ytpjpbemgjniljaa", sum := "3cba0f5a1ff0555c39c03616a949969ee81e41c98ea64853d98aa1ccef9285d7", func := "loop.example/openissues/laws.FnExactAsksNeeded", spec := "fnExactAsksNeeded", unfollowed := true, recurses := true, apart := false, narrowed := true }
def FnExactAsksNeededUptoSaid : Prop := fnExactAsksNeededUptoRow.holds Try.pinned (OpenSpec.upto fnExactAsksNeededSpec)

/-- 'laws.FnExactPlanAsks', WHERE WHAT IT READS IS OF BULK AT MOST 1048576: true; the input reads as it did. -/
def fnExactPlanAsksUptoRow : OpenClaim := { program := "ytpjpbemgjniljaa", sum := "3cba0f5a1ff0555c39c03616a949969ee81e41c98ea64853d98aa1ccef9285d7", func := "loop.example/openissues/laws.FnExactPlanAsks", spec := "fnExactPlanAsks", inPlace := ["internal/bytealg.IndexByteString"], unfollowed := true, recurses := true, apart := false, narrowed := true }
def FnExactPlanAsksUptoSaid : Prop := fnExactPlanAsksUptoRow.holds Try.pinned (OpenSpec.upto fnExactPlanAsksSpec)

/-- 'laws.FnExactAnswersTo', WHERE WHAT IT READS IS OF BULK AT MOST 1048576: true; the input reads as it did. -/
def fnExactAnswersToUptoRow : OpenClaim := { program := "ytpjpbemgjniljaa", sum := "3cba0f5a1ff0555c39c03616a949969ee81e41c98ea64853d98aa1ccef9285d7", func := "loop.example/openissues/laws.FnExactAnswersTo", spec := "fnExactAnswersTo", inPlace := ["internal/bytealg.IndexByteString"], unfollowed := true, recurses := true, apart := false, narrowed := true }
def FnExactAnswersToUptoSaid : Prop := fnExactAnswersToUptoRow.holds Try.pinned (OpenSpec.upto fnExactAnswersToSpec)

end Rows
end Go.Proofs.Ytpjpbemgjniljaa
