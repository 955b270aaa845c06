/-
  No cell of these rows narrows 'for every input' (looked for: loops, veiled, ifaces, maps, wideKeys, modest, calm, conditions, laid).
  DERIVED. THE GIVEN ROWS OF THIS SEAT. 10 by the template 'for every input the law returns true; each argument reads behind the call as it read before'; 0 by the template 'total and deterministic' (their statements: YtjilcnehndmoaaaTotals.lean).
  GIVEN WITH THE SEED: the statements are not yours to turn. If you find one false, say at which input.
  Laid BY PROGRAM, IN A SANDBOX (cutbox-rows.mjs): the forced cells as the released guide's own fill.sh prints them over the translation 011f25b3dd7927ae… (all of the seat's roots in one cut). By AI agents, Wed Nov 11 2026. No macro, syntax, notation, axiom, sorry.
-/
import Derived.Test.YtjilcnehndmoaaaChecked
import GoSem.Claim
import GoSem.ClaimJoined
import GoSem.ClaimMapViews
import Derived.JoinedTies
import Derived.KernelRfl
namespace Go.Proofs.Ytjilcnehndmoaaa
/- THE CELL 'sum', in the pinned program and in every row, IS THE sha256 OF THE DUMP (.gsa) THAT YtjilcnehndmoaaaProg.lean LOADS. Nothing in Lean hashes anything: it is a label: what it is worth is what the hold of that sum in a sandbox is worth. -/
noncomputable def Try.pinned : Pinned := { name := "ytjilcnehndmoaaa", sum := "011f25b3dd7927ae4c3d7d505dec5961c4c2abda230d5641262b2b1e3168ee4e", checked := Try.checked }
namespace Rows
def none {H : Type} : Left H := { results := [], args := [] }

/-- 'laws.FnLoadedOk': WHATEVER THE INPUT: true; the input reads as it did. -/
def fnLoadedOkSpec : ChangeSpec := { name := "fnLoadedOk", fn := fun _ => fun
  | [d] => { results := [.lit (.bool true)], args := [d] }
  | _ => none }
def fnLoadedOkRow : OpenClaim := { program := "ytjilcnehndmoaaa", sum := "011f25b3dd7927ae4c3d7d505dec5961c4c2abda230d5641262b2b1e3168ee4e", func := "loop.example/openissues/laws.FnLoadedOk", spec := "fnLoadedOk", inPlace := ["internal/bytealg.IndexByteString"], unfollowed := true, recurses := true, apart := false }
def FnLoadedOkSaid : Prop := fnLoadedOkRow.holds Try.pinned (OpenSpec.ofChange fnLoadedOkSpec)

/-- ITS FALSE NEIGHBOUR: 'it returns false'. Refute it at one input. -/
def fnLoadedOkWrong : ChangeSpec := { name := "fnLoadedOk", fn := fun _ => fun
  | [d] => { results := [.lit (.bool false)], args := [d] }
  | _ => none }
def FnLoadedOkWrongFalsely : Prop := fnLoadedOkRow.holds Try.pinned (OpenSpec.ofChange fnLoadedOkWrong)

/-- 'laws.FnChangedBy': WHATEVER THE INPUT: true; the input reads as it did. -/
def fnChangedBySpec : ChangeSpec := { name := "fnChangedBy", fn := fun _ => fun
  | [d1, d2] => { results := [.lit (.bool true)], args := [d1, d2] }
  | _ => none }
def fnChangedByRow : OpenClaim := { program := "ytjilcnehndmoaaa", sum := "011f25b3dd7927ae4c3d7d505dec5961c4c2abda230d5641262b2b1e3168ee4e", func := "loop.example/openissues/laws.FnChangedBy", spec := "fnChangedBy", inPlace := ["internal/bytealg.IndexByteString"], unfollowed := true, recurses := true, apart := false }
def FnChangedBySaid : Prop := fnChangedByRow.holds Try.pinned (OpenSpec.ofChange fnChangedBySpec)

/-- ITS FALSE NEIGHBOUR: 'it returns false'. Refute it at one input. -/
def fnChangedByWrong : ChangeSpec := { name := "fnChangedBy", fn := fun _ => fun
  | [d1, d2] => { results := [.lit (.bool false)], args := [d1, d2] }
  | _ => none }
def FnChangedByWrongFalsely : Prop := fnChangedByRow.holds Try.pinned (OpenSpec.ofChange fnChangedByWrong)

/-- 'laws.FnNeededBy': WHATEVER THE INPUT: true; the input reads as it did. -/
def fnNeededBySpec : ChangeSpec := { name := "fnNeededBy", fn := fun _ => fun
  | [d] => { results := [.lit (.bool true)], args := [d] }
  | _ => none }
def fnNeededByRow : OpenClaim := { program := "ytjilcnehndmoaaa", sum := "011f25b3dd7927ae4c3d7d505dec5961c4c2abda230d5641262b2b1e3168ee4e", func := "loop.example/openissues/laws.FnNeededBy", spec := "fnNeededBy", inPlace := ["internal/bytealg.IndexByteString"], unfollowed := true, recurses := true, apart := false }
def FnNeededBySaid : Prop := fnNeededByRow.holds Try.pinned (OpenSpec.ofChange fnNeededBySpec)

/-- ITS FALSE NEIGHBOUR: 'it returns false'. Refute it at one input. -/
def fnNeededByWrong : ChangeSpec := { name := "fnNeededBy", fn := fun _ => fun
  | [d] => { results := [.lit (.bool false)], args := [d] }
  | _ => none }
def FnNeededByWrongFalsely : Prop := fnNeededByRow.holds Try.pinned (OpenSpec.ofChange fnNeededByWrong)

/-- 'laws.FnLeftBy': WHATEVER THE INPUT: true; the input reads as it did. -/
def fnLeftBySpec : ChangeSpec := { name := "fnLeftBy", fn := fun _ => fun
  | [d] => { results := [.lit (.bool true)], args := [d] }
  | _ => none }
def fnLeftByRow : OpenClaim := { program := "ytjilcnehndmoaaa", sum := "011f25b3dd7927ae4c3d7d505dec5961c4c2abda230d5641262b2b1e3168ee4e", func := "loop.example/openissues/laws.FnLeftBy", spec := "fnLeftBy", inPlace := ["internal/bytealg.IndexByteString"], unfollowed := true, recurses := true, apart := false }
def FnLeftBySaid : Prop := fnLeftByRow.holds Try.pinned (OpenSpec.ofChange fnLeftBySpec)

/-- ITS FALSE NEIGHBOUR: 'it returns false'. Refute it at one input. -/
def fnLeftByWrong : ChangeSpec := { name := "fnLeftBy", fn := fun _ => fun
  | [d] => { results := [.lit (.bool false)], args := [d] }
  | _ => none }
def FnLeftByWrongFalsely : Prop := fnLeftByRow.holds Try.pinned (OpenSpec.ofChange fnLeftByWrong)

/-- 'laws.FnNeutral': WHATEVER THE INPUT: true; the input reads as it did. -/
def fnNeutralSpec : ChangeSpec := { name := "fnNeutral", fn := fun _ => fun
  | [d] => { results := [.lit (.bool true)], args := [d] }
  | _ => none }
def fnNeutralRow : OpenClaim := { program := "ytjilcnehndmoaaa", sum := "011f25b3dd7927ae4c3d7d505dec5961c4c2abda230d5641262b2b1e3168ee4e", func := "loop.example/openissues/laws.FnNeutral", spec := "fnNeutral", inPlace := ["internal/bytealg.IndexByteString"], unfollowed := true, recurses := true, apart := false }
def FnNeutralSaid : Prop := fnNeutralRow.holds Try.pinned (OpenSpec.ofChange fnNeutralSpec)

/-- ITS FALSE NEIGHBOUR: 'it returns false'. Refute it at one input. -/
def fnNeutralWrong : ChangeSpec := { name := "fnNeutral", fn := fun _ => fun
  | [d] => { results := [.lit (.bool false)], args := [d] }
  | _ => none }
def FnNeutralWrongFalsely : Prop := fnNeutralRow.holds Try.pinned (OpenSpec.ofChange fnNeutralWrong)

/-- 'laws.FnExactLoadedOk': WHATEVER THE INPUT: true; the input reads as it did. -/
def fnExactLoadedOkSpec : ChangeSpec := { name := "fnExactLoadedOk", fn := fun _ => fun
  | [d1, d2] => { results := [.lit (.bool true)], args := [d1, d2] }
  | _ => none }
def fnExactLoadedOkRow : OpenClaim := { program := "ytjilcnehndmoaaa", sum := "011f25b3dd7927ae4c3d7d505dec5961c4c2abda230d5641262b2b1e3168ee4e", func := "loop.example/openissues/laws.FnExactLoadedOk", spec := "fnExactLoadedOk", inPlace := ["internal/bytealg.IndexByteString"], unfollowed := true, recurses := true, apart := false }
def FnExactLoadedOkSaid : Prop := fnExactLoadedOkRow.holds Try.pinned (OpenSpec.ofChange fnExactLoadedOkSpec)

/-- ITS FALSE NEIGHBOUR: 'it returns false'. Refute it at one input. -/
def fnExactLoadedOkWrong : ChangeSpec := { name := "fnExactLoadedOk", fn := fun _ => fun
  | [d1, d2] => { results := [.lit (.bool false)], args := [d1, d2] }
  | _ => none }
def FnExactLoadedOkWrongFalsely : Prop := fnExactLoadedOkRow.holds Try.pinned (OpenSpec.ofChange fnExactLoadedOkWrong)

/-- 'laws.FnExactChangedBy': WHATEVER THE INPUT: true; the input reads as it did. -/
def fnExactChangedBySpec : ChangeSpec := { name := "fnExactChangedBy", fn := fun _ => fun
  | [d1, d2, d3] => { results := [.lit (.bool true)], args := [d1, d2, d3] }
  | _ => none }
def fnExactChangedByRow : OpenClaim := { program := "ytjilcnehndmoaaa", sum := "011f25b3dd7927ae4c3d7d505dec5961c4c2abda230d5641262b2b1e3168ee4e", func := "loop.example/openissues/laws.FnExactChangedBy", spec := "fnExactChangedBy", inPlace := ["internal/bytealg.IndexByteString"], unfollowed := true, recurses := true, apart := false }
def FnExactChangedBySaid : Prop := fnExactChangedByRow.holds Try.pinned (OpenSpec.ofChange fnExactChangedBySpec)

/-- ITS FALSE NEIGHBOUR: 'it returns false'. Refute it at one input. -/
def fnExactChangedByWrong : ChangeSpec := { name := "fnExactChangedBy", fn := fun _ => fun
  | [d1, d2, d3] => { results := [.lit (.bool false)], args := [d1, d2, d3] }
  | _ => none }
def FnExactChangedByWrongFalsely : Prop := fnExactChangedByRow.holds Try.pinned (OpenSpec.ofChange fnExactChangedByWrong)

/-- 'laws.FnExactNeededBy': WHATEVER THE INPUT: true; the input reads as it did. -/
def fnExactNeededBySpec : ChangeSpec := { name := "fnExactNeededBy", fn := fun _ => fun
  | [d1, d2] => { results := [.lit (.bool true)], args := [d1, d2] }
  | _ => none }
def fnExactNeededByRow : OpenClaim := { program := "ytjilcnehndmoaaa", sum := "011f25b3dd7927ae4c3d7d505dec5961c4c2abda230d5641262b2b1e3168ee4e", func := "loop.example/openissues/laws.FnExactNeededBy", spec := "fnExactNeededBy", inPlace := ["internal/bytealg.IndexByteString"], unfollowed := true, recurses := true, apart := false }
def FnExactNeededBySaid : Prop := fnExactNeededByRow.holds Try.pinned (OpenSpec.ofChange fnExactNeededBySpec)

/-- ITS FALSE NEIGHBOUR: 'it returns false'. Refute it at one input. -/
def fnExactNeededByWrong : ChangeSpec := { name := "fnExactNeededBy", fn := fun _ => fun
  | [d1, d2] => { results := [.lit (.bool false)], args := [d1, d2] }
  | _ => none }
def FnExactNeededByWrongFalsely : Prop := fnExactNeededByRow.holds Try.pinned (OpenSpec.ofChange fnExactNeededByWrong)

/-- 'laws.FnExactLeftBy': WHATEVER THE INPUT: true; the input reads as it did. -/
def fnExactLeftBySpec : ChangeSpec := { name := "fnExactLeftBy", fn := fun _ => fun
  | [d1, d2] => { results := [.lit (.bool true)], args := [d1, d2] }
  | _ => none }
def fnExactLeftByRow : OpenClaim := { program := "ytjilcnehndmoaaa", sum := "011f25b3dd7927ae4c3d7d505dec5961c4c2abda230d5641262b2b1e3168ee4e", func := "loop.example/openissues/laws.FnExactLeftBy", spec := "fnExactLeftBy", inPlace := ["internal/bytealg.IndexByteString"], unfollowed := true, recurses := true, apart := false }
def FnExactLeftBySaid : Prop := fnExactLeftByRow.holds Try.pinned (OpenSpec.ofChange fnExactLeftBySpec)

/-- ITS FALSE NEIGHBOUR: 'it returns false'. Refute it at one input. -/
def fnExactLeftByWrong : ChangeSpec := { name := "fnExactLeftBy", fn := fun _ => fun
  | [d1, d2] => { results := [.lit (.bool false)], args := [d1, d2] }
  | _ => none }
def FnExactLeftByWrongFalsely : Prop := fnExactLeftByRow.holds Try.pinned (OpenSpec.ofChange fnExactLeftByWrong)

/-- 'laws.FnExactNeutral': WHATEVER THE INPUT: true; the input reads as it did. -/
def fnExactNeutralSpec : ChangeSpec := { name := "fnExactNeutral", fn := fun _ => fun
  | [d1, d2] => { results := [.lit (.bool true)], args := [d1, d2] }
  | _ => none }
def fnExactNeutralRow : OpenClaim := { program := "ytjilcnehndmoaaa", sum := "011f25b3dd7927ae4c3d7d505dec5961c4c2abda230d5641262b2b1e3168ee4e", func := "loop.example/openissues/laws.FnExactNeutral", spec := "fnExactNeutral", inPlace := ["internal/bytealg.IndexByteString"], unfollowed := true, recurses := true, apart := false }
def FnExactNeutralSaid : Prop := fnExactNeutralRow.holds Try.pinned (OpenSpec.ofChange fnExactNeutralSpec)

/-- ITS FALSE NEIGHBOUR: 'it returns false'. Refute it at one input. -/
def fnExactNeutralWrong : ChangeSpec := { name := "fnExactNeutral", fn := fun _ => fun
  | [d1, d2] => { results := [.lit (.bool false)], args := [d1, d2] }
  | _ => none }
def FnExactNeutralWrongFalsely : Prop := fnExactNeutralRow.holds Try.pinned (OpenSpec.ofChange fnExactNeutralWrong)

/- THE SECOND FORM. 'bulk': how many values and letters a reading holds, each counted each time it is reached (what is shared counts as often as it is met; a slice's spare places count too). A statement '..UptoSaid' is the law's where the arguments, and the package variables that the reading takes, are together of bulk at most 1048576: NARROWER than '..Said'. Prove '..Said' where nothing that the law and all that it calls make is longer than what came in: it says more and counts as full. Else prove '..UptoSaid'. A law counts once. -/
mutual
def uptoBulk {H : Type} : DataW H → Nat
  | .lit (.string bytes) => bytes.length + 1
  | .lit _ => 1
  | .nil => 1
  | .ptr d => uptoBulk d + 1
  | .slice elems spare => uptoBulkAll elems + uptoBulkAll spare + 1
  | .agg parts => uptoBulkAll parts + 1
  | .iface _ d => uptoBulk d + 1
  | .map entries => uptoBulkEntries entries + 1
  | .held _ => 1
def uptoBulkAll {H : Type} : List (DataW H) → Nat
  | [] => 0
  | d :: r => uptoBulk d + uptoBulkAll r
def uptoBulkEntries {H : Type} : List (Lit × DataW H) → Nat
  | [] => 0
  | x :: r => uptoBulkEntry x + uptoBulkEntries r
def uptoBulkEntry {H : Type} : Lit × DataW H → Nat
  | (.string bytes, d) => bytes.length + uptoBulk d + 1
  | (_, d) => uptoBulk d + 1
 end
def uptoSmall : (H : Type) → List (DataW H) → Bool := fun _ ds => decide (uptoBulkAll ds ≤ 1048576)
def OpenSpec.upto (s : _root_.Go.ChangeSpec) : _root_.Go.OpenSpec := { _root_.Go.OpenSpec.ofChange s with cond := some uptoSmall }

/-- 'laws.FnLoadedOk', WHERE WHAT IT READS IS OF BULK AT MOST 1048576: true; the input reads as it did. -/
def fnLoadedOkUptoRow : OpenClaim := { program := "ytjilcnehndmoaaa", sum := "011f25b3dd7927ae4c3d7d505dec5961c4c2abda230d5641262b2b1e3168ee4e", func := "loop.example/openissues/laws.FnLoadedOk", spec := "fnLoadedOk", inPlace := ["internal/bytealg.IndexByteString"], unfollowed := true, recurses := true, apart := false, narrowed := true }
def FnLoadedOkUptoSaid : Prop := fnLoadedOkUptoRow.holds Try.pinned (OpenSpec.upto fnLoadedOkSpec)

/-- 'laws.FnChangedBy', WHERE WHAT IT READS IS OF BULK AT MOST 1048576: true; the input reads as it did. -/
def fnChangedByUptoRow : OpenClaim := { program := "ytjilcnehndmoaaa", sum := "011f25b3dd7927ae4c3d7d505dec5961c4c2abda230d5641262b2b1e3168ee4e", func := "loop.example/openissues/laws.FnChangedBy", spec := "fnChangedBy", inPlace := ["internal/bytealg.IndexByteString"], unfollowed := true, recurses := true, apart := false, narrowed := true }
def FnChangedByUptoSaid : Prop := fnChangedByUptoRow.holds Try.pinned (OpenSpec.upto fnChangedBySpec)

/-- 'laws.FnNeededBy', WHERE WHAT IT READS IS OF BULK AT MOST 1048576: true; the input reads as it did. -/
def fnNeededByUptoRow : OpenClaim := { program := "ytjilcnehndmoaaa", sum := "011f25b3dd7927ae4c3d7d505dec5961c4c2abda230d5641262b2b1e3168ee4e", func := "loop.example/openissues/laws.FnNeededBy", spec := "fnNeededBy", inPlace := ["internal/bytealg.IndexByteString"], unfollowed := true, recurses := true, apart := false, narrowed := true }
def FnNeededByUptoSaid : Prop := fnNeededByUptoRow.holds Try.pinned (OpenSpec.upto fnNeededBySpec)

/-- 'laws.FnLeftBy', WHERE WHAT IT READS IS OF BULK AT MOST 1048576: true; the input reads as it did. -/
def fnLeftByUptoRow : OpenClaim := { program := "ytjilcnehndmoaaa", sum := "011f25b3dd7927ae4c3d7d505dec5961c4c2abda230d5641262b2b1e3168ee4e", func := "loop.example/openissues/laws.FnLeftBy", spec := "fnLeftBy", inPlace := ["internal/bytealg.IndexByteString"], unfollowed := true, recurses := true, apart := false, narrowed := true }
def FnLeftByUptoSaid : Prop := fnLeftByUptoRow.holds Try.pinned (OpenSpec.upto fnLeftBySpec)

/-- 'laws.FnNeutral', WHERE WHAT IT READS IS OF BULK AT MOST 1048576: true; the input reads as it did. -/
def fnNeutralUptoRow : OpenClaim := { program := "ytjilcnehndmoaaa", sum := "011f25b3dd7927ae4c3d7d505dec5961c4c2abda230d5641262b2b1e3168ee4e", func := "loop.example/openissues/laws.FnNeutral", spec := "fnNeutral", inPlace := ["internal/bytealg.IndexByteString"], unfollowed := true, recurses := true, apart := false, narrowed := true }
def FnNeutralUptoSaid : Prop := fnNeutralUptoRow.holds Try.pinned (OpenSpec.upto fnNeutralSpec)

/-- 'laws.FnExactLoadedOk', WHERE WHAT IT READS IS OF BULK AT MOST 1048576: true; the input reads as it did. -/
def fnExactLoadedOkUptoRow : OpenClaim := { program := "ytjilcnehndmoaaa", sum := "011f25b3dd7927ae4c3d7d505dec5961c4c2abda230d5641262b2b1e3168ee4e", func := "loop.example/openissues/laws.FnExactLoadedOk", spec := "fnExactLoadedOk", inPlace := ["internal/bytealg.IndexByteString"], unfollowed := true, recurses := true, apart := false, narrowed := true }
def FnExactLoadedOkUptoSaid : Prop := fnExactLoadedOkUptoRow.holds Try.pinned (OpenSpec.upto fnExactLoadedOkSpec)

/-- 'laws.FnExactChangedBy', WHERE WHAT IT READS IS OF BULK AT MOST 1048576: true; the input reads as it did. -/
def fnExactChangedByUptoRow : OpenClaim := { program := "ytjilcnehndmoaaa", sum := "011f25b3dd7927ae4c3d7d505dec5961c4c2abda230d5641262b2b1e3168ee4e", func := "loop.example/openissues/laws.FnExactChangedBy", spec := "fnExactChangedBy", inPlace := ["internal/bytealg.IndexByteString"], unfollowed := true, recurses := true, apart := false, narrowed := true }
def FnExactChangedByUptoSaid : Prop := fnExactChangedByUptoRow.holds Try.pinned (OpenSpec.upto fnExactChangedBySpec)

/-- 'laws.FnExactNeededBy', WHERE WHAT IT READS IS OF BULK AT MOST 1048576: true; the input reads as it did. -/
def fnExactNeededByUptoRow : OpenClaim := { program := "ytjilcnehndmoaaa", sum := "011f25b3dd7927ae4c3d7d505dec5961c4c2abda230d5641262b2b1e3168ee4e", func := "loop.example/openissues/laws.FnExactNeededBy", spec := "fnExactNeededBy", inPlace := ["internal/bytealg.IndexByteString"], unfollowed := true, recurses := true, apart := false, narrowed := true }
def FnExactNeededByUptoSaid : Prop := fnExactNeededByUptoRow.holds Try.pinned (OpenSpec.upto fnExactNeededBySpec)

/-- 'laws.FnExactLeftBy', WHERE WHAT IT READS IS OF BULK AT MOST 1048576: true; the input reads as it did. -/
def fnExactLeftByUptoRow : OpenClaim := { program := "ytjilcnehndmoaaa", sum := "011f25b3dd7927ae4c3d7d505dec5961c4c2abda230d5641262b2b1e3168ee4e", func := "loop.example/openissues/laws.FnExactLeftBy", spec := "fnExactLeftBy", inPlace := ["internal/bytealg.IndexByteString"], unfollowed := true, recurses := true, apart := false, narrowed := true }
def FnExactLeftByUptoSaid : Prop := fnExactLeftByUptoRow.holds Try.pinned (OpenSpec.upto fnExactLeftBySpec)

/-- 'laws.FnExactNeutral', WHERE WHAT IT READS IS OF BULK AT MOST 1048576: true; the input reads as it did. -/
def fnExactNeutralUptoRow : OpenClaim := { program := "ytjilcnehndmoaaa", sum := "011f25b3dd7927ae4c3d7d505dec5961c4c2abda230d5641262b2b1e3168ee4e", func := "loop.example/openissues/laws.FnExactNeutral", spec := "fnExactNeutral", inPlace := ["internal/bytealg.IndexByteString"], unfollowed := true, recurses := true, apart := false, narrowed := true }
def FnExactNeutralUptoSaid : Prop := fnExactNeutralUptoRow.holds Try.pinned (OpenSpec.upto fnExactNeutralSpec)

end Rows
end Go.Proofs.Ytjilcnehndmoaaa
