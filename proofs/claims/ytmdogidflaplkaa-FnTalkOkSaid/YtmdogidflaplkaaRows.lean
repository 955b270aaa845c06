/-
  No cell of these rows narrows 'for every input' (looked for: loops, veiled, ifaces, maps, wideKeys, modest, calm, conditions, laid).
  DERIVED. THE GIVEN ROWS OF THIS SEAT. 3 by the template 'for every input the law returns true; each argument reads behind the call as it read before'; 0 by the template 'total and deterministic' (their statements: YtmdogidflaplkaaTotals.lean).
  GIVEN WITH THE SEED: the statements are not yours to turn. If you find one false, say at which input.
  Laid BY PROGRAM, IN A SANDBOX (cutbox-rows.mjs): the forced cells as the released guide's own fill.sh prints them over the translation a7d9715a33c08b22… (all of the seat's roots in one cut). By AI agents, Wed Nov 11 2026. No macro, syntax, notation, axiom, sorry.
-/
import Derived.Test.YtmdogidflaplkaaChecked
import GoSem.Claim
import GoSem.ClaimJoined
import GoSem.ClaimMapViews
import Derived.JoinedTies
import Derived.KernelRfl
namespace Go.Proofs.Ytmdogidflaplkaa
/- THE CELL 'sum', in the pinned program and in every row, IS THE sha256 OF THE DUMP (.gsa) THAT YtmdogidflaplkaaProg.lean LOADS. Nothing in Lean hashes anything: it is a label: what it is worth is what the hold of that sum in a sandbox is worth. -/
noncomputable def Try.pinned : Pinned := { name := "ytmdogidflaplkaa", sum := "a7d9715a33c08b22643761f148ec49f90b556fe4c32add70260503962f6ba6b5", checked := Try.checked }
namespace Rows
def none {H : Type} : Left H := { results := [], args := [] }

/-- 'laws.FnTalkOk': WHATEVER THE INPUT: true; the input reads as it did. -/
def fnTalkOkSpec : ChangeSpec := { name := "fnTalkOk", fn := fun _ => fun
  | [d] => { results := [.lit (.bool true)], args := [d] }
  | _ => none }
def fnTalkOkRow : OpenClaim := { program := "ytmdogidflaplkaa", sum := "a7d9715a33c08b22643761f148ec49f90b556fe4c32add70260503962f6ba6b5", func := "loop.example/openissues/laws.FnTalkOk", spec := "fnTalkOk", inPlace := ["internal/bytealg.IndexByteString"], unfollowed := true, recurses := true, apart := false }
def FnTalkOkSaid : Prop := fnTalkOkRow.holds Try.pinned (OpenSpec.ofChange fnTalkOkSpec)

/-- ITS FALSE NEIGHBOUR: 'it returns false'. Refute it at one input. -/
def fnTalkOkWrong : ChangeSpec := { name := "fnTalkOk", fn := fun _ => fun
  | [d] => { results := [.lit (.bool false)], args := [d] }
  | _ => none }
def FnTalkOkWrongFalsely : Prop := fnTalkOkRow.holds Try.pinned (OpenSpec.ofChange fnTalkOkWrong)

/-- 'laws.FnTalkNew': WHATEVER THE INPUT: true; the input reads as it did. -/
def fnTalkNewSpec : ChangeSpec := { name := "fnTalkNew", fn := fun _ => fun
  | [d] => { results := [.lit (.bool true)], args := [d] }
  | _ => none }
def fnTalkNewRow : OpenClaim := { program := "ytmdogidflaplkaa", sum := "a7d9715a33c08b22643761f148ec49f90b556fe4c32add70260503962f6ba6b5", func := "loop.example/openissues/laws.FnTalkNew", spec := "fnTalkNew", inPlace := ["internal/bytealg.IndexByteString"], unfollowed := true, recurses := true, apart := false }
def FnTalkNewSaid : Prop := fnTalkNewRow.holds Try.pinned (OpenSpec.ofChange fnTalkNewSpec)

/-- ITS FALSE NEIGHBOUR: 'it returns false'. Refute it at one input. -/
def fnTalkNewWrong : ChangeSpec := { name := "fnTalkNew", fn := fun _ => fun
  | [d] => { results := [.lit (.bool false)], args := [d] }
  | _ => none }
def FnTalkNewWrongFalsely : Prop := fnTalkNewRow.holds Try.pinned (OpenSpec.ofChange fnTalkNewWrong)

/-- 'laws.FnExactTalkOk': WHATEVER THE INPUT: true; the input reads as it did. -/
def fnExactTalkOkSpec : ChangeSpec := { name := "fnExactTalkOk", fn := fun _ => fun
  | [d] => { results := [.lit (.bool true)], args := [d] }
  | _ => none }
def fnExactTalkOkRow : OpenClaim := { program := "ytmdogidflaplkaa", sum := "a7d9715a33c08b22643761f148ec49f90b556fe4c32add70260503962f6ba6b5", func := "loop.example/openissues/laws.FnExactTalkOk", spec := "fnExactTalkOk", inPlace := ["internal/bytealg.IndexByteString"], unfollowed := true, recurses := true, apart := false }
def FnExactTalkOkSaid : Prop := fnExactTalkOkRow.holds Try.pinned (OpenSpec.ofChange fnExactTalkOkSpec)

/-- ITS FALSE NEIGHBOUR: 'it returns false'. Refute it at one input. -/
def fnExactTalkOkWrong : ChangeSpec := { name := "fnExactTalkOk", fn := fun _ => fun
  | [d] => { results := [.lit (.bool false)], args := [d] }
  | _ => none }
def FnExactTalkOkWrongFalsely : Prop := fnExactTalkOkRow.holds Try.pinned (OpenSpec.ofChange fnExactTalkOkWrong)

/- THE SECOND FORM. 'bulk': how many values and letters a reading holds, each counted each time it is reached (what is shared counts as often as it is met; a slice's spare places count too). A statement '..UptoSaid' is the law's where the arguments, and the package variables that the reading takes, are together of bulk at most 1048576: NARROWER than '..Said'. Prove '..Said' where nothing that the law and all that it calls make is longer than what came in: it says more and counts as full. Else prove '..UptoSaid'. A law counts once. -/
mutual
def uptoBulk {H : Type} : DataW H → Nat
  | .lit (.string bytes) => bytes.length + 1
  | .lit _ => 1
  | .nil => 1
  | .ptr d => uptoBulk d + 1
  | .slice elems spare => uptoBulkAll elems + uptoBulkAll spare + 1
  | .agg parts => uptoBulkAll parts + 1
  | .iface _ d => uptoBulk d + 1
  | .map entries => uptoBulkEntries entries + 1
  | .held _ => 1
def uptoBulkAll {H : Type} : List (DataW H) → Nat
  | [] => 0
  | d :: r => uptoBulk d + uptoBulkAll r
def uptoBulkEntries {H : Type} : List (Lit × DataW H) → Nat
  | [] => 0
  | x :: r => uptoBulkEntry x + uptoBulkEntries r
def uptoBulkEntry {H : Type} : Lit × DataW H → Nat
  | (.string bytes, d) => bytes.length + uptoBulk d + 1
  | (_, d) => uptoBulk d + 1
 end
def uptoSmall : (H : Type) → List (DataW H) → Bool := fun _ ds => decide (uptoBulkAll ds ≤ 1048576)
def OpenSpec.upto (s : _root_.Go.ChangeSpec) : _root_.Go.OpenSpec := { _root_.Go.OpenSpec.ofChange s with cond := some uptoSmall }

/-- 'laws.FnTalkOk', WHERE WHAT IT READS IS OF BULK AT MOST 1048576: true; the input reads as it did. -/
def fnTalkOkUptoRow : OpenClaim := { program := "ytmdogidflaplkaa", sum := "a7d9715a33c08b22643761f148ec49f90b556fe4c32add70260503962f6ba6b5", func := "loop.example/openissues/laws.FnTalkOk", spec := "fnTalkOk", inPlace := ["internal/bytealg.IndexByteString"], unfollowed := true, recurses := true, apart := false, narrowed := true }
def FnTalkOkUptoSaid : Prop := fnTalkOkUptoRow.holds Try.pinned (OpenSpec.upto fnTalkOkSpec)

/-- 'laws.FnTalkNew', WHERE WHAT IT READS IS OF BULK AT MOST 1048576: true; the input reads as it did. -/
def fnTalkNewUptoRow : OpenClaim := { program := "ytmdogidflaplkaa", sum := "a7d9715a33c08b22643761f148ec49f90b556fe4c32add70260503962f6ba6b5", func := "loop.example/openissues/laws.FnTalkNew", spec := "fnTalkNew", inPlace := ["internal/bytealg.IndexByteString"], unfollowed := true, recurses := true, apart := false, narrowed := true }
def FnTalkNewUptoSaid : Prop := fnTalkNewUptoRow.holds Try.pinned (OpenSpec.upto fnTalkNewSpec)

/-- 'laws.FnExactTalkOk', WHERE WHAT IT READS IS OF BULK AT MOST 1048576: true; the input reads as it did. -/
def fnExactTalkOkUptoRow : OpenClaim := { program := "ytmdogidflaplkaa", sum := "a7d9715a33c08b22643761f148ec49f90b556fe4c32add70260503962f6ba6b5", func := "loop.example/openissues/laws.FnExactTalkOk", spec := "fnExactTalkOk", inPlace := ["internal/bytealg.IndexByteString"], unfollowed := true, recurses := true, apart := false, narrowed := true }
def FnExactTalkOkUptoSaid : Prop := fnExactTalkOkUptoRow.holds Try.pinned (OpenSpec.upto fnExactTalkOkSpec)

end Rows
end Go.Proofs.Ytmdogidflaplkaa
