/-
  No cell of these rows narrows 'for every input' (looked for: loops, veiled, ifaces, maps, wideKeys, modest, calm, conditions, laid).
  DERIVED. THE GIVEN ROWS OF THIS SEAT. 4 by the template 'for every input the law returns true; each argument reads behind the call as it read before'; 0 by the template 'total and deterministic' (their statements: YtmdogidflaplkaaGreatTotals.lean).
  GIVEN WITH THE SEED: the statements are not yours to turn. If you find one false, say at which input.
  Laid BY PROGRAM, IN A SANDBOX (cutbox-rows.mjs): the forced cells as the released guide's own fill.sh prints them over the translation e18dd846919a378a… (all of the seat's roots in one cut). By AI agents, Wed Nov 11 2026. No macro, syntax, notation, axiom, sorry.
-/
import Derived.Test.YtmdogidflaplkaaGreatChecked
import GoSem.Claim
import GoSem.ClaimJoined
import GoSem.ClaimMapViews
import Derived.JoinedTies
import Derived.KernelRfl
namespace Go.Proofs.YtmdogidflaplkaaGreat
/- THE CELL 'sum', in the pinned program and in every row, IS THE sha256 OF THE DUMP (.gsa) THAT YtmdogidflaplkaaGreatProg.lean LOADS. Nothing in Lean hashes anything: it is a label: what it is worth is what the hold of that sum in a sandbox is worth. -/
noncomputable def Tryz.pinned : Pinned := { name := "ytmdogidflaplkaagreat", sum := "e18dd846919a378a25062082694103af2ca30689cd51ffc2a48419e2d67d29fa", checked := Tryz.checked }
namespace Rows
def none {H : Type} : Left H := { results := [], args := [] }

/-- 'laws.FnTalkDo': WHATEVER THE INPUT: true; the input reads as it did. -/
def fnTalkDoSpec : ChangeSpec := { name := "fnTalkDo", fn := fun _ => fun
  | [d] => { results := [.lit (.bool true)], args := [d] }
  | _ => none }
def fnTalkDoRow : OpenClaim := { program := "ytmdogidflaplkaagreat", sum := "e18dd846919a378a25062082694103af2ca30689cd51ffc2a48419e2d67d29fa", func := "loop.example/openissues/laws.FnTalkDo", spec := "fnTalkDo", inPlace := ["internal/bytealg.IndexByteString"], unfollowed := true, recurses := true, apart := false }
def FnTalkDoSaid : Prop := fnTalkDoRow.holds Tryz.pinned (OpenSpec.ofChange fnTalkDoSpec)

/-- ITS FALSE NEIGHBOUR: 'it returns false'. Refute it at one input. -/
def fnTalkDoWrong : ChangeSpec := { name := "fnTalkDo", fn := fun _ => fun
  | [d] => { results := [.lit (.bool false)], args := [d] }
  | _ => none }
def FnTalkDoWrongFalsely : Prop := fnTalkDoRow.holds Tryz.pinned (OpenSpec.ofChange fnTalkDoWrong)

/-- 'laws.FnTalkRun': WHATEVER THE INPUT: true; the input reads as it did. -/
def fnTalkRunSpec : ChangeSpec := { name := "fnTalkRun", fn := fun _ => fun
  | [d] => { results := [.lit (.bool true)], args := [d] }
  | _ => none }
def fnTalkRunRow : OpenClaim := { program := "ytmdogidflaplkaagreat", sum := "e18dd846919a378a25062082694103af2ca30689cd51ffc2a48419e2d67d29fa", func := "loop.example/openissues/laws.FnTalkRun", spec := "fnTalkRun", inPlace := ["internal/bytealg.IndexByteString"], unfollowed := true, recurses := true, apart := false }
def FnTalkRunSaid : Prop := fnTalkRunRow.holds Tryz.pinned (OpenSpec.ofChange fnTalkRunSpec)

/-- ITS FALSE NEIGHBOUR: 'it returns false'. Refute it at one input. -/
def fnTalkRunWrong : ChangeSpec := { name := "fnTalkRun", fn := fun _ => fun
  | [d] => { results := [.lit (.bool false)], args := [d] }
  | _ => none }
def FnTalkRunWrongFalsely : Prop := fnTalkRunRow.holds Tryz.pinned (OpenSpec.ofChange fnTalkRunWrong)

/-- 'laws.FnExactTalkDo': WHATEVER THE INPUT: true; the input reads as it did. -/
def fnExactTalkDoSpec : ChangeSpec := { name := "fnExactTalkDo", fn := fun _ => fun
  | [d1, d2] => { results := [.lit (.bool true)], args := [d1, d2] }
  | _ => none }
def fnExactTalkDoRow : OpenClaim := { program := "ytmdogidflaplkaagreat", sum := "e18dd846919a378a25062082694103af2ca30689cd51ffc2a48419e2d67d29fa", func := "loop.example/openissues/laws.FnExactTalkDo", spec := "fnExactTalkDo", inPlace := ["internal/bytealg.IndexByteString"], unfollowed := true, recurses := true, apart := false }
def FnExactTalkDoSaid : Prop := fnExactTalkDoRow.holds Tryz.pinned (OpenSpec.ofChange fnExactTalkDoSpec)

/-- ITS FALSE NEIGHBOUR: 'it returns false'. Refute it at one input. -/
def fnExactTalkDoWrong : ChangeSpec := { name := "fnExactTalkDo", fn := fun _ => fun
  | [d1, d2] => { results := [.lit (.bool false)], args := [d1, d2] }
  | _ => none }
def FnExactTalkDoWrongFalsely : Prop := fnExactTalkDoRow.holds Tryz.pinned (OpenSpec.ofChange fnExactTalkDoWrong)

/-- 'laws.FnExactTalkRun': WHATEVER THE INPUT: true; the input reads as it did. -/
def fnExactTalkRunSpec : ChangeSpec := { name := "fnExactTalkRun", fn := fun _ => fun
  | [d1, d2] => { results := [.lit (.bool true)], args := [d1, d2] }
  | _ => none }
def fnExactTalkRunRow : OpenClaim := { program := "ytmdogidflaplkaagreat", sum := "e18dd846919a378a25062082694103af2ca30689cd51ffc2a48419e2d67d29fa", func := "loop.example/openissues/laws.FnExactTalkRun", spec := "fnExactTalkRun", inPlace := ["internal/bytealg.IndexByteString"], unfollowed := true, recurses := true, apart := false }
def FnExactTalkRunSaid : Prop := fnExactTalkRunRow.holds Tryz.pinned (OpenSpec.ofChange fnExactTalkRunSpec)

/-- ITS FALSE NEIGHBOUR: 'it returns false'. Refute it at one input. -/
def fnExactTalkRunWrong : ChangeSpec := { name := "fnExactTalkRun", fn := fun _ => fun
  | [d1, d2] => { results := [.lit (.bool false)], args := [d1, d2] }
  | _ => none }
def FnExactTalkRunWrongFalsely : Prop := fnExactTalkRunRow.holds Tryz.pinned (OpenSpec.ofChange fnExactTalkRunWrong)

/- THE SECOND FORM. 'bulk': how many values and letters a reading holds, each counted each time it is reached (what is shared counts as often as it is met; a slice's spare places count too). A statement '..UptoSaid' is the law's where the arguments, and the package variables that the reading takes, are together of bulk at most 1048576: NARROWER than '..Said'. Prove '..Said' where nothing that the law and all that it calls make is longer than what came in: it says more and counts as full. Else prove '..UptoSaid'. A law counts once. -/
mutual
def uptoBulk {H : Type} : DataW H → Nat
  | .lit (.string bytes) => bytes.length + 1
  | .lit _ => 1
  | .nil => 1
  | .ptr d => uptoBulk d + 1
  | .slice elems spare => uptoBulkAll elems + uptoBulkAll spare + 1
  | .agg parts => uptoBulkAll parts + 1
  | .iface _ d => uptoBulk d + 1
  | .map entries => uptoBulkEntries entries + 1
  | .held _ => 1
def uptoBulkAll {H : Type} : List (DataW H) → Nat
  | [] => 0
  | d :: r => uptoBulk d + uptoBulkAll r
def uptoBulkEntries {H : Type} : List (Lit × DataW H) → Nat
  | [] => 0
  | x :: r => uptoBulkEntry x + uptoBulkEntries r
def uptoBulkEntry {H : Type} : Lit × DataW H → Nat
  | (.string bytes, d) => bytes.length + uptoBulk d + 1
  | (_, d) => uptoBulk d + 1
 end
def uptoSmall : (H : Type) → List (DataW H) → Bool := fun _ ds => decide (uptoBulkAll ds ≤ 1048576)
def OpenSpec.upto (s : _root_.Go.ChangeSpec) : _root_.Go.OpenSpec := { _root_.Go.OpenSpec.ofChange s with cond := some uptoSmall }

/-- 'laws.FnTalkDo', WHERE WHAT IT READS IS OF BULK AT MOST 1048576: true; the input reads as it did. -/
def fnTalkDoUptoRow : OpenClaim := { program := "ytmdogidflaplkaagreat", sum := "e18dd846919a378a25062082694103af2ca30689cd51ffc2a48419e2d67d29fa", func := "loop.example/openissues/laws.FnTalkDo", spec := "fnTalkDo", inPlace := ["internal/bytealg.IndexByteString"], unfollowed := true, recurses := true, apart := false, narrowed := true }
def FnTalkDoUptoSaid : Prop := fnTalkDoUptoRow.holds Tryz.pinned (OpenSpec.upto fnTalkDoSpec)

/-- 'laws.FnTalkRun', WHERE WHAT IT READS IS OF BULK AT MOST 1048576: true; the input reads as it did. -/
def fnTalkRunUptoRow : OpenClaim := { program := "ytmdogidflaplkaagreat", sum := "e18dd846919a378a25062082694103af2ca30689cd51ffc2a48419e2d67d29fa", func := "loop.example/openissues/laws.FnTalkRun", spec := "fnTalkRun", inPlace := ["internal/bytealg.IndexByteString"], unfollowed := true, recurses := true, apart := false, narrowed := true }
def FnTalkRunUptoSaid : Prop := fnTalkRunUptoRow.holds Tryz.pinned (OpenSpec.upto fnTalkRunSpec)

/-- 'laws.FnExactTalkDo', WHERE WHAT IT READS IS OF BULK AT MOST 1048576: true; the input reads as it did. -/
def fnExactTalkDoUptoRow : OpenClaim := { program := "ytmdogidflaplkaagreat", sum := "e18dd846919a378a25062082694103af2ca30689cd51ffc2a48419e2d67d29fa", func := "loop.example/openissues/laws.FnExactTalkDo", spec := "fnExactTalkDo", inPlace := ["internal/bytealg.IndexByteString"], unfollowed := true, recurses := true, apart := false, narrowed := true }
def FnExactTalkDoUptoSaid : Prop := fnExactTalkDoUptoRow.holds Tryz.pinned (OpenSpec.upto fnExactTalkDoSpec)

/-- 'laws.FnExactTalkRun', WHERE WHAT IT READS IS OF BULK AT MOST 1048576: true; the input reads as it did. -/
def fnExactTalkRunUptoRow : OpenClaim := { program := "ytmdogidflaplkaagreat", sum := "e18dd846919a378a25062082694103af2ca30689cd51ffc2a48419e2d67d29fa", func := "loop.example/openissues/laws.FnExactTalkRun", spec := "fnExactTalkRun", inPlace := ["internal/bytealg.IndexByteString"], unfollowed := true, recurses := true, apart := false, narrowed := true }
def FnExactTalkRunUptoSaid : Prop := fnExactTalkRunUptoRow.holds Tryz.pinned (OpenSpec.upto fnExactTalkRunSpec)

end Rows
end Go.Proofs.YtmdogidflaplkaaGreat
