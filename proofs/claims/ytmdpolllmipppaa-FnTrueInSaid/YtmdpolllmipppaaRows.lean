/-
  No cell of these rows narrows 'for every input' (looked for: loops, veiled, ifaces, maps, wideKeys, modest, calm, conditions, laid).
  DERIVED. THE GIVEN ROWS OF THIS SEAT. 12 by the template 'for every input the law returns true; each argument reads behind the call as it read before'; 0 by the template 'total and deterministic' (their statements: YtmdpolllmipppaaTotals.lean).
  GIVEN WITH THE SEED: the statements are not yours to turn. If you find one false, say at which input.
  Laid BY PROGRAM, IN A SANDBOX (cutbox-rows.mjs): the forced cells as the released guide's own fill.sh prints them over the translation d2644d9340ba4cb4… (all of the seat's roots in one cut). By AI agents, Wed Nov 11 2026. No macro, syntax, notation, axiom, sorry.
-/
import Derived.Test.YtmdpolllmipppaaChecked
import GoSem.Claim
import GoSem.ClaimJoined
import GoSem.ClaimMapViews
import Derived.JoinedTies
import Derived.KernelRfl
namespace Go.Proofs.Ytmdpolllmipppaa
/- THE CELL 'sum', in the pinned program and in every row, IS THE sha256 OF THE DUMP (.gsa) THAT YtmdpolllmipppaaProg.lean LOADS. Nothing in Lean hashes anything: it is a label: what it is worth is what the hold of that sum in a sandbox is worth. -/
noncomputable def Try.pinned : Pinned := { name := "ytmdpolllmipppaa", sum := "d2644d9340ba4cb45cdc453e9ac03d3bb664cae32a5e66cb61e79e4f2590c083", checked := Try.checked }
namespace Rows
def none {H : Type} : Left H := { results := [], args := [] }

/-- 'laws.FnIssueOf': WHATEVER THE INPUT: true; the input reads as it did. -/
def fnIssueOfSpec : ChangeSpec := { name := "fnIssueOf", fn := fun _ => fun
  | [d] => { results := [.lit (.bool true)], args := [d] }
  | _ => none }
def fnIssueOfRow : OpenClaim := { program := "ytmdpolllmipppaa", sum := "d2644d9340ba4cb45cdc453e9ac03d3bb664cae32a5e66cb61e79e4f2590c083", func := "loop.example/openissues/laws.FnIssueOf", spec := "fnIssueOf", inPlace := ["internal/bytealg.IndexByteString"], unfollowed := true, recurses := true, apart := false }
def FnIssueOfSaid : Prop := fnIssueOfRow.holds Try.pinned (OpenSpec.ofChange fnIssueOfSpec)

/-- ITS FALSE NEIGHBOUR: 'it returns false'. Refute it at one input. -/
def fnIssueOfWrong : ChangeSpec := { name := "fnIssueOf", fn := fun _ => fun
  | [d] => { results := [.lit (.bool false)], args := [d] }
  | _ => none }
def FnIssueOfWrongFalsely : Prop := fnIssueOfRow.holds Try.pinned (OpenSpec.ofChange fnIssueOfWrong)

/-- 'laws.FnExactIssueOf': WHATEVER THE INPUT: true; the input reads as it did. -/
def fnExactIssueOfSpec : ChangeSpec := { name := "fnExactIssueOf", fn := fun _ => fun
  | [d1, d2] => { results := [.lit (.bool true)], args := [d1, d2] }
  | _ => none }
def fnExactIssueOfRow : OpenClaim := { program := "ytmdpolllmipppaa", sum := "d2644d9340ba4cb45cdc453e9ac03d3bb664cae32a5e66cb61e79e4f2590c083", func := "loop.example/openissues/laws.FnExactIssueOf", spec := "fnExactIssueOf", inPlace := ["internal/bytealg.IndexByteString"], unfollowed := true, recurses := true, apart := false }
def FnExactIssueOfSaid : Prop := fnExactIssueOfRow.holds Try.pinned (OpenSpec.ofChange fnExactIssueOfSpec)

/-- ITS FALSE NEIGHBOUR: 'it returns false'. Refute it at one input. -/
def fnExactIssueOfWrong : ChangeSpec := { name := "fnExactIssueOf", fn := fun _ => fun
  | [d1, d2] => { results := [.lit (.bool false)], args := [d1, d2] }
  | _ => none }
def FnExactIssueOfWrongFalsely : Prop := fnExactIssueOfRow.holds Try.pinned (OpenSpec.ofChange fnExactIssueOfWrong)

/-- 'laws.FnSupports': WHATEVER THE INPUT: true; the input reads as it did. -/
def fnSupportsSpec : ChangeSpec := { name := "fnSupports", fn := fun _ => fun
  | [d1, d2] => { results := [.lit (.bool true)], args := [d1, d2] }
  | _ => none }
def fnSupportsRow : OpenClaim := { program := "ytmdpolllmipppaa", sum := "d2644d9340ba4cb45cdc453e9ac03d3bb664cae32a5e66cb61e79e4f2590c083", func := "loop.example/openissues/laws.FnSupports", spec := "fnSupports", inPlace := ["internal/bytealg.IndexByteString"], unfollowed := true, recurses := true, apart := false }
def FnSupportsSaid : Prop := fnSupportsRow.holds Try.pinned (OpenSpec.ofChange fnSupportsSpec)

/-- ITS FALSE NEIGHBOUR: 'it returns false'. Refute it at one input. -/
def fnSupportsWrong : ChangeSpec := { name := "fnSupports", fn := fun _ => fun
  | [d1, d2] => { results := [.lit (.bool false)], args := [d1, d2] }
  | _ => none }
def FnSupportsWrongFalsely : Prop := fnSupportsRow.holds Try.pinned (OpenSpec.ofChange fnSupportsWrong)

/-- 'laws.FnExactSupports': WHATEVER THE INPUT: true; the input reads as it did. -/
def fnExactSupportsSpec : ChangeSpec := { name := "fnExactSupports", fn := fun _ => fun
  | [d1, d2, d3] => { results := [.lit (.bool true)], args := [d1, d2, d3] }
  | _ => none }
def fnExactSupportsRow : OpenClaim := { program := "ytmdpolllmipppaa", sum := "d2644d9340ba4cb45cdc453e9ac03d3bb664cae32a5e66cb61e79e4f2590c083", func := "loop.example/openissues/laws.FnExactSupports", spec := "fnExactSupports", inPlace := ["internal/bytealg.IndexByteString"], unfollowed := true, recurses := true, apart := false }
def FnExactSupportsSaid : Prop := fnExactSupportsRow.holds Try.pinned (OpenSpec.ofChange fnExactSupportsSpec)

/-- ITS FALSE NEIGHBOUR: 'it returns false'. Refute it at one input. -/
def fnExactSupportsWrong : ChangeSpec := { name := "fnExactSupports", fn := fun _ => fun
  | [d1, d2, d3] => { results := [.lit (.bool false)], args := [d1, d2, d3] }
  | _ => none }
def FnExactSupportsWrongFalsely : Prop := fnExactSupportsRow.holds Try.pinned (OpenSpec.ofChange fnExactSupportsWrong)

/-- 'laws.FnPlainOk': WHATEVER THE INPUT: true; the input reads as it did. -/
def fnPlainOkSpec : ChangeSpec := { name := "fnPlainOk", fn := fun _ => fun
  | [d] => { results := [.lit (.bool true)], args := [d] }
  | _ => none }
def fnPlainOkRow : OpenClaim := { program := "ytmdpolllmipppaa", sum := "d2644d9340ba4cb45cdc453e9ac03d3bb664cae32a5e66cb61e79e4f2590c083", func := "loop.example/openissues/laws.FnPlainOk", spec := "fnPlainOk", inPlace := ["internal/bytealg.IndexByteString", "internal/bytealg.IndexString"], unfollowed := true, recurses := true, named := ["internal/bytealg.MaxLen"], apart := false }
def FnPlainOkSaid : Prop := fnPlainOkRow.holds Try.pinned (OpenSpec.ofChange fnPlainOkSpec)

/-- ITS FALSE NEIGHBOUR: 'it returns false'. Refute it at one input. -/
def fnPlainOkWrong : ChangeSpec := { name := "fnPlainOk", fn := fun _ => fun
  | [d] => { results := [.lit (.bool false)], args := [d] }
  | _ => none }
def FnPlainOkWrongFalsely : Prop := fnPlainOkRow.holds Try.pinned (OpenSpec.ofChange fnPlainOkWrong)

/-- 'laws.FnExactPlainOk': WHATEVER THE INPUT: true; the input reads as it did. -/
def fnExactPlainOkSpec : ChangeSpec := { name := "fnExactPlainOk", fn := fun _ => fun
  | [d1, d2] => { results := [.lit (.bool true)], args := [d1, d2] }
  | _ => none }
def fnExactPlainOkRow : OpenClaim := { program := "ytmdpolllmipppaa", sum := "d2644d9340ba4cb45cdc453e9ac03d3bb664cae32a5e66cb61e79e4f2590c083", func := "loop.example/openissues/laws.FnExactPlainOk", spec := "fnExactPlainOk", inPlace := ["internal/bytealg.IndexByteString", "internal/bytealg.IndexString"], unfollowed := true, recurses := true, named := ["internal/bytealg.MaxLen"], apart := false }
def FnExactPlainOkSaid : Prop := fnExactPlainOkRow.holds Try.pinned (OpenSpec.ofChange fnExactPlainOkSpec)

/-- ITS FALSE NEIGHBOUR: 'it returns false'. Refute it at one input. -/
def fnExactPlainOkWrong : ChangeSpec := { name := "fnExactPlainOk", fn := fun _ => fun
  | [d1, d2] => { results := [.lit (.bool false)], args := [d1, d2] }
  | _ => none }
def FnExactPlainOkWrongFalsely : Prop := fnExactPlainOkRow.holds Try.pinned (OpenSpec.ofChange fnExactPlainOkWrong)

/-- 'laws.FnTrueIn': WHATEVER THE INPUT: true; the input reads as it did. -/
def fnTrueInSpec : ChangeSpec := { name := "fnTrueIn", fn := fun _ => fun
  | [d] => { results := [.lit (.bool true)], args := [d] }
  | _ => none }
def fnTrueInRow : OpenClaim := { program := "ytmdpolllmipppaa", sum := "d2644d9340ba4cb45cdc453e9ac03d3bb664cae32a5e66cb61e79e4f2590c083", func := "loop.example/openissues/laws.FnTrueIn", spec := "fnTrueIn", inPlace := ["internal/bytealg.IndexByteString"], unfollowed := true, recurses := true, apart := false }
def FnTrueInSaid : Prop := fnTrueInRow.holds Try.pinned (OpenSpec.ofChange fnTrueInSpec)

/-- ITS FALSE NEIGHBOUR: 'it returns false'. Refute it at one input. -/
def fnTrueInWrong : ChangeSpec := { name := "fnTrueIn", fn := fun _ => fun
  | [d] => { results := [.lit (.bool false)], args := [d] }
  | _ => none }
def FnTrueInWrongFalsely : Prop := fnTrueInRow.holds Try.pinned (OpenSpec.ofChange fnTrueInWrong)

/-- 'laws.FnExactTrueIn': WHATEVER THE INPUT: true; the input reads as it did. -/
def fnExactTrueInSpec : ChangeSpec := { name := "fnExactTrueIn", fn := fun _ => fun
  | [d1, d2] => { results := [.lit (.bool true)], args := [d1, d2] }
  | _ => none }
def fnExactTrueInRow : OpenClaim := { program := "ytmdpolllmipppaa", sum := "d2644d9340ba4cb45cdc453e9ac03d3bb664cae32a5e66cb61e79e4f2590c083", func := "loop.example/openissues/laws.FnExactTrueIn", spec := "fnExactTrueIn", inPlace := ["internal/bytealg.IndexByteString"], unfollowed := true, recurses := true, apart := false }
def FnExactTrueInSaid : Prop := fnExactTrueInRow.holds Try.pinned (OpenSpec.ofChange fnExactTrueInSpec)

/-- ITS FALSE NEIGHBOUR: 'it returns false'. Refute it at one input. -/
def fnExactTrueInWrong : ChangeSpec := { name := "fnExactTrueIn", fn := fun _ => fun
  | [d1, d2] => { results := [.lit (.bool false)], args := [d1, d2] }
  | _ => none }
def FnExactTrueInWrongFalsely : Prop := fnExactTrueInRow.holds Try.pinned (OpenSpec.ofChange fnExactTrueInWrong)

/-- 'laws.FnEntailsOf': WHATEVER THE INPUT: true; the input reads as it did. -/
def fnEntailsOfSpec : ChangeSpec := { name := "fnEntailsOf", fn := fun _ => fun
  | [d] => { results := [.lit (.bool true)], args := [d] }
  | _ => none }
def fnEntailsOfRow : OpenClaim := { program := "ytmdpolllmipppaa", sum := "d2644d9340ba4cb45cdc453e9ac03d3bb664cae32a5e66cb61e79e4f2590c083", func := "loop.example/openissues/laws.FnEntailsOf", spec := "fnEntailsOf", inPlace := ["internal/bytealg.IndexByteString"], unfollowed := true, recurses := true, apart := false }
def FnEntailsOfSaid : Prop := fnEntailsOfRow.holds Try.pinned (OpenSpec.ofChange fnEntailsOfSpec)

/-- ITS FALSE NEIGHBOUR: 'it returns false'. Refute it at one input. -/
def fnEntailsOfWrong : ChangeSpec := { name := "fnEntailsOf", fn := fun _ => fun
  | [d] => { results := [.lit (.bool false)], args := [d] }
  | _ => none }
def FnEntailsOfWrongFalsely : Prop := fnEntailsOfRow.holds Try.pinned (OpenSpec.ofChange fnEntailsOfWrong)

/-- 'laws.FnExactEntailsOf': WHATEVER THE INPUT: true; the input reads as it did. -/
def fnExactEntailsOfSpec : ChangeSpec := { name := "fnExactEntailsOf", fn := fun _ => fun
  | [d1, d2, d3] => { results := [.lit (.bool true)], args := [d1, d2, d3] }
  | _ => none }
def fnExactEntailsOfRow : OpenClaim := { program := "ytmdpolllmipppaa", sum := "d2644d9340ba4cb45cdc453e9ac03d3bb664cae32a5e66cb61e79e4f2590c083", func := "loop.example/openissues/laws.FnExactEntailsOf", spec := "fnExactEntailsOf", inPlace := ["internal/bytealg.IndexByteString"], unfollowed := true, recurses := true, apart := false }
def FnExactEntailsOfSaid : Prop := fnExactEntailsOfRow.holds Try.pinned (OpenSpec.ofChange fnExactEntailsOfSpec)

/-- ITS FALSE NEIGHBOUR: 'it returns false'. Refute it at one input. -/
def fnExactEntailsOfWrong : ChangeSpec := { name := "fnExactEntailsOf", fn := fun _ => fun
  | [d1, d2, d3] => { results := [.lit (.bool false)], args := [d1, d2, d3] }
  | _ => none }
def FnExactEntailsOfWrongFalsely : Prop := fnExactEntailsOfRow.holds Try.pinned (OpenSpec.ofChange fnExactEntailsOfWrong)

/-- 'laws.FnIssuesOf': WHATEVER THE INPUT: true; the input reads as it did. -/
def fnIssuesOfSpec : ChangeSpec := { name := "fnIssuesOf", fn := fun _ => fun
  | [d] => { results := [.lit (.bool true)], args := [d] }
  | _ => none }
def fnIssuesOfRow : OpenClaim := { program := "ytmdpolllmipppaa", sum := "d2644d9340ba4cb45cdc453e9ac03d3bb664cae32a5e66cb61e79e4f2590c083", func := "loop.example/openissues/laws.FnIssuesOf", spec := "fnIssuesOf", unfollowed := true, recurses := true, apart := false }
def FnIssuesOfSaid : Prop := fnIssuesOfRow.holds Try.pinned (OpenSpec.ofChange fnIssuesOfSpec)

/-- ITS FALSE NEIGHBOUR: 'it returns false'. Refute it at one input. -/
def fnIssuesOfWrong : ChangeSpec := { name := "fnIssuesOf", fn := fun _ => fun
  | [d] => { results := [.lit (.bool false)], args := [d] }
  | _ => none }
def FnIssuesOfWrongFalsely : Prop := fnIssuesOfRow.holds Try.pinned (OpenSpec.ofChange fnIssuesOfWrong)

/-- 'laws.FnExactIssuesOf': WHATEVER THE INPUT: true; the input reads as it did. -/
def fnExactIssuesOfSpec : ChangeSpec := { name := "fnExactIssuesOf", fn := fun _ => fun
  | [d] => { results := [.lit (.bool true)], args := [d] }
  | _ => none }
def fnExactIssuesOfRow : OpenClaim := { program := "ytmdpolllmipppaa", sum := "d2644d9340ba4cb45cdc453e9ac03d3bb664cae32a5e66cb61e79e4f2590c083", func := "loop.example/openissues/laws.FnExactIssuesOf", spec := "fnExactIssuesOf", unfollowed := true, recurses := true, apart := false }
def FnExactIssuesOfSaid : Prop := fnExactIssuesOfRow.holds Try.pinned (OpenSpec.ofChange fnExactIssuesOfSpec)

/-- ITS FALSE NEIGHBOUR: 'it returns false'. Refute it at one input. -/
def fnExactIssuesOfWrong : ChangeSpec := { name := "fnExactIssuesOf", fn := fun _ => fun
  | [d] => { results := [.lit (.bool false)], args := [d] }
  | _ => none }
def FnExactIssuesOfWrongFalsely : Prop := fnExactIssuesOfRow.holds Try.pinned (OpenSpec.ofChange fnExactIssuesOfWrong)

/- THE SECOND FORM. 'bulk': how many values and letters a reading holds, each counted each time it is reached (what is shared counts as often as it is met; a slice's spare places count too). A statement '..UptoSaid' is the law's where the arguments, and the package variables that the reading takes, are together of bulk at most 1048576: NARROWER than '..Said'. Prove '..Said' where nothing that the law and all that it calls make is longer than what came in: it says more and counts as full. Else prove '..UptoSaid'. A law counts once. -/
mutual
def uptoBulk {H : Type} : DataW H → Nat
  | .lit (.string bytes) => bytes.length + 1
  | .lit _ => 1
  | .nil => 1
  | .ptr d => uptoBulk d + 1
  | .slice elems spare => uptoBulkAll elems + uptoBulkAll spare + 1
  | .agg parts => uptoBulkAll parts + 1
  | .iface _ d => uptoBulk d + 1
  | .map entries => uptoBulkEntries entries + 1
  | .held _ => 1
def uptoBulkAll {H : Type} : List (DataW H) → Nat
  | [] => 0
  | d :: r => uptoBulk d + uptoBulkAll r
def uptoBulkEntries {H : Type} : List (Lit × DataW H) → Nat
  | [] => 0
  | x :: r => uptoBulkEntry x + uptoBulkEntries r
def uptoBulkEntry {H : Type} : Lit × DataW H → Nat
  | (.string bytes, d) => bytes.length + uptoBulk d + 1
  | (_, d) => uptoBulk d + 1
 end
def uptoSmall : (H : Type) → List (DataW H) → Bool := fun _ ds => decide (uptoBulkAll ds ≤ 1048576)
def OpenSpec.upto (s : _root_.Go.ChangeSpec) : _root_.Go.OpenSpec := { _root_.Go.OpenSpec.ofChange s with cond := some uptoSmall }

/-- 'laws.FnIssueOf', WHERE WHAT IT READS IS OF BULK AT MOST 1048576: true; the input reads as it did. -/
def fnIssueOfUptoRow : OpenClaim := { program := "ytmdpolllmipppaa", sum := "d2644d9340ba4cb45cdc453e9ac03d3bb664cae32a5e66cb61e79e4f2590c083", func := "loop.example/openissues/laws.FnIssueOf", spec := "fnIssueOf", inPlace := ["internal/bytealg.IndexByteString"], unfollowed := true, recurses := true, apart := false, narrowed := true }
def FnIssueOfUptoSaid : Prop := fnIssueOfUptoRow.holds Try.pinned (OpenSpec.upto fnIssueOfSpec)

/-- 'laws.FnExactIssueOf', WHERE WHAT IT READS IS OF BULK AT MOST 1048576: true; the input reads as it did. -/
def fnExactIssueOfUptoRow : OpenClaim := { program := "ytmdpolllmipppaa", sum := "d2644d9340ba4cb45cdc453e9ac03d3bb664cae32a5e66cb61e79e4f2590c083", func := "loop.example/openissues/laws.FnExactIssueOf", spec := "fnExactIssueOf", inPlace := ["internal/bytealg.IndexByteString"], unfollowed := true, recurses := true, apart := false, narrowed := true }
def FnExactIssueOfUptoSaid : Prop := fnExactIssueOfUptoRow.holds Try.pinned (OpenSpec.upto fnExactIssueOfSpec)

/-- 'laws.FnSupports', WHERE WHAT IT READS IS OF BULK AT MOST 1048576: true; the input reads as it did. -/
def fnSupportsUptoRow : OpenClaim := { program := "ytmdpolllmipppaa", sum := "d2644d9340ba4cb45cdc453e9ac03d3bb664cae32a5e66cb61e79e4f2590c083", func := "loop.example/openissues/laws.FnSupports", spec := "fnSupports", inPlace := ["internal/bytealg.IndexByteString"], unfollowed := true, recurses := true, apart := false, narrowed := true }
def FnSupportsUptoSaid : Prop := fnSupportsUptoRow.holds Try.pinned (OpenSpec.upto fnSupportsSpec)

/-- 'laws.FnExactSupports', WHERE WHAT IT READS IS OF BULK AT MOST 1048576: true; the input reads as it did. -/
def fnExactSupportsUptoRow : OpenClaim := { program := "ytmdpolllmipppaa", sum := "d2644d9340ba4cb45cdc453e9ac03d3bb664cae32a5e66cb61e79e4f2590c083", func := "loop.example/openissues/laws.FnExactSupports", spec := "fnExactSupports", inPlace := ["internal/bytealg.IndexByteString"], unfollowed := true, recurses := true, apart := false, narrowed := true }
def FnExactSupportsUptoSaid : Prop := fnExactSupportsUptoRow.holds Try.pinned (OpenSpec.upto fnExactSupportsSpec)

/-- 'laws.FnPlainOk', WHERE WHAT IT READS IS OF BULK AT MOST 1048576: true; the input reads as it did. -/
def fnPlainOkUptoRow : OpenClaim := { program := "ytmdpolllmipppaa", sum := "d2644d9340ba4cb45cdc453e9ac03d3bb664cae32a5e66cb61e79e4f2590c083", func := "loop.example/openissues/laws.FnPlainOk", spec := "fnPlainOk", inPlace := ["internal/bytealg.IndexByteString", "internal/bytealg.IndexString"], unfollowed := true, recurses := true, named := ["internal/bytealg.MaxLen"], apart := false, narrowed := true }
def FnPlainOkUptoSaid : Prop := fnPlainOkUptoRow.holds Try.pinned (OpenSpec.upto fnPlainOkSpec)

/-- 'laws.FnExactPlainOk', WHERE WHAT IT READS IS OF BULK AT MOST 1048576: true; the input reads as it did. -/
def fnExactPlainOkUptoRow : OpenClaim := { program := "ytmdpolllmipppaa", sum := "d2644d9340ba4cb45cdc453e9ac03d3bb664cae32a5e66cb61e79e4f2590c083", func := "loop.example/openissues/laws.FnExactPlainOk", spec := "fnExactPlainOk", inPlace := ["internal/bytealg.IndexByteString", "internal/bytealg.IndexString"], unfollowed := true, recurses := true, named := ["internal/bytealg.MaxLen"], apart := false, narrowed := true }
def FnExactPlainOkUptoSaid : Prop := fnExactPlainOkUptoRow.holds Try.pinned (OpenSpec.upto fnExactPlainOkSpec)

/-- 'laws.FnTrueIn', WHERE WHAT IT READS IS OF BULK AT MOST 1048576: true; the input reads as it did. -/
def fnTrueInUptoRow : OpenClaim := { program := "ytmdpolllmipppaa", sum := "d2644d9340ba4cb45cdc453e9ac03d3bb664cae32a5e66cb61e79e4f2590c083", func := "loop.example/openissues/laws.FnTrueIn", spec := "fnTrueIn", inPlace := ["internal/bytealg.IndexByteString"], unfollowed := true, recurses := true, apart := false, narrowed := true }
def FnTrueInUptoSaid : Prop := fnTrueInUptoRow.holds Try.pinned (OpenSpec.upto fnTrueInSpec)

/-- 'laws.FnExactTrueIn', WHERE WHAT IT READS IS OF BULK AT MOST 1048576: true; the input reads as it did. -/
def fnExactTrueInUptoRow : OpenClaim := { program := "ytmdpolllmipppaa", sum := "d2644d9340ba4cb45cdc453e9ac03d3bb664cae32a5e66cb61e79e4f2590c083", func := "loop.example/openissues/laws.FnExactTrueIn", spec := "fnExactTrueIn", inPlace := ["internal/bytealg.IndexByteString"], unfollowed := true, recurses := true, apart := false, narrowed := true }
def FnExactTrueInUptoSaid : Prop := fnExactTrueInUptoRow.holds Try.pinned (OpenSpec.upto fnExactTrueInSpec)

/-- 'laws.FnEntailsOf', WHERE WHAT IT READS IS OF BULK AT MOST 1048576: true; the input reads as it did. -/
def fnEntailsOfUptoRow : OpenClaim := { program := "ytmdpolllmipppaa", sum := "d2644d9340ba4cb45cdc453e9ac03d3bb664cae32a5e66cb61e79e4f2590c083", func := "loop.example/openissues/laws.FnEntailsOf", spec := "fnEntailsOf", inPlace := ["internal/bytealg.IndexByteString"], unfollowed := true, recurses := true, apart := false, narrowed := true }
def FnEntailsOfUptoSaid : Prop := fnEntailsOfUptoRow.holds Try.pinned (OpenSpec.upto fnEntailsOfSpec)

/-- 'laws.FnExactEntailsOf', WHERE WHAT IT READS IS OF BULK AT MOST 1048576: true; the input reads as it did. -/
def fnExactEntailsOfUptoRow : OpenClaim := { program := "ytmdpolllmipppaa", sum := "d2644d9340ba4cb45cdc453e9ac03d3bb664cae32a5e66cb61e79e4f2590c083", func := "loop.example/openissues/laws.FnExactEntailsOf", spec := "fnExactEntailsOf", inPlace := ["internal/bytealg.IndexByteString"], unfollowed := true, recurses := true, apart := false, narrowed := true }
def FnExactEntailsOfUptoSaid : Prop := fnExactEntailsOfUptoRow.holds Try.pinned (OpenSpec.upto fnExactEntailsOfSpec)

/-- 'laws.FnIssuesOf', WHERE WHAT IT READS IS OF BULK AT MOST 1048576: true; the input reads as it did. -/
def fnIssuesOfUptoRow : OpenClaim := { program := "ytmdpolllmipppaa", sum := "d2644d9340ba4cb45cdc453e9ac03d3bb664cae32a5e66cb61e79e4f2590c083", func := "loop.example/openissues/laws.FnIssuesOf", spec := "fnIssuesOf", unfollowed := true, recurses := true, apart := false, narrowed := true }
def FnIssuesOfUptoSaid : Prop := fnIssuesOfUptoRow.holds Try.pinned (OpenSpec.upto fnIssuesOfSpec)

/-- 'laws.FnExactIssuesOf', WHERE WHAT IT READS IS OF BULK AT MOST 1048576: true; the input reads as it did. -/
def fnExactIssuesOfUptoRow : OpenClaim := { program := "ytmdpolllmipppaa", sum := "d2644d9340ba4cb45cdc453e9ac03d3bb664cae32a5e66cb61e79e4f2590c083", func := "loop.example/openissues/laws.FnExactIssuesOf", spec := "fnExactIssuesOf", unfollowed := true, recurses := true, apart := false, narrowed := true }
def FnExactIssuesOfUptoSaid : Prop := fnExactIssuesOfUptoRow.holds Try.pinned (OpenSpec.upto fnExactIssuesOfSpec)

end Rows
end Go.Proofs.Ytmdpolllmipppaa
