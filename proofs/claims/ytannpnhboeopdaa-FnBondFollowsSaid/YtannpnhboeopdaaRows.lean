/-
  No cell of these rows narrows 'for every input' (looked for: loops, veiled, ifaces, maps, wideKeys, modest, calm, conditions, laid).
  DERIVED. THE GIVEN ROWS OF THIS SEAT. 11 by the template 'for every input the law returns true; each argument reads behind the call as it read before'; 0 by the template 'total and deterministic' (their statements: YtannpnhboeopdaaTotals.lean).
  GIVEN WITH THE SEED: the statements are not yours to turn. If you find one false, say at which input.
  Laid BY PROGRAM, IN A SANDBOX (cutbox-rows.mjs): the forced cells as the released guide's own fill.sh prints them over the translation f7131bcf11c5d6ad… (all of the seat's roots in one cut). By AI agents, Wed Nov 11 2026. No macro, syntax, notation, axiom, sorry.
-/
import Derived.Test.YtannpnhboeopdaaChecked
import GoSem.Claim
import GoSem.ClaimJoined
import GoSem.ClaimMapViews
import Derived.JoinedTies
import Derived.KernelRfl
namespace Go.Proofs.Ytannpnhboeopdaa
/- THE CELL 'sum', in the pinned program and in every row, IS THE sha256 OF THE DUMP (.gsa) THAT YtannpnhboeopdaaProg.lean LOADS. Nothing in Lean hashes anything: it is a label: what it is worth is what the hold of that sum in a sandbox is worth. -/
noncomputable def Try.pinned : Pinned := { name := "ytannpnhboeopdaa", sum := "f7131bcf11c5d6ad4370ffb001375c76f9992d55b9fbc00fb2a8088e2eafc00e", checked := Try.checked }
namespace Rows
def none {H : Type} : Left H := { results := [], args := [] }

/-- 'laws.FnBondOk': WHATEVER THE INPUT: true; the input reads as it did. -/
def fnBondOkSpec : ChangeSpec := { name := "fnBondOk", fn := fun _ => fun
  | [d] => { results := [.lit (.bool true)], args := [d] }
  | _ => none }
def fnBondOkRow : OpenClaim := { program := "ytannpnhboeopdaa", sum := "f7131bcf11c5d6ad4370ffb001375c76f9992d55b9fbc00fb2a8088e2eafc00e", func := "loop.example/openissues/laws.FnBondOk", spec := "fnBondOk", plainKeys := false, apart := false }
def FnBondOkSaid : Prop := fnBondOkRow.holds Try.pinned (OpenSpec.ofChange fnBondOkSpec)

/-- ITS FALSE NEIGHBOUR: 'it returns false'. Refute it at one input. -/
def fnBondOkWrong : ChangeSpec := { name := "fnBondOk", fn := fun _ => fun
  | [d] => { results := [.lit (.bool false)], args := [d] }
  | _ => none }
def FnBondOkWrongFalsely : Prop := fnBondOkRow.holds Try.pinned (OpenSpec.ofChange fnBondOkWrong)

/-- 'laws.FnClosedBy': WHATEVER THE INPUT: true; the input reads as it did. -/
def fnClosedBySpec : ChangeSpec := { name := "fnClosedBy", fn := fun _ => fun
  | [d] => { results := [.lit (.bool true)], args := [d] }
  | _ => none }
def fnClosedByRow : OpenClaim := { program := "ytannpnhboeopdaa", sum := "f7131bcf11c5d6ad4370ffb001375c76f9992d55b9fbc00fb2a8088e2eafc00e", func := "loop.example/openissues/laws.FnClosedBy", spec := "fnClosedBy", plainKeys := false, apart := false }
def FnClosedBySaid : Prop := fnClosedByRow.holds Try.pinned (OpenSpec.ofChange fnClosedBySpec)

/-- ITS FALSE NEIGHBOUR: 'it returns false'. Refute it at one input. -/
def fnClosedByWrong : ChangeSpec := { name := "fnClosedBy", fn := fun _ => fun
  | [d] => { results := [.lit (.bool false)], args := [d] }
  | _ => none }
def FnClosedByWrongFalsely : Prop := fnClosedByRow.holds Try.pinned (OpenSpec.ofChange fnClosedByWrong)

/-- 'laws.FnBondFollows': WHATEVER THE INPUT: true; the input reads as it did. -/
def fnBondFollowsSpec : ChangeSpec := { name := "fnBondFollows", fn := fun _ => fun
  | [d] => { results := [.lit (.bool true)], args := [d] }
  | _ => none }
def fnBondFollowsRow : OpenClaim := { program := "ytannpnhboeopdaa", sum := "f7131bcf11c5d6ad4370ffb001375c76f9992d55b9fbc00fb2a8088e2eafc00e", func := "loop.example/openissues/laws.FnBondFollows", spec := "fnBondFollows", plainKeys := false, apart := false }
def FnBondFollowsSaid : Prop := fnBondFollowsRow.holds Try.pinned (OpenSpec.ofChange fnBondFollowsSpec)

/-- ITS FALSE NEIGHBOUR: 'it returns false'. Refute it at one input. -/
def fnBondFollowsWrong : ChangeSpec := { name := "fnBondFollows", fn := fun _ => fun
  | [d] => { results := [.lit (.bool false)], args := [d] }
  | _ => none }
def FnBondFollowsWrongFalsely : Prop := fnBondFollowsRow.holds Try.pinned (OpenSpec.ofChange fnBondFollowsWrong)

/-- 'laws.FnKeysOf': WHATEVER THE INPUT: true; the input reads as it did. -/
def fnKeysOfSpec : ChangeSpec := { name := "fnKeysOf", fn := fun _ => fun
  | [d] => { results := [.lit (.bool true)], args := [d] }
  | _ => none }
def fnKeysOfRow : OpenClaim := { program := "ytannpnhboeopdaa", sum := "f7131bcf11c5d6ad4370ffb001375c76f9992d55b9fbc00fb2a8088e2eafc00e", func := "loop.example/openissues/laws.FnKeysOf", spec := "fnKeysOf", plainKeys := false, apart := false }
def FnKeysOfSaid : Prop := fnKeysOfRow.holds Try.pinned (OpenSpec.ofChange fnKeysOfSpec)

/-- ITS FALSE NEIGHBOUR: 'it returns false'. Refute it at one input. -/
def fnKeysOfWrong : ChangeSpec := { name := "fnKeysOf", fn := fun _ => fun
  | [d] => { results := [.lit (.bool false)], args := [d] }
  | _ => none }
def FnKeysOfWrongFalsely : Prop := fnKeysOfRow.holds Try.pinned (OpenSpec.ofChange fnKeysOfWrong)

/-- 'laws.FnBondsOf': WHATEVER THE INPUT: true; the input reads as it did. -/
def fnBondsOfSpec : ChangeSpec := { name := "fnBondsOf", fn := fun _ => fun
  | [d] => { results := [.lit (.bool true)], args := [d] }
  | _ => none }
def fnBondsOfRow : OpenClaim := { program := "ytannpnhboeopdaa", sum := "f7131bcf11c5d6ad4370ffb001375c76f9992d55b9fbc00fb2a8088e2eafc00e", func := "loop.example/openissues/laws.FnBondsOf", spec := "fnBondsOf", plainKeys := false, apart := false }
def FnBondsOfSaid : Prop := fnBondsOfRow.holds Try.pinned (OpenSpec.ofChange fnBondsOfSpec)

/-- ITS FALSE NEIGHBOUR: 'it returns false'. Refute it at one input. -/
def fnBondsOfWrong : ChangeSpec := { name := "fnBondsOf", fn := fun _ => fun
  | [d] => { results := [.lit (.bool false)], args := [d] }
  | _ => none }
def FnBondsOfWrongFalsely : Prop := fnBondsOfRow.holds Try.pinned (OpenSpec.ofChange fnBondsOfWrong)

/-- 'laws.FnExactBondOk': WHATEVER THE INPUT: true; the input reads as it did. -/
def fnExactBondOkSpec : ChangeSpec := { name := "fnExactBondOk", fn := fun _ => fun
  | [d1, d2] => { results := [.lit (.bool true)], args := [d1, d2] }
  | _ => none }
def fnExactBondOkRow : OpenClaim := { program := "ytannpnhboeopdaa", sum := "f7131bcf11c5d6ad4370ffb001375c76f9992d55b9fbc00fb2a8088e2eafc00e", func := "loop.example/openissues/laws.FnExactBondOk", spec := "fnExactBondOk", plainKeys := false, apart := false }
def FnExactBondOkSaid : Prop := fnExactBondOkRow.holds Try.pinned (OpenSpec.ofChange fnExactBondOkSpec)

/-- ITS FALSE NEIGHBOUR: 'it returns false'. Refute it at one input. -/
def fnExactBondOkWrong : ChangeSpec := { name := "fnExactBondOk", fn := fun _ => fun
  | [d1, d2] => { results := [.lit (.bool false)], args := [d1, d2] }
  | _ => none }
def FnExactBondOkWrongFalsely : Prop := fnExactBondOkRow.holds Try.pinned (OpenSpec.ofChange fnExactBondOkWrong)

/-- 'laws.FnExactHoldsIn': WHATEVER THE INPUT: true; the input reads as it did. -/
def fnExactHoldsInSpec : ChangeSpec := { name := "fnExactHoldsIn", fn := fun _ => fun
  | [d1, d2, d3] => { results := [.lit (.bool true)], args := [d1, d2, d3] }
  | _ => none }
def fnExactHoldsInRow : OpenClaim := { program := "ytannpnhboeopdaa", sum := "f7131bcf11c5d6ad4370ffb001375c76f9992d55b9fbc00fb2a8088e2eafc00e", func := "loop.example/openissues/laws.FnExactHoldsIn", spec := "fnExactHoldsIn", plainKeys := false, apart := false }
def FnExactHoldsInSaid : Prop := fnExactHoldsInRow.holds Try.pinned (OpenSpec.ofChange fnExactHoldsInSpec)

/-- ITS FALSE NEIGHBOUR: 'it returns false'. Refute it at one input. -/
def fnExactHoldsInWrong : ChangeSpec := { name := "fnExactHoldsIn", fn := fun _ => fun
  | [d1, d2, d3] => { results := [.lit (.bool false)], args := [d1, d2, d3] }
  | _ => none }
def FnExactHoldsInWrongFalsely : Prop := fnExactHoldsInRow.holds Try.pinned (OpenSpec.ofChange fnExactHoldsInWrong)

/-- 'laws.FnExactClosedBy': WHATEVER THE INPUT: true; the input reads as it did. -/
def fnExactClosedBySpec : ChangeSpec := { name := "fnExactClosedBy", fn := fun _ => fun
  | [d1, d2, d3] => { results := [.lit (.bool true)], args := [d1, d2, d3] }
  | _ => none }
def fnExactClosedByRow : OpenClaim := { program := "ytannpnhboeopdaa", sum := "f7131bcf11c5d6ad4370ffb001375c76f9992d55b9fbc00fb2a8088e2eafc00e", func := "loop.example/openissues/laws.FnExactClosedBy", spec := "fnExactClosedBy", plainKeys := false, apart := false }
def FnExactClosedBySaid : Prop := fnExactClosedByRow.holds Try.pinned (OpenSpec.ofChange fnExactClosedBySpec)

/-- ITS FALSE NEIGHBOUR: 'it returns false'. Refute it at one input. -/
def fnExactClosedByWrong : ChangeSpec := { name := "fnExactClosedBy", fn := fun _ => fun
  | [d1, d2, d3] => { results := [.lit (.bool false)], args := [d1, d2, d3] }
  | _ => none }
def FnExactClosedByWrongFalsely : Prop := fnExactClosedByRow.holds Try.pinned (OpenSpec.ofChange fnExactClosedByWrong)

/-- 'laws.FnExactBondFollows': WHATEVER THE INPUT: true; the input reads as it did. -/
def fnExactBondFollowsSpec : ChangeSpec := { name := "fnExactBondFollows", fn := fun _ => fun
  | [d1, d2, d3] => { results := [.lit (.bool true)], args := [d1, d2, d3] }
  | _ => none }
def fnExactBondFollowsRow : OpenClaim := { program := "ytannpnhboeopdaa", sum := "f7131bcf11c5d6ad4370ffb001375c76f9992d55b9fbc00fb2a8088e2eafc00e", func := "loop.example/openissues/laws.FnExactBondFollows", spec := "fnExactBondFollows", plainKeys := false, apart := false }
def FnExactBondFollowsSaid : Prop := fnExactBondFollowsRow.holds Try.pinned (OpenSpec.ofChange fnExactBondFollowsSpec)

/-- ITS FALSE NEIGHBOUR: 'it returns false'. Refute it at one input. -/
def fnExactBondFollowsWrong : ChangeSpec := { name := "fnExactBondFollows", fn := fun _ => fun
  | [d1, d2, d3] => { results := [.lit (.bool false)], args := [d1, d2, d3] }
  | _ => none }
def FnExactBondFollowsWrongFalsely : Prop := fnExactBondFollowsRow.holds Try.pinned (OpenSpec.ofChange fnExactBondFollowsWrong)

/-- 'laws.FnExactKeysOf': WHATEVER THE INPUT: true; the input reads as it did. -/
def fnExactKeysOfSpec : ChangeSpec := { name := "fnExactKeysOf", fn := fun _ => fun
  | [d1, d2] => { results := [.lit (.bool true)], args := [d1, d2] }
  | _ => none }
def fnExactKeysOfRow : OpenClaim := { program := "ytannpnhboeopdaa", sum := "f7131bcf11c5d6ad4370ffb001375c76f9992d55b9fbc00fb2a8088e2eafc00e", func := "loop.example/openissues/laws.FnExactKeysOf", spec := "fnExactKeysOf", plainKeys := false, apart := false }
def FnExactKeysOfSaid : Prop := fnExactKeysOfRow.holds Try.pinned (OpenSpec.ofChange fnExactKeysOfSpec)

/-- ITS FALSE NEIGHBOUR: 'it returns false'. Refute it at one input. -/
def fnExactKeysOfWrong : ChangeSpec := { name := "fnExactKeysOf", fn := fun _ => fun
  | [d1, d2] => { results := [.lit (.bool false)], args := [d1, d2] }
  | _ => none }
def FnExactKeysOfWrongFalsely : Prop := fnExactKeysOfRow.holds Try.pinned (OpenSpec.ofChange fnExactKeysOfWrong)

/-- 'laws.FnExactBondsOf': WHATEVER THE INPUT: true; the input reads as it did. -/
def fnExactBondsOfSpec : ChangeSpec := { name := "fnExactBondsOf", fn := fun _ => fun
  | [d1, d2] => { results := [.lit (.bool true)], args := [d1, d2] }
  | _ => none }
def fnExactBondsOfRow : OpenClaim := { program := "ytannpnhboeopdaa", sum := "f7131bcf11c5d6ad4370ffb001375c76f9992d55b9fbc00fb2a8088e2eafc00e", func := "loop.example/openissues/laws.FnExactBondsOf", spec := "fnExactBondsOf", plainKeys := false, apart := false }
def FnExactBondsOfSaid : Prop := fnExactBondsOfRow.holds Try.pinned (OpenSpec.ofChange fnExactBondsOfSpec)

/-- ITS FALSE NEIGHBOUR: 'it returns false'. Refute it at one input. -/
def fnExactBondsOfWrong : ChangeSpec := { name := "fnExactBondsOf", fn := fun _ => fun
  | [d1, d2] => { results := [.lit (.bool false)], args := [d1, d2] }
  | _ => none }
def FnExactBondsOfWrongFalsely : Prop := fnExactBondsOfRow.holds Try.pinned (OpenSpec.ofChange fnExactBondsOfWrong)

/- THE SECOND FORM. 'bulk': how many values and letters a reading holds, each counted each time it is reached (what is shared counts as often as it is met; a slice's spare places count too). A statement '..UptoSaid' is the law's where the arguments, and the package variables that the reading takes, are together of bulk at most 1048576: NARROWER than '..Said'. Prove '..Said' where nothing that the law and all that it calls make is longer than what came in: it says more and counts as full. Else prove '..UptoSaid'. A law counts once. -/
mutual
def uptoBulk {H : Type} : DataW H → Nat
  | .lit (.string bytes) => bytes.length + 1
  | .lit _ => 1
  | .nil => 1
  | .ptr d => uptoBulk d + 1
  | .slice elems spare => uptoBulkAll elems + uptoBulkAll spare + 1
  | .agg parts => uptoBulkAll parts + 1
  | .iface _ d => uptoBulk d + 1
  | .map entries => uptoBulkEntries entries + 1
  | .held _ => 1
def uptoBulkAll {H : Type} : List (DataW H) → Nat
  | [] => 0
  | d :: r => uptoBulk d + uptoBulkAll r
def uptoBulkEntries {H : Type} : List (Lit × DataW H) → Nat
  | [] => 0
  | x :: r => uptoBulkEntry x + uptoBulkEntries r
def uptoBulkEntry {H : Type} : Lit × DataW H → Nat
  | (.string bytes, d) => bytes.length + uptoBulk d + 1
  | (_, d) => uptoBulk d + 1
 end
def uptoSmall : (H : Type) → List (DataW H) → Bool := fun _ ds => decide (uptoBulkAll ds ≤ 1048576)
def OpenSpec.upto (s : _root_.Go.ChangeSpec) : _root_.Go.OpenSpec := { _root_.Go.OpenSpec.ofChange s with cond := some uptoSmall }

/-- 'laws.FnBondOk', WHERE WHAT IT READS IS OF BULK AT MOST 1048576: true; the input reads as it did. -/
def fnBondOkUptoRow : OpenClaim := { program := "ytannpnhboeopdaa", sum := "f7131bcf11c5d6ad4370ffb001375c76f9992d55b9fbc00fb2a8088e2eafc00e", func := "loop.example/openissues/laws.FnBondOk", spec := "fnBondOk", plainKeys := false, apart := false, narrowed := true }
def FnBondOkUptoSaid : Prop := fnBondOkUptoRow.holds Try.pinned (OpenSpec.upto fnBondOkSpec)

/-- 'laws.FnClosedBy', WHERE WHAT IT READS IS OF BULK AT MOST 1048576: true; the input reads as it did. -/
def fnClosedByUptoRow : OpenClaim := { program := "ytannpnhboeopdaa", sum := "f7131bcf11c5d6ad4370ffb001375c76f9992d55b9fbc00fb2a8088e2eafc00e", func := "loop.example/openissues/laws.FnClosedBy", spec := "fnClosedBy", plainKeys := false, apart := false, narrowed := true }
def FnClosedByUptoSaid : Prop := fnClosedByUptoRow.holds Try.pinned (OpenSpec.upto fnClosedBySpec)

/-- 'laws.FnBondFollows', WHERE WHAT IT READS IS OF BULK AT MOST 1048576: true; the input reads as it did. -/
def fnBondFollowsUptoRow : OpenClaim := { program := "ytannpnhboeopdaa", sum := "f7131bcf11c5d6ad4370ffb001375c76f9992d55b9fbc00fb2a8088e2eafc00e", func := "loop.example/openissues/laws.FnBondFollows", spec := "fnBondFollows", plainKeys := false, apart := false, narrowed := true }
def FnBondFollowsUptoSaid : Prop := fnBondFollowsUptoRow.holds Try.pinned (OpenSpec.upto fnBondFollowsSpec)

/-- 'laws.FnKeysOf', WHERE WHAT IT READS IS OF BULK AT MOST 1048576: true; the input reads as it did. -/
def fnKeysOfUptoRow : OpenClaim := { program := "ytannpnhboeopdaa", sum := "f7131bcf11c5d6ad4370ffb001375c76f9992d55b9fbc00fb2a8088e2eafc00e", func := "loop.example/openissues/laws.FnKeysOf", spec := "fnKeysOf", plainKeys := false, apart := false, narrowed := true }
def FnKeysOfUptoSaid : Prop := fnKeysOfUptoRow.holds Try.pinned (OpenSpec.upto fnKeysOfSpec)

/-- 'laws.FnBondsOf', WHERE WHAT IT READS IS OF BULK AT MOST 1048576: true; the input reads as it did. -/
def fnBondsOfUptoRow : OpenClaim := { program := "ytannpnhboeopdaa", sum := "f7131bcf11c5d6ad4370ffb001375c76f9992d55b9fbc00fb2a8088e2eafc00e", func := "loop.example/openissues/laws.FnBondsOf", spec := "fnBondsOf", plainKeys := false, apart := false, narrowed := true }
def FnBondsOfUptoSaid : Prop := fnBondsOfUptoRow.holds Try.pinned (OpenSpec.upto fnBondsOfSpec)

/-- 'laws.FnExactBondOk', WHERE WHAT IT READS IS OF BULK AT MOST 1048576: true; the input reads as it did. -/
def fnExactBondOkUptoRow : OpenClaim := { program := "ytannpnhboeopdaa", sum := "f7131bcf11c5d6ad4370ffb001375c76f9992d55b9fbc00fb2a8088e2eafc00e", func := "loop.example/openissues/laws.FnExactBondOk", spec := "fnExactBondOk", plainKeys := false, apart := false, narrowed := true }
def FnExactBondOkUptoSaid : Prop := fnExactBondOkUptoRow.holds Try.pinned (OpenSpec.upto fnExactBondOkSpec)

/-- 'laws.FnExactHoldsIn', WHERE WHAT IT READS IS OF BULK AT MOST 1048576: true; the input reads as it did. -/
def fnExactHoldsInUptoRow : OpenClaim := { program := "ytannpnhboeopdaa", sum := "f7131bcf11c5d6ad4370ffb001375c76f9992d55b9fbc00fb2a8088e2eafc00e", func := "loop.example/openissues/laws.FnExactHoldsIn", spec := "fnExactHoldsIn", plainKeys := false, apart := false, narrowed := true }
def FnExactHoldsInUptoSaid : Prop := fnExactHoldsInUptoRow.holds Try.pinned (OpenSpec.upto fnExactHoldsInSpec)

/-- 'laws.FnExactClosedBy', WHERE WHAT IT READS IS OF BULK AT MOST 1048576: true; the input reads as it did. -/
def fnExactClosedByUptoRow : OpenClaim := { program := "ytannpnhboeopdaa", sum := "f7131bcf11c5d6ad4370ffb001375c76f9992d55b9fbc00fb2a8088e2eafc00e", func := "loop.example/openissues/laws.FnExactClosedBy", spec := "fnExactClosedBy", plainKeys := false, apart := false, narrowed := true }
def FnExactClosedByUptoSaid : Prop := fnExactClosedByUptoRow.holds Try.pinned (OpenSpec.upto fnExactClosedBySpec)

/-- 'laws.FnExactBondFollows', WHERE WHAT IT READS IS OF BULK AT MOST 1048576: true; the input reads as it did. -/
def fnExactBondFollowsUptoRow : OpenClaim := { program := "ytannpnhboeopdaa", sum := "f7131bcf11c5d6ad4370ffb001375c76f9992d55b9fbc00fb2a8088e2eafc00e", func := "loop.example/openissues/laws.FnExactBondFollows", spec := "fnExactBondFollows", plainKeys := false, apart := false, narrowed := true }
def FnExactBondFollowsUptoSaid : Prop := fnExactBondFollowsUptoRow.holds Try.pinned (OpenSpec.upto fnExactBondFollowsSpec)

/-- 'laws.FnExactKeysOf', WHERE WHAT IT READS IS OF BULK AT MOST 1048576: true; the input reads as it did. -/
def fnExactKeysOfUptoRow : OpenClaim := { program := "ytannpnhboeopdaa", sum := "f7131bcf11c5d6ad4370ffb001375c76f9992d55b9fbc00fb2a8088e2eafc00e", func := "loop.example/openissues/laws.FnExactKeysOf", spec := "fnExactKeysOf", plainKeys := false, apart := false, narrowed := true }
def FnExactKeysOfUptoSaid : Prop := fnExactKeysOfUptoRow.holds Try.pinned (OpenSpec.upto fnExactKeysOfSpec)

/-- 'laws.FnExactBondsOf', WHERE WHAT IT READS IS OF BULK AT MOST 1048576: true; the input reads as it did. -/
def fnExactBondsOfUptoRow : OpenClaim := { program := "ytannpnhboeopdaa", sum := "f7131bcf11c5d6ad4370ffb001375c76f9992d55b9fbc00fb2a8088e2eafc00e", func := "loop.example/openissues/laws.FnExactBondsOf", spec := "fnExactBondsOf", plainKeys := false, apart := false, narrowed := true }
def FnExactBondsOfUptoSaid : Prop := fnExactBondsOfUptoRow.holds Try.pinned (OpenSpec.upto fnExactBondsOfSpec)

end Rows
end Go.Proofs.Ytannpnhboeopdaa
