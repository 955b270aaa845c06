/-
  DERIVED. GIVEN WITH THE SEED: THE CARDS: each row of YtannpnhboeopdaaDoorRows.lean that lists a variable, with what it lists TIED to the program's text (the seventh form; the later family's looks); each row that meets fmt, with fmt's text TOLD by the authors' own Lean function (tested against real Go, not proved from fmt's source: count such statements apart). THE CARD IS WHAT COUNTS. Prove the row's statement (the work); the ties are given (YtannpnhboeopdaaDoorTie.lean); close each card by the builder's one call (the guide's Derived/Test/ToyasCard.lean, 'card_holds'). Laid BY PROGRAM, IN A SANDBOX (cutbox-door.mjs). By AI agents, Wed Nov 11 2026. No macro, syntax, notation, axiom, sorry.
-/
import Derived.Test.YtannpnhboeopdaaDoorRows
import GoSem.ClaimSeven
namespace Go.Proofs.YtannpnhboeopdaaDoor
namespace Rows

/-- THE TIED CARD OF 'laws.FnHoldsIn'. -/
def fnHoldsInCard : Claim7 := { stood := { row := fnHoldsInRow, standIns := [], harness := (true, "bc9be3f5576e3686a6eafddb83cd630e1c361f09ffeafe5ad93ffe06c8f1bc6c"), looks := false }, kinds := [], alts := [], laidByText := true, laidKinds := [.data, .data], laidTests := true, laidLooks := .later }
def FnHoldsInCardSaid : Prop := Claim7.holds Tryd.pinned (.plain (OpenSpec.ofChange fnHoldsInSpec)) fnHoldsInCard

/-- THE TIED CARD OF 'laws.FnBondText'. -/
def fnBondTextCard : Claim7 := { stood := { row := fnBondTextRow, standIns := [], harness := (true, "bc9be3f5576e3686a6eafddb83cd630e1c361f09ffeafe5ad93ffe06c8f1bc6c"), looks := false }, kinds := [], alts := [], laidByText := true, laidKinds := [.data, .data], laidTests := true, laidLooks := .later }
def FnBondTextCardSaid : Prop := Claim7.holds Tryd.pinned (.plain (OpenSpec.ofChange fnBondTextSpec)) fnBondTextCard

/-- THE TIED CARD OF 'laws.FnExactBondText'. -/
def fnExactBondTextCard : Claim7 := { stood := { row := fnExactBondTextRow, standIns := [], harness := (true, "bc9be3f5576e3686a6eafddb83cd630e1c361f09ffeafe5ad93ffe06c8f1bc6c"), looks := false }, kinds := [], alts := [], laidByText := true, laidKinds := [.data, .data], laidTests := true, laidLooks := .later }
def FnExactBondTextCardSaid : Prop := Claim7.holds Tryd.pinned (.plain (OpenSpec.ofChange fnExactBondTextSpec)) fnExactBondTextCard

/-- THE SECOND FORM's CARD OF 'laws.FnHoldsIn'. -/
def fnHoldsInUptoCard : Claim7 := { stood := { row := fnHoldsInUptoRow, standIns := [], harness := (true, "bc9be3f5576e3686a6eafddb83cd630e1c361f09ffeafe5ad93ffe06c8f1bc6c"), looks := false }, kinds := [], alts := [], laidByText := true, laidKinds := [.data, .data], laidTests := true, laidLooks := .later }
def FnHoldsInUptoCardSaid : Prop := Claim7.holds Tryd.pinned (.plain (OpenSpec.upto fnHoldsInSpec)) fnHoldsInUptoCard

/-- THE SECOND FORM's CARD OF 'laws.FnBondText'. -/
def fnBondTextUptoCard : Claim7 := { stood := { row := fnBondTextUptoRow, standIns := [], harness := (true, "bc9be3f5576e3686a6eafddb83cd630e1c361f09ffeafe5ad93ffe06c8f1bc6c"), looks := false }, kinds := [], alts := [], laidByText := true, laidKinds := [.data, .data], laidTests := true, laidLooks := .later }
def FnBondTextUptoCardSaid : Prop := Claim7.holds Tryd.pinned (.plain (OpenSpec.upto fnBondTextSpec)) fnBondTextUptoCard

/-- THE SECOND FORM's CARD OF 'laws.FnExactBondText'. -/
def fnExactBondTextUptoCard : Claim7 := { stood := { row := fnExactBondTextUptoRow, standIns := [], harness := (true, "bc9be3f5576e3686a6eafddb83cd630e1c361f09ffeafe5ad93ffe06c8f1bc6c"), looks := false }, kinds := [], alts := [], laidByText := true, laidKinds := [.data, .data], laidTests := true, laidLooks := .later }
def FnExactBondTextUptoCardSaid : Prop := Claim7.holds Tryd.pinned (.plain (OpenSpec.upto fnExactBondTextSpec)) fnExactBondTextUptoCard
end Rows
end Go.Proofs.YtannpnhboeopdaaDoor
