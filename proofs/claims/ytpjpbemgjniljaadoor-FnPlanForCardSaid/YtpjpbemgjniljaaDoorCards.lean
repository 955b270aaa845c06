/-
  DERIVED. GIVEN WITH THE SEED: THE CARDS: each row of YtpjpbemgjniljaaDoorRows.lean that lists a variable, with what it lists TIED to the program's text (the seventh form; the later family's looks); each row that meets fmt, with fmt's text TOLD by the authors' own Lean function (tested against real Go, not proved from fmt's source: count such statements apart). THE CARD IS WHAT COUNTS. Prove the row's statement (the work); the ties are given (YtpjpbemgjniljaaDoorTie.lean); close each card by the builder's one call (the guide's Derived/Test/ToyasCard.lean, 'card_holds'). Laid BY PROGRAM, IN A SANDBOX (cutbox-door.mjs). By AI agents, Wed Nov 11 2026. No macro, syntax, notation, axiom, sorry.
-/
import Derived.Test.YtpjpbemgjniljaaDoorRows
import GoSem.ClaimSeven
namespace Go.Proofs.YtpjpbemgjniljaaDoor
namespace Rows

/-- THE TIED CARD OF 'laws.FnPlanFor'. -/
def fnPlanForCard : Claim7 := { stood := { row := fnPlanForRow, standIns := [], harness := (true, "70633fa6f9eb7aff14ccb85d338a5991fc466133beb92de8c1866eb6fb0c49fc"), looks := false }, kinds := [], alts := [], laidByText := true, laidKinds := [.data, .data, .data], laidTests := true, laidLooks := .later }
def FnPlanForCardSaid : Prop := Claim7.holds Tryd.pinned (.plain (OpenSpec.ofChange fnPlanForSpec)) fnPlanForCard

/-- THE TIED CARD OF 'laws.FnExactPlanFor'. -/
def fnExactPlanForCard : Claim7 := { stood := { row := fnExactPlanForRow, standIns := [], harness := (true, "70633fa6f9eb7aff14ccb85d338a5991fc466133beb92de8c1866eb6fb0c49fc"), looks := false }, kinds := [], alts := [], laidByText := true, laidKinds := [.data, .data, .data], laidTests := true, laidLooks := .later }
def FnExactPlanForCardSaid : Prop := Claim7.holds Tryd.pinned (.plain (OpenSpec.ofChange fnExactPlanForSpec)) fnExactPlanForCard

/-- THE SECOND FORM's CARD OF 'laws.FnPlanFor'. -/
def fnPlanForUptoCard : Claim7 := { stood := { row := fnPlanForUptoRow, standIns := [], harness := (true, "70633fa6f9eb7aff14ccb85d338a5991fc466133beb92de8c1866eb6fb0c49fc"), looks := false }, kinds := [], alts := [], laidByText := true, laidKinds := [.data, .data, .data], laidTests := true, laidLooks := .later }
def FnPlanForUptoCardSaid : Prop := Claim7.holds Tryd.pinned (.plain (OpenSpec.upto fnPlanForSpec)) fnPlanForUptoCard

/-- THE SECOND FORM's CARD OF 'laws.FnExactPlanFor'. -/
def fnExactPlanForUptoCard : Claim7 := { stood := { row := fnExactPlanForUptoRow, standIns := [], harness := (true, "70633fa6f9eb7aff14ccb85d338a5991fc466133beb92de8c1866eb6fb0c49fc"), looks := false }, kinds := [], alts := [], laidByText := true, laidKinds := [.data, .data, .data], laidTests := true, laidLooks := .later }
def FnExactPlanForUptoCardSaid : Prop := Claim7.holds Tryd.pinned (.plain (OpenSpec.upto fnExactPlanForSpec)) fnExactPlanForUptoCard
end Rows
end Go.Proofs.YtpjpbemgjniljaaDoor
