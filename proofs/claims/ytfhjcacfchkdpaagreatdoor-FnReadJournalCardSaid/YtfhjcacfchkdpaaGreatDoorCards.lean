/-
  DERIVED. GIVEN WITH THE SEED: THE CARDS: each row of YtfhjcacfchkdpaaGreatDoorRows.lean that lists a variable, with what it lists TIED to the program's text (the seventh form; the later family's looks); each row that meets fmt, with fmt's text TOLD by the authors' own Lean function (tested against real Go, not proved from fmt's source: count such statements apart). THE CARD IS WHAT COUNTS. Prove the row's statement (the work); the ties are given (YtfhjcacfchkdpaaGreatDoorTie.lean); close each card by the builder's one call (the guide's Derived/Test/ToyasCard.lean, 'card_holds'). Laid BY PROGRAM, IN A SANDBOX (cutbox-door.mjs). By AI agents, Wed Nov 11 2026. No macro, syntax, notation, axiom, sorry.
-/
import Derived.Test.YtfhjcacfchkdpaaGreatDoorRows
import GoSem.ClaimSeven
namespace Go.Proofs.YtfhjcacfchkdpaaGreatDoor
namespace Rows

/-- THE TIED CARD OF 'laws.FnReadJournal'. -/
def fnReadJournalCard : Claim7 := { stood := { row := fnReadJournalRow, standIns := [], harness := (true, "a5a3973b108b01d1cf61698825910a9e7bc79f7052b2f49169ef766375bf0ce5"), looks := false }, kinds := [], alts := [], laidByText := true, laidKinds := [.data, .data, .data], laidTests := true, laidLooks := .later }
def FnReadJournalCardSaid : Prop := Claim7.holds Tryz.pinned (.plain (OpenSpec.ofChange fnReadJournalSpec)) fnReadJournalCard

/-- THE TIED CARD OF 'laws.FnTalkLine'. -/
def fnTalkLineCard : Claim7 := { stood := { row := fnTalkLineRow, standIns := [], harness := (true, "a5a3973b108b01d1cf61698825910a9e7bc79f7052b2f49169ef766375bf0ce5"), looks := false }, kinds := [], alts := [], laidByText := true, laidKinds := [.data, .data, .data], laidTests := true, laidLooks := .later }
def FnTalkLineCardSaid : Prop := Claim7.holds Tryz.pinned (.plain (OpenSpec.ofChange fnTalkLineSpec)) fnTalkLineCard

/-- THE TIED CARD OF 'laws.FnTalkSay'. -/
def fnTalkSayCard : Claim7 := { stood := { row := fnTalkSayRow, standIns := [], harness := (true, "a5a3973b108b01d1cf61698825910a9e7bc79f7052b2f49169ef766375bf0ce5"), looks := false }, kinds := [], alts := [], laidByText := true, laidKinds := [.data, .data, .data], laidTests := true, laidLooks := .later }
def FnTalkSayCardSaid : Prop := Claim7.holds Tryz.pinned (.plain (OpenSpec.ofChange fnTalkSaySpec)) fnTalkSayCard

/-- THE TIED CARD OF 'laws.FnExactTalkLine'. -/
def fnExactTalkLineCard : Claim7 := { stood := { row := fnExactTalkLineRow, standIns := [], harness := (true, "a5a3973b108b01d1cf61698825910a9e7bc79f7052b2f49169ef766375bf0ce5"), looks := false }, kinds := [], alts := [], laidByText := true, laidKinds := [.data, .data, .data], laidTests := true, laidLooks := .later }
def FnExactTalkLineCardSaid : Prop := Claim7.holds Tryz.pinned (.plain (OpenSpec.ofChange fnExactTalkLineSpec)) fnExactTalkLineCard

/-- THE TIED CARD OF 'laws.FnExactTalkSay'. -/
def fnExactTalkSayCard : Claim7 := { stood := { row := fnExactTalkSayRow, standIns := [], harness := (true, "a5a3973b108b01d1cf61698825910a9e7bc79f7052b2f49169ef766375bf0ce5"), looks := false }, kinds := [], alts := [], laidByText := true, laidKinds := [.data, .data, .data], laidTests := true, laidLooks := .later }
def FnExactTalkSayCardSaid : Prop := Claim7.holds Tryz.pinned (.plain (OpenSpec.ofChange fnExactTalkSaySpec)) fnExactTalkSayCard

/-- THE SECOND FORM's CARD OF 'laws.FnReadJournal'. -/
def fnReadJournalUptoCard : Claim7 := { stood := { row := fnReadJournalUptoRow, standIns := [], harness := (true, "a5a3973b108b01d1cf61698825910a9e7bc79f7052b2f49169ef766375bf0ce5"), looks := false }, kinds := [], alts := [], laidByText := true, laidKinds := [.data, .data, .data], laidTests := true, laidLooks := .later }
def FnReadJournalUptoCardSaid : Prop := Claim7.holds Tryz.pinned (.plain (OpenSpec.upto fnReadJournalSpec)) fnReadJournalUptoCard

/-- THE SECOND FORM's CARD OF 'laws.FnTalkLine'. -/
def fnTalkLineUptoCard : Claim7 := { stood := { row := fnTalkLineUptoRow, standIns := [], harness := (true, "a5a3973b108b01d1cf61698825910a9e7bc79f7052b2f49169ef766375bf0ce5"), looks := false }, kinds := [], alts := [], laidByText := true, laidKinds := [.data, .data, .data], laidTests := true, laidLooks := .later }
def FnTalkLineUptoCardSaid : Prop := Claim7.holds Tryz.pinned (.plain (OpenSpec.upto fnTalkLineSpec)) fnTalkLineUptoCard

/-- THE SECOND FORM's CARD OF 'laws.FnTalkSay'. -/
def fnTalkSayUptoCard : Claim7 := { stood := { row := fnTalkSayUptoRow, standIns := [], harness := (true, "a5a3973b108b01d1cf61698825910a9e7bc79f7052b2f49169ef766375bf0ce5"), looks := false }, kinds := [], alts := [], laidByText := true, laidKinds := [.data, .data, .data], laidTests := true, laidLooks := .later }
def FnTalkSayUptoCardSaid : Prop := Claim7.holds Tryz.pinned (.plain (OpenSpec.upto fnTalkSaySpec)) fnTalkSayUptoCard

/-- THE SECOND FORM's CARD OF 'laws.FnExactTalkLine'. -/
def fnExactTalkLineUptoCard : Claim7 := { stood := { row := fnExactTalkLineUptoRow, standIns := [], harness := (true, "a5a3973b108b01d1cf61698825910a9e7bc79f7052b2f49169ef766375bf0ce5"), looks := false }, kinds := [], alts := [], laidByText := true, laidKinds := [.data, .data, .data], laidTests := true, laidLooks := .later }
def FnExactTalkLineUptoCardSaid : Prop := Claim7.holds Tryz.pinned (.plain (OpenSpec.upto fnExactTalkLineSpec)) fnExactTalkLineUptoCard

/-- THE SECOND FORM's CARD OF 'laws.FnExactTalkSay'. -/
def fnExactTalkSayUptoCard : Claim7 := { stood := { row := fnExactTalkSayUptoRow, standIns := [], harness := (true, "a5a3973b108b01d1cf61698825910a9e7bc79f7052b2f49169ef766375bf0ce5"), looks := false }, kinds := [], alts := [], laidByText := true, laidKinds := [.data, .data, .data], laidTests := true, laidLooks := .later }
def FnExactTalkSayUptoCardSaid : Prop := Claim7.holds Tryz.pinned (.plain (OpenSpec.upto fnExactTalkSaySpec)) fnExactTalkSayUptoCard
end Rows
end Go.Proofs.YtfhjcacfchkdpaaGreatDoor
