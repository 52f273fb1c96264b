/-
  DERIVED. GIVEN WITH THE SEED: THE CARDS: each row of YtahlmdlnemmhpaaDoorRows.lean that lists a variable, with what it lists TIED to the program's text (the seventh form; the later family's looks); each row that meets fmt, with fmt's text TOLD by the authors' own Lean function (tested against real Go, not proved from fmt's source: count such statements apart). THE CARD IS WHAT COUNTS. Prove the row's statement (the work); the ties are given (YtahlmdlnemmhpaaDoorTie.lean); close each card by the builder's one call (the guide's Derived/Test/ToyasCard.lean, 'card_holds'). Laid BY PROGRAM, IN A SANDBOX (cutbox-door.mjs). By AI agents, Wed Nov 11 2026. No macro, syntax, notation, axiom, sorry.
-/
import Derived.Test.YtahlmdlnemmhpaaDoorRows
import GoSem.ClaimSeven
namespace Go.Proofs.YtahlmdlnemmhpaaDoor
namespace Rows

/-- THE TIED CARD OF 'laws.FnClosedOk'. -/
def fnClosedOkCard : Claim7 := { stood := { row := fnClosedOkRow, standIns := [], harness := (true, "0962383e97f9e25365ea4b503dee5a58b57f077b195cf503804f05d4c6e1c81d"), looks := false }, kinds := [], alts := [], laidByText := true, laidKinds := [.data, .data], laidTests := true, laidLooks := .later }
def FnClosedOkCardSaid : Prop := Claim7.holds Tryd.pinned (.plain (OpenSpec.ofChange fnClosedOkSpec)) fnClosedOkCard

/-- THE TIED CARD OF 'laws.FnMadeBy'. -/
def fnMadeByCard : Claim7 := { stood := { row := fnMadeByRow, standIns := [], harness := (true, "0962383e97f9e25365ea4b503dee5a58b57f077b195cf503804f05d4c6e1c81d"), looks := false }, kinds := [], alts := [], laidByText := true, laidKinds := [.data, .data], laidTests := true, laidLooks := .later }
def FnMadeByCardSaid : Prop := Claim7.holds Tryd.pinned (.plain (OpenSpec.ofChange fnMadeBySpec)) fnMadeByCard

/-- THE TIED CARD OF 'laws.FnChainWithin'. -/
def fnChainWithinCard : Claim7 := { stood := { row := fnChainWithinRow, standIns := [], harness := (true, "0962383e97f9e25365ea4b503dee5a58b57f077b195cf503804f05d4c6e1c81d"), looks := false }, kinds := [], alts := [], laidByText := true, laidKinds := [.data, .data], laidTests := true, laidLooks := .later }
def FnChainWithinCardSaid : Prop := Claim7.holds Tryd.pinned (.plain (OpenSpec.ofChange fnChainWithinSpec)) fnChainWithinCard

/-- THE TIED CARD OF 'laws.FnClosedSets'. -/
def fnClosedSetsCard : Claim7 := { stood := { row := fnClosedSetsRow, standIns := [], harness := (true, "0962383e97f9e25365ea4b503dee5a58b57f077b195cf503804f05d4c6e1c81d"), looks := false }, kinds := [], alts := [], laidByText := true, laidKinds := [.data, .data], laidTests := true, laidLooks := .later }
def FnClosedSetsCardSaid : Prop := Claim7.holds Tryd.pinned (.plain (OpenSpec.ofChange fnClosedSetsSpec)) fnClosedSetsCard

/-- THE TIED CARD OF 'laws.FnStepsFor'. -/
def fnStepsForCard : Claim7 := { stood := { row := fnStepsForRow, standIns := [], harness := (true, "0962383e97f9e25365ea4b503dee5a58b57f077b195cf503804f05d4c6e1c81d"), looks := false }, kinds := [], alts := [], laidByText := true, laidKinds := [.data, .data], laidTests := true, laidLooks := .later }
def FnStepsForCardSaid : Prop := Claim7.holds Tryd.pinned (.plain (OpenSpec.ofChange fnStepsForSpec)) fnStepsForCard

/-- THE TIED CARD OF 'laws.FnExactClosedOk'. -/
def fnExactClosedOkCard : Claim7 := { stood := { row := fnExactClosedOkRow, standIns := [], harness := (true, "0962383e97f9e25365ea4b503dee5a58b57f077b195cf503804f05d4c6e1c81d"), looks := false }, kinds := [], alts := [], laidByText := true, laidKinds := [.data, .data], laidTests := true, laidLooks := .later }
def FnExactClosedOkCardSaid : Prop := Claim7.holds Tryd.pinned (.plain (OpenSpec.ofChange fnExactClosedOkSpec)) fnExactClosedOkCard

/-- THE TIED CARD OF 'laws.FnExactMadeBy'. -/
def fnExactMadeByCard : Claim7 := { stood := { row := fnExactMadeByRow, standIns := [], harness := (true, "0962383e97f9e25365ea4b503dee5a58b57f077b195cf503804f05d4c6e1c81d"), looks := false }, kinds := [], alts := [], laidByText := true, laidKinds := [.data, .data], laidTests := true, laidLooks := .later }
def FnExactMadeByCardSaid : Prop := Claim7.holds Tryd.pinned (.plain (OpenSpec.ofChange fnExactMadeBySpec)) fnExactMadeByCard

/-- THE TIED CARD OF 'laws.FnExactClosedSets'. -/
def fnExactClosedSetsCard : Claim7 := { stood := { row := fnExactClosedSetsRow, standIns := [], harness := (true, "0962383e97f9e25365ea4b503dee5a58b57f077b195cf503804f05d4c6e1c81d"), looks := false }, kinds := [], alts := [], laidByText := true, laidKinds := [.data, .data], laidTests := true, laidLooks := .later }
def FnExactClosedSetsCardSaid : Prop := Claim7.holds Tryd.pinned (.plain (OpenSpec.ofChange fnExactClosedSetsSpec)) fnExactClosedSetsCard

/-- THE TIED CARD OF 'laws.FnExactStepsFor'. -/
def fnExactStepsForCard : Claim7 := { stood := { row := fnExactStepsForRow, standIns := [], harness := (true, "0962383e97f9e25365ea4b503dee5a58b57f077b195cf503804f05d4c6e1c81d"), looks := false }, kinds := [], alts := [], laidByText := true, laidKinds := [.data, .data], laidTests := true, laidLooks := .later }
def FnExactStepsForCardSaid : Prop := Claim7.holds Tryd.pinned (.plain (OpenSpec.ofChange fnExactStepsForSpec)) fnExactStepsForCard

/-- THE SECOND FORM's CARD OF 'laws.FnClosedOk'. -/
def fnClosedOkUptoCard : Claim7 := { stood := { row := fnClosedOkUptoRow, standIns := [], harness := (true, "0962383e97f9e25365ea4b503dee5a58b57f077b195cf503804f05d4c6e1c81d"), looks := false }, kinds := [], alts := [], laidByText := true, laidKinds := [.data, .data], laidTests := true, laidLooks := .later }
def FnClosedOkUptoCardSaid : Prop := Claim7.holds Tryd.pinned (.plain (OpenSpec.upto fnClosedOkSpec)) fnClosedOkUptoCard

/-- THE SECOND FORM's CARD OF 'laws.FnMadeBy'. -/
def fnMadeByUptoCard : Claim7 := { stood := { row := fnMadeByUptoRow, standIns := [], harness := (true, "0962383e97f9e25365ea4b503dee5a58b57f077b195cf503804f05d4c6e1c81d"), looks := false }, kinds := [], alts := [], laidByText := true, laidKinds := [.data, .data], laidTests := true, laidLooks := .later }
def FnMadeByUptoCardSaid : Prop := Claim7.holds Tryd.pinned (.plain (OpenSpec.upto fnMadeBySpec)) fnMadeByUptoCard

/-- THE SECOND FORM's CARD OF 'laws.FnChainWithin'. -/
def fnChainWithinUptoCard : Claim7 := { stood := { row := fnChainWithinUptoRow, standIns := [], harness := (true, "0962383e97f9e25365ea4b503dee5a58b57f077b195cf503804f05d4c6e1c81d"), looks := false }, kinds := [], alts := [], laidByText := true, laidKinds := [.data, .data], laidTests := true, laidLooks := .later }
def FnChainWithinUptoCardSaid : Prop := Claim7.holds Tryd.pinned (.plain (OpenSpec.upto fnChainWithinSpec)) fnChainWithinUptoCard

/-- THE SECOND FORM's CARD OF 'laws.FnClosedSets'. -/
def fnClosedSetsUptoCard : Claim7 := { stood := { row := fnClosedSetsUptoRow, standIns := [], harness := (true, "0962383e97f9e25365ea4b503dee5a58b57f077b195cf503804f05d4c6e1c81d"), looks := false }, kinds := [], alts := [], laidByText := true, laidKinds := [.data, .data], laidTests := true, laidLooks := .later }
def FnClosedSetsUptoCardSaid : Prop := Claim7.holds Tryd.pinned (.plain (OpenSpec.upto fnClosedSetsSpec)) fnClosedSetsUptoCard

/-- THE SECOND FORM's CARD OF 'laws.FnStepsFor'. -/
def fnStepsForUptoCard : Claim7 := { stood := { row := fnStepsForUptoRow, standIns := [], harness := (true, "0962383e97f9e25365ea4b503dee5a58b57f077b195cf503804f05d4c6e1c81d"), looks := false }, kinds := [], alts := [], laidByText := true, laidKinds := [.data, .data], laidTests := true, laidLooks := .later }
def FnStepsForUptoCardSaid : Prop := Claim7.holds Tryd.pinned (.plain (OpenSpec.upto fnStepsForSpec)) fnStepsForUptoCard

/-- THE SECOND FORM's CARD OF 'laws.FnExactClosedOk'. -/
def fnExactClosedOkUptoCard : Claim7 := { stood := { row := fnExactClosedOkUptoRow, standIns := [], harness := (true, "0962383e97f9e25365ea4b503dee5a58b57f077b195cf503804f05d4c6e1c81d"), looks := false }, kinds := [], alts := [], laidByText := true, laidKinds := [.data, .data], laidTests := true, laidLooks := .later }
def FnExactClosedOkUptoCardSaid : Prop := Claim7.holds Tryd.pinned (.plain (OpenSpec.upto fnExactClosedOkSpec)) fnExactClosedOkUptoCard

/-- THE SECOND FORM's CARD OF 'laws.FnExactMadeBy'. -/
def fnExactMadeByUptoCard : Claim7 := { stood := { row := fnExactMadeByUptoRow, standIns := [], harness := (true, "0962383e97f9e25365ea4b503dee5a58b57f077b195cf503804f05d4c6e1c81d"), looks := false }, kinds := [], alts := [], laidByText := true, laidKinds := [.data, .data], laidTests := true, laidLooks := .later }
def FnExactMadeByUptoCardSaid : Prop := Claim7.holds Tryd.pinned (.plain (OpenSpec.upto fnExactMadeBySpec)) fnExactMadeByUptoCard

/-- THE SECOND FORM's CARD OF 'laws.FnExactClosedSets'. -/
def fnExactClosedSetsUptoCard : Claim7 := { stood := { row := fnExactClosedSetsUptoRow, standIns := [], harness := (true, "0962383e97f9e25365ea4b503dee5a58b57f077b195cf503804f05d4c6e1c81d"), looks := false }, kinds := [], alts := [], laidByText := true, laidKinds := [.data, .data], laidTests := true, laidLooks := .later }
def FnExactClosedSetsUptoCardSaid : Prop := Claim7.holds Tryd.pinned (.plain (OpenSpec.upto fnExactClosedSetsSpec)) fnExactClosedSetsUptoCard

/-- THE SECOND FORM's CARD OF 'laws.FnExactStepsFor'. -/
def fnExactStepsForUptoCard : Claim7 := { stood := { row := fnExactStepsForUptoRow, standIns := [], harness := (true, "0962383e97f9e25365ea4b503dee5a58b57f077b195cf503804f05d4c6e1c81d"), looks := false }, kinds := [], alts := [], laidByText := true, laidKinds := [.data, .data], laidTests := true, laidLooks := .later }
def FnExactStepsForUptoCardSaid : Prop := Claim7.holds Tryd.pinned (.plain (OpenSpec.upto fnExactStepsForSpec)) fnExactStepsForUptoCard
end Rows
end Go.Proofs.YtahlmdlnemmhpaaDoor
