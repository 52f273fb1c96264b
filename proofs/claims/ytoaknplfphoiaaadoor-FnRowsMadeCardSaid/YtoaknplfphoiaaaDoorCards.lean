/-
  DERIVED. GIVEN WITH THE SEED: THE CARDS: each row of YtoaknplfphoiaaaDoorRows.lean that lists a variable, with what it lists TIED to the program's text (the seventh form; the later family's looks); each row that meets fmt, with fmt's text TOLD by the authors' own Lean function (tested against real Go, not proved from fmt's source: count such statements apart). THE CARD IS WHAT COUNTS. Prove the row's statement (the work); the ties are given (YtoaknplfphoiaaaDoorTie.lean); close each card by the builder's one call (the guide's Derived/Test/ToyasCard.lean, 'card_holds'). Laid BY PROGRAM, IN A SANDBOX (cutbox-door.mjs). By AI agents, Wed Nov 11 2026. No macro, syntax, notation, axiom, sorry.
-/
import Derived.Test.YtoaknplfphoiaaaDoorRows
import GoSem.ClaimSeven
namespace Go.Proofs.YtoaknplfphoiaaaDoor
namespace Rows

/-- THE TIED CARD OF 'laws.FnRowSaid'. -/
def fnRowSaidCard : Claim7 := { stood := { row := fnRowSaidRow, standIns := [], harness := (true, "4b0cd93319871a3d504a7aa83702675dcff32f9826fa58520554a207d5d3e3c0"), looks := true }, kinds := [], alts := [], laidByText := true, laidKinds := [.data, .data], laidTests := true, laidLooks := .later }
def FnRowSaidCardSaid : Prop := Claim7.holds Tryd.pinned (.plain (OpenSpec.ofChange fnRowSaidSpec)) fnRowSaidCard

/-- THE TIED CARD OF 'laws.FnSayableOk'. -/
def fnSayableOkCard : Claim7 := { stood := { row := fnSayableOkRow, standIns := [], harness := (true, "4b0cd93319871a3d504a7aa83702675dcff32f9826fa58520554a207d5d3e3c0"), looks := true }, kinds := [], alts := [], laidByText := true, laidKinds := [.data, .data], laidTests := true, laidLooks := .later }
def FnSayableOkCardSaid : Prop := Claim7.holds Tryd.pinned (.plain (OpenSpec.ofChange fnSayableOkSpec)) fnSayableOkCard

/-- THE TIED CARD OF 'laws.FnCountSayable'. -/
def fnCountSayableCard : Claim7 := { stood := { row := fnCountSayableRow, standIns := [], harness := (true, "4b0cd93319871a3d504a7aa83702675dcff32f9826fa58520554a207d5d3e3c0"), looks := true }, kinds := [], alts := [], laidByText := true, laidKinds := [.data, .data], laidTests := true, laidLooks := .later }
def FnCountSayableCardSaid : Prop := Claim7.holds Tryd.pinned (.plain (OpenSpec.ofChange fnCountSayableSpec)) fnCountSayableCard

/-- THE TIED CARD OF 'laws.FnRowsMade'. -/
def fnRowsMadeCard : Claim7 := { stood := { row := fnRowsMadeRow, standIns := [], harness := (true, "4b0cd93319871a3d504a7aa83702675dcff32f9826fa58520554a207d5d3e3c0"), looks := true }, kinds := [], alts := [], laidByText := true, laidKinds := [.data, .data], laidTests := true, laidLooks := .later }
def FnRowsMadeCardSaid : Prop := Claim7.holds Tryd.pinned (.plain (OpenSpec.ofChange fnRowsMadeSpec)) fnRowsMadeCard

/-- THE TIED CARD OF 'laws.FnExactSayableOk'. -/
def fnExactSayableOkCard : Claim7 := { stood := { row := fnExactSayableOkRow, standIns := [], harness := (true, "4b0cd93319871a3d504a7aa83702675dcff32f9826fa58520554a207d5d3e3c0"), looks := true }, kinds := [], alts := [], laidByText := true, laidKinds := [.data, .data], laidTests := true, laidLooks := .later }
def FnExactSayableOkCardSaid : Prop := Claim7.holds Tryd.pinned (.plain (OpenSpec.ofChange fnExactSayableOkSpec)) fnExactSayableOkCard

/-- THE TIED CARD OF 'laws.FnExactCountSayable'. -/
def fnExactCountSayableCard : Claim7 := { stood := { row := fnExactCountSayableRow, standIns := [], harness := (true, "4b0cd93319871a3d504a7aa83702675dcff32f9826fa58520554a207d5d3e3c0"), looks := true }, kinds := [], alts := [], laidByText := true, laidKinds := [.data, .data], laidTests := true, laidLooks := .later }
def FnExactCountSayableCardSaid : Prop := Claim7.holds Tryd.pinned (.plain (OpenSpec.ofChange fnExactCountSayableSpec)) fnExactCountSayableCard

/-- THE SECOND FORM's CARD OF 'laws.FnRowSaid'. -/
def fnRowSaidUptoCard : Claim7 := { stood := { row := fnRowSaidUptoRow, standIns := [], harness := (true, "4b0cd93319871a3d504a7aa83702675dcff32f9826fa58520554a207d5d3e3c0"), looks := true }, kinds := [], alts := [], laidByText := true, laidKinds := [.data, .data], laidTests := true, laidLooks := .later }
def FnRowSaidUptoCardSaid : Prop := Claim7.holds Tryd.pinned (.plain (OpenSpec.upto fnRowSaidSpec)) fnRowSaidUptoCard

/-- THE SECOND FORM's CARD OF 'laws.FnSayableOk'. -/
def fnSayableOkUptoCard : Claim7 := { stood := { row := fnSayableOkUptoRow, standIns := [], harness := (true, "4b0cd93319871a3d504a7aa83702675dcff32f9826fa58520554a207d5d3e3c0"), looks := true }, kinds := [], alts := [], laidByText := true, laidKinds := [.data, .data], laidTests := true, laidLooks := .later }
def FnSayableOkUptoCardSaid : Prop := Claim7.holds Tryd.pinned (.plain (OpenSpec.upto fnSayableOkSpec)) fnSayableOkUptoCard

/-- THE SECOND FORM's CARD OF 'laws.FnCountSayable'. -/
def fnCountSayableUptoCard : Claim7 := { stood := { row := fnCountSayableUptoRow, standIns := [], harness := (true, "4b0cd93319871a3d504a7aa83702675dcff32f9826fa58520554a207d5d3e3c0"), looks := true }, kinds := [], alts := [], laidByText := true, laidKinds := [.data, .data], laidTests := true, laidLooks := .later }
def FnCountSayableUptoCardSaid : Prop := Claim7.holds Tryd.pinned (.plain (OpenSpec.upto fnCountSayableSpec)) fnCountSayableUptoCard

/-- THE SECOND FORM's CARD OF 'laws.FnRowsMade'. -/
def fnRowsMadeUptoCard : Claim7 := { stood := { row := fnRowsMadeUptoRow, standIns := [], harness := (true, "4b0cd93319871a3d504a7aa83702675dcff32f9826fa58520554a207d5d3e3c0"), looks := true }, kinds := [], alts := [], laidByText := true, laidKinds := [.data, .data], laidTests := true, laidLooks := .later }
def FnRowsMadeUptoCardSaid : Prop := Claim7.holds Tryd.pinned (.plain (OpenSpec.upto fnRowsMadeSpec)) fnRowsMadeUptoCard

/-- THE SECOND FORM's CARD OF 'laws.FnExactSayableOk'. -/
def fnExactSayableOkUptoCard : Claim7 := { stood := { row := fnExactSayableOkUptoRow, standIns := [], harness := (true, "4b0cd93319871a3d504a7aa83702675dcff32f9826fa58520554a207d5d3e3c0"), looks := true }, kinds := [], alts := [], laidByText := true, laidKinds := [.data, .data], laidTests := true, laidLooks := .later }
def FnExactSayableOkUptoCardSaid : Prop := Claim7.holds Tryd.pinned (.plain (OpenSpec.upto fnExactSayableOkSpec)) fnExactSayableOkUptoCard

/-- THE SECOND FORM's CARD OF 'laws.FnExactCountSayable'. -/
def fnExactCountSayableUptoCard : Claim7 := { stood := { row := fnExactCountSayableUptoRow, standIns := [], harness := (true, "4b0cd93319871a3d504a7aa83702675dcff32f9826fa58520554a207d5d3e3c0"), looks := true }, kinds := [], alts := [], laidByText := true, laidKinds := [.data, .data], laidTests := true, laidLooks := .later }
def FnExactCountSayableUptoCardSaid : Prop := Claim7.holds Tryd.pinned (.plain (OpenSpec.upto fnExactCountSayableSpec)) fnExactCountSayableUptoCard
end Rows
end Go.Proofs.YtoaknplfphoiaaaDoor
