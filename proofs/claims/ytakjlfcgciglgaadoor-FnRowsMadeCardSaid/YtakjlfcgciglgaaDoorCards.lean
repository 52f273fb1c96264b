/-
  DERIVED. GIVEN WITH THE SEED: THE CARDS: each row of YtakjlfcgciglgaaDoorRows.lean that lists a variable, with what it lists TIED to the program's text (the seventh form; the later family's looks); each row that meets fmt, with fmt's text TOLD by the authors' own Lean function (tested against real Go, not proved from fmt's source: count such statements apart). THE CARD IS WHAT COUNTS. Prove the row's statement (the work); the ties are given (YtakjlfcgciglgaaDoorTie.lean); close each card by the builder's one call (the guide's Derived/Test/ToyasCard.lean, 'card_holds'). Laid BY PROGRAM, IN A SANDBOX (cutbox-door.mjs). By AI agents, Wed Nov 11 2026. No macro, syntax, notation, axiom, sorry.
-/
import Derived.Test.YtakjlfcgciglgaaDoorRows
import GoSem.ClaimSeven
namespace Go.Proofs.YtakjlfcgciglgaaDoor
namespace Rows

/-- THE TIED CARD OF 'laws.FnRowsMade'. -/
def fnRowsMadeCard : Claim7 := { stood := { row := fnRowsMadeRow, standIns := [], harness := (true, "b75ca2db7f5dcda2f3fe247842a81fdfc166bb503a7f379b19f74bc87095a966"), looks := false }, kinds := [], alts := [], laidByText := true, laidKinds := [.data, .data], laidTests := true, laidLooks := .later }
def FnRowsMadeCardSaid : Prop := Claim7.holds Tryd.pinned (.plain (OpenSpec.ofChange fnRowsMadeSpec)) fnRowsMadeCard

/-- THE SECOND FORM's CARD OF 'laws.FnRowsMade'. -/
def fnRowsMadeUptoCard : Claim7 := { stood := { row := fnRowsMadeUptoRow, standIns := [], harness := (true, "b75ca2db7f5dcda2f3fe247842a81fdfc166bb503a7f379b19f74bc87095a966"), looks := false }, kinds := [], alts := [], laidByText := true, laidKinds := [.data, .data], laidTests := true, laidLooks := .later }
def FnRowsMadeUptoCardSaid : Prop := Claim7.holds Tryd.pinned (.plain (OpenSpec.upto fnRowsMadeSpec)) fnRowsMadeUptoCard
end Rows
end Go.Proofs.YtakjlfcgciglgaaDoor
