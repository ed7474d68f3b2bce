/-
  DERIVED. GIVEN WITH THE SEED: THE CARDS: each row of YtjoapeeljigjcaaDoorRows.lean that lists a variable, with what it lists TIED to the program's text (the seventh form; the later family's looks); each row that meets fmt, with fmt's text TOLD by the authors' own Lean function (tested against real Go, not proved from fmt's source: count such statements apart). THE CARD IS WHAT COUNTS. Prove the row's statement (the work); the ties are given (YtjoapeeljigjcaaDoorTie.lean); close each card by the builder's one call (the guide's Derived/Test/ToyasCard.lean, 'card_holds'). Laid BY PROGRAM, IN A SANDBOX (cutbox-door.mjs). By AI agents, Wed Nov 11 2026. No macro, syntax, notation, axiom, sorry.
-/
import Derived.Test.YtjoapeeljigjcaaDoorRows
import GoSem.ClaimSeven
namespace Go.Proofs.YtjoapeeljigjcaaDoor
namespace Rows

/-- THE TIED CARD OF 'carryalllaw17.UserNames'. -/
def userNamesCard : Claim7 := { stood := { row := userNamesRow, standIns := [], harness := (true, "8fccdf9fdba3754a348861431742b4e75d6dacf44a838b41b79da7b8e6c15c15"), looks := false }, kinds := [], alts := [], laidByText := true, laidKinds := [.data, .data, .data], laidTests := true, laidLooks := .later }
def UserNamesCardSaid : Prop := Claim7.holds Tryd.pinned (.plain (OpenSpec.ofChange userNamesSpec)) userNamesCard

/-- THE SECOND FORM's CARD OF 'carryalllaw17.UserNames'. -/
def userNamesUptoCard : Claim7 := { stood := { row := userNamesUptoRow, standIns := [], harness := (true, "8fccdf9fdba3754a348861431742b4e75d6dacf44a838b41b79da7b8e6c15c15"), looks := false }, kinds := [], alts := [], laidByText := true, laidKinds := [.data, .data, .data], laidTests := true, laidLooks := .later }
def UserNamesUptoCardSaid : Prop := Claim7.holds Tryd.pinned (.plain (OpenSpec.upto userNamesSpec)) userNamesUptoCard
end Rows
end Go.Proofs.YtjoapeeljigjcaaDoor
