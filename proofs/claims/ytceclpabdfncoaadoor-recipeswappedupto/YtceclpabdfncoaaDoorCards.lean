/-
  DERIVED. GIVEN WITH THE SEED: THE CARDS: each row of YtceclpabdfncoaaDoorRows.lean that lists a variable, with what it lists TIED to the program's text (the seventh form; the later family's looks); each row that meets fmt, with fmt's text TOLD by the authors' own Lean function (tested against real Go, not proved from fmt's source: count such statements apart). THE CARD IS WHAT COUNTS. Prove the row's statement (the work); the ties are given (YtceclpabdfncoaaDoorTie.lean); close each card by the builder's one call (the guide's Derived/Test/ToyasCard.lean, 'card_holds'). Laid BY PROGRAM, IN A SANDBOX (cutbox-door.mjs). By AI agents, Wed Nov 11 2026. No macro, syntax, notation, axiom, sorry.
-/
import Derived.Test.YtceclpabdfncoaaDoorRows
import GoSem.ClaimSeven
namespace Go.Proofs.YtceclpabdfncoaaDoor
namespace Rows

/-- THE TIED CARD OF 'graftlaw6.RecipeSwapped'. -/
def recipeSwappedCard : Claim7 := { stood := { row := recipeSwappedRow, standIns := [], harness := (true, "24b4f1f3aaeaa35dd701cae37ebae1dde81bf488e044b303229e49754ff010b0"), looks := false }, kinds := [], alts := [], laidByText := true, laidKinds := [.data, .data, .data, .data], laidTests := true, laidLooks := .later }
def RecipeSwappedCardSaid : Prop := Claim7.holds Tryd.pinned (.plain (OpenSpec.ofChange recipeSwappedSpec)) recipeSwappedCard

/-- THE SECOND FORM's CARD OF 'graftlaw6.RecipeSwapped'. -/
def recipeSwappedUptoCard : Claim7 := { stood := { row := recipeSwappedUptoRow, standIns := [], harness := (true, "24b4f1f3aaeaa35dd701cae37ebae1dde81bf488e044b303229e49754ff010b0"), looks := false }, kinds := [], alts := [], laidByText := true, laidKinds := [.data, .data, .data, .data], laidTests := true, laidLooks := .later }
def RecipeSwappedUptoCardSaid : Prop := Claim7.holds Tryd.pinned (.plain (OpenSpec.upto recipeSwappedSpec)) recipeSwappedUptoCard
end Rows
end Go.Proofs.YtceclpabdfncoaaDoor
