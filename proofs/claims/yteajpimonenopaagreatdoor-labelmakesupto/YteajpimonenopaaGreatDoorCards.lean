/-
  DERIVED. GIVEN WITH THE SEED: THE CARDS: each row of YteajpimonenopaaGreatDoorRows.lean that lists a variable, with what it lists TIED to the program's text (the seventh form; the later family's looks); each row that meets fmt, with fmt's text TOLD by the authors' own Lean function (tested against real Go, not proved from fmt's source: count such statements apart). THE CARD IS WHAT COUNTS. Prove the row's statement (the work); the ties are given (YteajpimonenopaaGreatDoorTie.lean); close each card by the builder's one call (the guide's Derived/Test/ToyasCard.lean, 'card_holds'). Laid BY PROGRAM, IN A SANDBOX (cutbox-door.mjs). By AI agents, Wed Nov 11 2026. No macro, syntax, notation, axiom, sorry.
-/
import Derived.Test.YteajpimonenopaaGreatDoorRows
import GoSem.ClaimSeven
namespace Go.Proofs.YteajpimonenopaaGreatDoor
namespace Rows

/-- THE TIED CARD OF 'graftlaw2.LabelMakes'. -/
def labelMakesCard : Claim7 := { stood := { row := labelMakesRow, standIns := [], harness := (true, "e77dd1ad1922275b28448b4da68b6862968eff0be4a8f6fa65ed1f80b7f5d6ff"), looks := false }, kinds := [], alts := [], laidByText := true, laidKinds := [.data, .data, .data, .data, .data, .data, .data, .data, .data, .data], laidTests := true, laidLooks := .later }
def LabelMakesCardSaid : Prop := Claim7.holds Tryz.pinned (.plain (OpenSpec.ofChange labelMakesSpec)) labelMakesCard

/-- THE SECOND FORM's CARD OF 'graftlaw2.LabelMakes'. -/
def labelMakesUptoCard : Claim7 := { stood := { row := labelMakesUptoRow, standIns := [], harness := (true, "e77dd1ad1922275b28448b4da68b6862968eff0be4a8f6fa65ed1f80b7f5d6ff"), looks := false }, kinds := [], alts := [], laidByText := true, laidKinds := [.data, .data, .data, .data, .data, .data, .data, .data, .data, .data], laidTests := true, laidLooks := .later }
def LabelMakesUptoCardSaid : Prop := Claim7.holds Tryz.pinned (.plain (OpenSpec.upto labelMakesSpec)) labelMakesUptoCard
end Rows
end Go.Proofs.YteajpimonenopaaGreatDoor
