/-
  DERIVED. GIVEN WITH THE SEED: THE CARDS: each row of YtgimkeklnpppjaaDoorRows.lean that lists a variable, with what it lists TIED to the program's text (the seventh form; the later family's looks); each row that meets fmt, with fmt's text TOLD by the authors' own Lean function (tested against real Go, not proved from fmt's source: count such statements apart). THE CARD IS WHAT COUNTS. Prove the row's statement (the work); the ties are given (YtgimkeklnpppjaaDoorTie.lean); close each card by the builder's one call (the guide's Derived/Test/ToyasCard.lean, 'card_holds'). Laid BY PROGRAM, IN A SANDBOX (cutbox-door.mjs). By AI agents, Wed Nov 11 2026. No macro, syntax, notation, axiom, sorry.
-/
import Derived.Test.YtgimkeklnpppjaaDoorRows
import GoSem.ClaimSeven
namespace Go.Proofs.YtgimkeklnpppjaaDoor
namespace Rows

/-- THE TIED CARD OF 'graftlaw10.CardDepots'. -/
def cardDepotsCard : Claim7 := { stood := { row := cardDepotsRow, standIns := [], harness := (true, "845838796414c657fa52485ac58d4fd08b11d2c00a44008dd3408cbb3125143f"), looks := true }, kinds := [], alts := [], laidByText := true, laidKinds := [.data, .data, .data, .handle, .sentinel, .sentinel, .sentinel, .sentinel, .sentinel, .sentinel, .sentinel, .sentinel, .data], laidTests := true, laidLooks := .later }
def CardDepotsCardSaid : Prop := Claim7.holds Tryd.pinned (.plain (OpenSpec.ofChange cardDepotsSpec)) cardDepotsCard

/-- THE SECOND FORM's CARD OF 'graftlaw10.CardDepots'. -/
def cardDepotsUptoCard : Claim7 := { stood := { row := cardDepotsUptoRow, standIns := [], harness := (true, "845838796414c657fa52485ac58d4fd08b11d2c00a44008dd3408cbb3125143f"), looks := true }, kinds := [], alts := [], laidByText := true, laidKinds := [.data, .data, .data, .handle, .sentinel, .sentinel, .sentinel, .sentinel, .sentinel, .sentinel, .sentinel, .sentinel, .data], laidTests := true, laidLooks := .later }
def CardDepotsUptoCardSaid : Prop := Claim7.holds Tryd.pinned (.plain (OpenSpec.upto cardDepotsSpec)) cardDepotsUptoCard
end Rows
end Go.Proofs.YtgimkeklnpppjaaDoor
