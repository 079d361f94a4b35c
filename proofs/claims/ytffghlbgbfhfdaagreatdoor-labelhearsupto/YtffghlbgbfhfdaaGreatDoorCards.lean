/-
  DERIVED. GIVEN WITH THE SEED: THE CARDS: each row of YtffghlbgbfhfdaaGreatDoorRows.lean that lists a variable, with what it lists TIED to the program's text (the seventh form; the later family's looks); each row that meets fmt, with fmt's text TOLD by the authors' own Lean function (tested against real Go, not proved from fmt's source: count such statements apart). THE CARD IS WHAT COUNTS. Prove the row's statement (the work); the ties are given (YtffghlbgbfhfdaaGreatDoorTie.lean); close each card by the builder's one call (the guide's Derived/Test/ToyasCard.lean, 'card_holds'). Laid BY PROGRAM, IN A SANDBOX (cutbox-door.mjs). By AI agents, Wed Nov 11 2026. No macro, syntax, notation, axiom, sorry.
-/
import Derived.Test.YtffghlbgbfhfdaaGreatDoorRows
import GoSem.ClaimSeven
namespace Go.Proofs.YtffghlbgbfhfdaaGreatDoor
namespace Rows

/-- THE TIED CARD OF 'graftlaw2.LabelHears'. -/
def labelHearsCard : Claim7 := { stood := { row := labelHearsRow, standIns := [], harness := (true, "fcb266bd8f06f14578439276095c157365d1db4ee502bfcb474aa8e5387d6453"), looks := true }, kinds := [], alts := [], laidByText := true, laidKinds := [.data, .data, .data, .sentinel, .sentinel, .data, .data, .data], laidTests := true, laidLooks := .later }
def LabelHearsCardSaid : Prop := Claim7.holds Tryz.pinned (.plain (OpenSpec.ofChange labelHearsSpec)) labelHearsCard

/-- THE SECOND FORM's CARD OF 'graftlaw2.LabelHears'. -/
def labelHearsUptoCard : Claim7 := { stood := { row := labelHearsUptoRow, standIns := [], harness := (true, "fcb266bd8f06f14578439276095c157365d1db4ee502bfcb474aa8e5387d6453"), looks := true }, kinds := [], alts := [], laidByText := true, laidKinds := [.data, .data, .data, .sentinel, .sentinel, .data, .data, .data], laidTests := true, laidLooks := .later }
def LabelHearsUptoCardSaid : Prop := Claim7.holds Tryz.pinned (.plain (OpenSpec.upto labelHearsSpec)) labelHearsUptoCard
end Rows
end Go.Proofs.YtffghlbgbfhfdaaGreatDoor
