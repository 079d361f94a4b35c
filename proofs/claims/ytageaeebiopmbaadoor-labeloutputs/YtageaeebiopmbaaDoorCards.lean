/-
  DERIVED. GIVEN WITH THE SEED: THE CARDS: each row of YtageaeebiopmbaaDoorRows.lean that lists a variable, with what it lists TIED to the program's text (the seventh form; the later family's looks); each row that meets fmt, with fmt's text TOLD by the authors' own Lean function (tested against real Go, not proved from fmt's source: count such statements apart). THE CARD IS WHAT COUNTS. Prove the row's statement (the work); the ties are given (YtageaeebiopmbaaDoorTie.lean); close each card by the builder's one call (the guide's Derived/Test/ToyasCard.lean, 'card_holds'). Laid BY PROGRAM, IN A SANDBOX (cutbox-door.mjs). By AI agents, Wed Nov 11 2026. No macro, syntax, notation, axiom, sorry.
-/
import Derived.Test.YtageaeebiopmbaaDoorRows
import GoSem.ClaimSeven
namespace Go.Proofs.YtageaeebiopmbaaDoor
namespace Rows

/-- THE TIED CARD OF 'graftlaw2.LabelOutputs'. -/
def labelOutputsCard : Claim7 := { stood := { row := labelOutputsRow, standIns := [], harness := (true, "da50a3898fac8ef883f682eef0318206afd578eb19c93cfa26ef1287b4767adc"), looks := false }, kinds := [], alts := [], laidByText := true, laidKinds := [.data, .data, .data, .data, .data, .data, .data, .data], laidTests := true, laidLooks := .later }
def LabelOutputsCardSaid : Prop := Claim7.holds Tryd.pinned (.plain (OpenSpec.ofChange labelOutputsSpec)) labelOutputsCard

/-- THE SECOND FORM's CARD OF 'graftlaw2.LabelOutputs'. -/
def labelOutputsUptoCard : Claim7 := { stood := { row := labelOutputsUptoRow, standIns := [], harness := (true, "da50a3898fac8ef883f682eef0318206afd578eb19c93cfa26ef1287b4767adc"), looks := false }, kinds := [], alts := [], laidByText := true, laidKinds := [.data, .data, .data, .data, .data, .data, .data, .data], laidTests := true, laidLooks := .later }
def LabelOutputsUptoCardSaid : Prop := Claim7.holds Tryd.pinned (.plain (OpenSpec.upto labelOutputsSpec)) labelOutputsUptoCard
end Rows
end Go.Proofs.YtageaeebiopmbaaDoor
