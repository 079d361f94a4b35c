/-
  DERIVED. GIVEN WITH THE SEED: THE CARDS: each row of YtlkbhgjmppcfoaaDoorRows.lean that lists a variable, with what it lists TIED to the program's text (the seventh form; the later family's looks); each row that meets fmt, with fmt's text TOLD by the authors' own Lean function (tested against real Go, not proved from fmt's source: count such statements apart). THE CARD IS WHAT COUNTS. Prove the row's statement (the work); the ties are given (YtlkbhgjmppcfoaaDoorTie.lean); close each card by the builder's one call (the guide's Derived/Test/ToyasCard.lean, 'card_holds'). Laid BY PROGRAM, IN A SANDBOX (cutbox-door.mjs). By AI agents, Wed Nov 11 2026. No macro, syntax, notation, axiom, sorry.
-/
import Derived.Test.YtlkbhgjmppcfoaaDoorRows
import GoSem.ClaimSeven
namespace Go.Proofs.YtlkbhgjmppcfoaaDoor
namespace Rows

/-- THE TIED CARD OF 'graftlaw2.LabelCalls'. -/
def labelCallsCard : Claim7 := { stood := { row := labelCallsRow, standIns := [], harness := (true, "84e8c65cd31423324df4b313f9d6bc3f0b3e8acba3b81d304b1b9ea029941e1f"), looks := false }, kinds := [], alts := [], laidByText := true, laidKinds := [.data, .data, .data, .data, .data, .data, .data, .data], laidTests := true, laidLooks := .later }
def LabelCallsCardSaid : Prop := Claim7.holds Tryd.pinned (.plain (OpenSpec.ofChange labelCallsSpec)) labelCallsCard

/-- THE TIED CARD OF 'graftlaw2.LabelSays'. -/
def labelSaysCard : Claim7 := { stood := { row := labelSaysRow, standIns := [], harness := (true, "84e8c65cd31423324df4b313f9d6bc3f0b3e8acba3b81d304b1b9ea029941e1f"), looks := false }, kinds := [], alts := [], laidByText := true, laidKinds := [.data, .data, .data, .data, .data, .data, .data, .data, .data, .data], laidTests := true, laidLooks := .later }
def LabelSaysCardSaid : Prop := Claim7.holds Tryd.pinned (.plain (OpenSpec.ofChange labelSaysSpec)) labelSaysCard

/-- THE SECOND FORM's CARD OF 'graftlaw2.LabelCalls'. -/
def labelCallsUptoCard : Claim7 := { stood := { row := labelCallsUptoRow, standIns := [], harness := (true, "84e8c65cd31423324df4b313f9d6bc3f0b3e8acba3b81d304b1b9ea029941e1f"), looks := false }, kinds := [], alts := [], laidByText := true, laidKinds := [.data, .data, .data, .data, .data, .data, .data, .data], laidTests := true, laidLooks := .later }
def LabelCallsUptoCardSaid : Prop := Claim7.holds Tryd.pinned (.plain (OpenSpec.upto labelCallsSpec)) labelCallsUptoCard

/-- THE SECOND FORM's CARD OF 'graftlaw2.LabelSays'. -/
def labelSaysUptoCard : Claim7 := { stood := { row := labelSaysUptoRow, standIns := [], harness := (true, "84e8c65cd31423324df4b313f9d6bc3f0b3e8acba3b81d304b1b9ea029941e1f"), looks := false }, kinds := [], alts := [], laidByText := true, laidKinds := [.data, .data, .data, .data, .data, .data, .data, .data, .data, .data], laidTests := true, laidLooks := .later }
def LabelSaysUptoCardSaid : Prop := Claim7.holds Tryd.pinned (.plain (OpenSpec.upto labelSaysSpec)) labelSaysUptoCard
end Rows
end Go.Proofs.YtlkbhgjmppcfoaaDoor
