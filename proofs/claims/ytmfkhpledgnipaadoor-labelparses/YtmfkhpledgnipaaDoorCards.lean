/-
  DERIVED. GIVEN WITH THE SEED: THE CARDS: each row of YtmfkhpledgnipaaDoorRows.lean that lists a variable, with what it lists TIED to the program's text (the seventh form; the later family's looks); each row that meets fmt, with fmt's text TOLD by the authors' own Lean function (tested against real Go, not proved from fmt's source: count such statements apart). THE CARD IS WHAT COUNTS. Prove the row's statement (the work); the ties are given (YtmfkhpledgnipaaDoorTie.lean); close each card by the builder's one call (the guide's Derived/Test/ToyasCard.lean, 'card_holds'). Laid BY PROGRAM, IN A SANDBOX (cutbox-door.mjs). By AI agents, Wed Nov 11 2026. No macro, syntax, notation, axiom, sorry.
-/
import Derived.Test.YtmfkhpledgnipaaDoorRows
import GoSem.ClaimSeven
namespace Go.Proofs.YtmfkhpledgnipaaDoor
namespace Rows

/-- THE TIED CARD OF 'graftlaw2.LabelRound'. -/
def labelRoundCard : Claim7 := { stood := { row := labelRoundRow, standIns := [], harness := (true, "66083960ad12bdf37f21440e81c3cf1c0cf94c212184b6615059e45a32803eb9"), looks := false }, kinds := [], alts := [], laidByText := true, laidKinds := [.data], laidTests := true, laidLooks := .later }
def LabelRoundCardSaid : Prop := Claim7.holds Tryd.pinned (.plain (OpenSpec.ofChange labelRoundSpec)) labelRoundCard

/-- THE TIED CARD OF 'graftlaw2.LabelWays'. -/
def labelWaysCard : Claim7 := { stood := { row := labelWaysRow, standIns := [], harness := (true, "66083960ad12bdf37f21440e81c3cf1c0cf94c212184b6615059e45a32803eb9"), looks := false }, kinds := [], alts := [], laidByText := true, laidKinds := [.data], laidTests := true, laidLooks := .later }
def LabelWaysCardSaid : Prop := Claim7.holds Tryd.pinned (.plain (OpenSpec.ofChange labelWaysSpec)) labelWaysCard

/-- THE TIED CARD OF 'graftlaw2.LabelPrints'. -/
def labelPrintsCard : Claim7 := { stood := { row := labelPrintsRow, standIns := [], harness := (true, "66083960ad12bdf37f21440e81c3cf1c0cf94c212184b6615059e45a32803eb9"), looks := false }, kinds := [], alts := [], laidByText := true, laidKinds := [.data], laidTests := true, laidLooks := .later }
def LabelPrintsCardSaid : Prop := Claim7.holds Tryd.pinned (.plain (OpenSpec.ofChange labelPrintsSpec)) labelPrintsCard

/-- THE TIED CARD OF 'graftlaw2.LabelParses'. -/
def labelParsesCard : Claim7 := { stood := { row := labelParsesRow, standIns := [], harness := (true, "66083960ad12bdf37f21440e81c3cf1c0cf94c212184b6615059e45a32803eb9"), looks := false }, kinds := [], alts := [], laidByText := true, laidKinds := [.data], laidTests := true, laidLooks := .later }
def LabelParsesCardSaid : Prop := Claim7.holds Tryd.pinned (.plain (OpenSpec.ofChange labelParsesSpec)) labelParsesCard

/-- THE SECOND FORM's CARD OF 'graftlaw2.LabelRound'. -/
def labelRoundUptoCard : Claim7 := { stood := { row := labelRoundUptoRow, standIns := [], harness := (true, "66083960ad12bdf37f21440e81c3cf1c0cf94c212184b6615059e45a32803eb9"), looks := false }, kinds := [], alts := [], laidByText := true, laidKinds := [.data], laidTests := true, laidLooks := .later }
def LabelRoundUptoCardSaid : Prop := Claim7.holds Tryd.pinned (.plain (OpenSpec.upto labelRoundSpec)) labelRoundUptoCard

/-- THE SECOND FORM's CARD OF 'graftlaw2.LabelWays'. -/
def labelWaysUptoCard : Claim7 := { stood := { row := labelWaysUptoRow, standIns := [], harness := (true, "66083960ad12bdf37f21440e81c3cf1c0cf94c212184b6615059e45a32803eb9"), looks := false }, kinds := [], alts := [], laidByText := true, laidKinds := [.data], laidTests := true, laidLooks := .later }
def LabelWaysUptoCardSaid : Prop := Claim7.holds Tryd.pinned (.plain (OpenSpec.upto labelWaysSpec)) labelWaysUptoCard

/-- THE SECOND FORM's CARD OF 'graftlaw2.LabelPrints'. -/
def labelPrintsUptoCard : Claim7 := { stood := { row := labelPrintsUptoRow, standIns := [], harness := (true, "66083960ad12bdf37f21440e81c3cf1c0cf94c212184b6615059e45a32803eb9"), looks := false }, kinds := [], alts := [], laidByText := true, laidKinds := [.data], laidTests := true, laidLooks := .later }
def LabelPrintsUptoCardSaid : Prop := Claim7.holds Tryd.pinned (.plain (OpenSpec.upto labelPrintsSpec)) labelPrintsUptoCard

/-- THE SECOND FORM's CARD OF 'graftlaw2.LabelParses'. -/
def labelParsesUptoCard : Claim7 := { stood := { row := labelParsesUptoRow, standIns := [], harness := (true, "66083960ad12bdf37f21440e81c3cf1c0cf94c212184b6615059e45a32803eb9"), looks := false }, kinds := [], alts := [], laidByText := true, laidKinds := [.data], laidTests := true, laidLooks := .later }
def LabelParsesUptoCardSaid : Prop := Claim7.holds Tryd.pinned (.plain (OpenSpec.upto labelParsesSpec)) labelParsesUptoCard
end Rows
end Go.Proofs.YtmfkhpledgnipaaDoor
