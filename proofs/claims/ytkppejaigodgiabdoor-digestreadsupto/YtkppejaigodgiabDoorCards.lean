/-
  DERIVED. GIVEN WITH THE SEED: THE CARDS: each row of YtkppejaigodgiabDoorRows.lean that lists a variable, with what it lists TIED to the program's text (the seventh form; the later family's looks); each row that meets fmt, with fmt's text TOLD by the authors' own Lean function (tested against real Go, not proved from fmt's source: count such statements apart). THE CARD IS WHAT COUNTS. Prove the row's statement (the work); the ties are given (YtkppejaigodgiabDoorTie.lean); close each card by the builder's one call (the guide's Derived/Test/ToyasCard.lean, 'card_holds'). Laid BY PROGRAM, IN A SANDBOX (cutbox-door.mjs). By AI agents, Wed Nov 11 2026. No macro, syntax, notation, axiom, sorry.
-/
import Derived.Test.YtkppejaigodgiabDoorRows
import GoSem.ClaimSeven
namespace Go.Proofs.YtkppejaigodgiabDoor
namespace Rows

/-- THE TIED CARD OF 'graftlaw1.DigestTexts'. -/
def digestTextsCard : Claim7 := { stood := { row := digestTextsRow, standIns := [], harness := (true, "9c0b450f1acad87fafaa3e2899a31f8f377596030564bd11c1d2d1415db0065b"), looks := false }, kinds := [], alts := [], laidByText := true, laidKinds := [.data, .data, .data], laidTests := true, laidLooks := .later }
def DigestTextsCardSaid : Prop := Claim7.holds Tryd.pinned (.plain (OpenSpec.ofChange digestTextsSpec)) digestTextsCard

/-- THE TIED CARD OF 'graftlaw1.DigestBack'. -/
def digestBackCard : Claim7 := { stood := { row := digestBackRow, standIns := [], harness := (true, "9c0b450f1acad87fafaa3e2899a31f8f377596030564bd11c1d2d1415db0065b"), looks := false }, kinds := [], alts := [], laidByText := true, laidKinds := [.data, .data, .data], laidTests := true, laidLooks := .later }
def DigestBackCardSaid : Prop := Claim7.holds Tryd.pinned (.plain (OpenSpec.ofChange digestBackSpec)) digestBackCard

/-- THE TIED CARD OF 'graftlaw1.DigestCanon'. -/
def digestCanonCard : Claim7 := { stood := { row := digestCanonRow, standIns := [], harness := (true, "9c0b450f1acad87fafaa3e2899a31f8f377596030564bd11c1d2d1415db0065b"), looks := false }, kinds := [], alts := [], laidByText := true, laidKinds := [.data, .data, .data], laidTests := true, laidLooks := .later }
def DigestCanonCardSaid : Prop := Claim7.holds Tryd.pinned (.plain (OpenSpec.ofChange digestCanonSpec)) digestCanonCard

/-- THE TIED CARD OF 'graftlaw1.DigestReads'. -/
def digestReadsCard : Claim7 := { stood := { row := digestReadsRow, standIns := [], harness := (true, "9c0b450f1acad87fafaa3e2899a31f8f377596030564bd11c1d2d1415db0065b"), looks := false }, kinds := [], alts := [], laidByText := true, laidKinds := [.data, .data, .data], laidTests := true, laidLooks := .later }
def DigestReadsCardSaid : Prop := Claim7.holds Tryd.pinned (.plain (OpenSpec.ofChange digestReadsSpec)) digestReadsCard

/-- THE TIED CARD OF 'graftlaw1.DigestLabels'. -/
def digestLabelsCard : Claim7 := { stood := { row := digestLabelsRow, standIns := [], harness := (true, "9c0b450f1acad87fafaa3e2899a31f8f377596030564bd11c1d2d1415db0065b"), looks := false }, kinds := [], alts := [], laidByText := true, laidKinds := [.data, .data, .data, .data, .data], laidTests := true, laidLooks := .later }
def DigestLabelsCardSaid : Prop := Claim7.holds Tryd.pinned (.plain (OpenSpec.ofChange digestLabelsSpec)) digestLabelsCard

/-- THE TIED CARD OF 'graftlaw1.DigestSums'. -/
def digestSumsCard : Claim7 := { stood := { row := digestSumsRow, standIns := [], harness := (true, "9c0b450f1acad87fafaa3e2899a31f8f377596030564bd11c1d2d1415db0065b"), looks := false }, kinds := [], alts := [], laidByText := true, laidKinds := [.data, .data, .data, .data], laidTests := true, laidLooks := .later }
def DigestSumsCardSaid : Prop := Claim7.holds Tryd.pinned (.plain (OpenSpec.ofChange digestSumsSpec)) digestSumsCard

/-- THE SECOND FORM's CARD OF 'graftlaw1.DigestTexts'. -/
def digestTextsUptoCard : Claim7 := { stood := { row := digestTextsUptoRow, standIns := [], harness := (true, "9c0b450f1acad87fafaa3e2899a31f8f377596030564bd11c1d2d1415db0065b"), looks := false }, kinds := [], alts := [], laidByText := true, laidKinds := [.data, .data, .data], laidTests := true, laidLooks := .later }
def DigestTextsUptoCardSaid : Prop := Claim7.holds Tryd.pinned (.plain (OpenSpec.upto digestTextsSpec)) digestTextsUptoCard

/-- THE SECOND FORM's CARD OF 'graftlaw1.DigestBack'. -/
def digestBackUptoCard : Claim7 := { stood := { row := digestBackUptoRow, standIns := [], harness := (true, "9c0b450f1acad87fafaa3e2899a31f8f377596030564bd11c1d2d1415db0065b"), looks := false }, kinds := [], alts := [], laidByText := true, laidKinds := [.data, .data, .data], laidTests := true, laidLooks := .later }
def DigestBackUptoCardSaid : Prop := Claim7.holds Tryd.pinned (.plain (OpenSpec.upto digestBackSpec)) digestBackUptoCard

/-- THE SECOND FORM's CARD OF 'graftlaw1.DigestCanon'. -/
def digestCanonUptoCard : Claim7 := { stood := { row := digestCanonUptoRow, standIns := [], harness := (true, "9c0b450f1acad87fafaa3e2899a31f8f377596030564bd11c1d2d1415db0065b"), looks := false }, kinds := [], alts := [], laidByText := true, laidKinds := [.data, .data, .data], laidTests := true, laidLooks := .later }
def DigestCanonUptoCardSaid : Prop := Claim7.holds Tryd.pinned (.plain (OpenSpec.upto digestCanonSpec)) digestCanonUptoCard

/-- THE SECOND FORM's CARD OF 'graftlaw1.DigestReads'. -/
def digestReadsUptoCard : Claim7 := { stood := { row := digestReadsUptoRow, standIns := [], harness := (true, "9c0b450f1acad87fafaa3e2899a31f8f377596030564bd11c1d2d1415db0065b"), looks := false }, kinds := [], alts := [], laidByText := true, laidKinds := [.data, .data, .data], laidTests := true, laidLooks := .later }
def DigestReadsUptoCardSaid : Prop := Claim7.holds Tryd.pinned (.plain (OpenSpec.upto digestReadsSpec)) digestReadsUptoCard

/-- THE SECOND FORM's CARD OF 'graftlaw1.DigestLabels'. -/
def digestLabelsUptoCard : Claim7 := { stood := { row := digestLabelsUptoRow, standIns := [], harness := (true, "9c0b450f1acad87fafaa3e2899a31f8f377596030564bd11c1d2d1415db0065b"), looks := false }, kinds := [], alts := [], laidByText := true, laidKinds := [.data, .data, .data, .data, .data], laidTests := true, laidLooks := .later }
def DigestLabelsUptoCardSaid : Prop := Claim7.holds Tryd.pinned (.plain (OpenSpec.upto digestLabelsSpec)) digestLabelsUptoCard

/-- THE SECOND FORM's CARD OF 'graftlaw1.DigestSums'. -/
def digestSumsUptoCard : Claim7 := { stood := { row := digestSumsUptoRow, standIns := [], harness := (true, "9c0b450f1acad87fafaa3e2899a31f8f377596030564bd11c1d2d1415db0065b"), looks := false }, kinds := [], alts := [], laidByText := true, laidKinds := [.data, .data, .data, .data], laidTests := true, laidLooks := .later }
def DigestSumsUptoCardSaid : Prop := Claim7.holds Tryd.pinned (.plain (OpenSpec.upto digestSumsSpec)) digestSumsUptoCard
end Rows
end Go.Proofs.YtkppejaigodgiabDoor
