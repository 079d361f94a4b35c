/-
  DERIVED. GIVEN WITH THE SEED: THE CARDS: each row of YtfimaflglnemdaaDoorRows.lean that lists a variable, with what it lists TIED to the program's text (the seventh form; the later family's looks); each row that meets fmt, with fmt's text TOLD by the authors' own Lean function (tested against real Go, not proved from fmt's source: count such statements apart). THE CARD IS WHAT COUNTS. Prove the row's statement (the work); the ties are given (YtfimaflglnemdaaDoorTie.lean); close each card by the builder's one call (the guide's Derived/Test/ToyasCard.lean, 'card_holds'). Laid BY PROGRAM, IN A SANDBOX (cutbox-door.mjs). By AI agents, Wed Nov 11 2026. No macro, syntax, notation, axiom, sorry.
-/
import Derived.Test.YtfimaflglnemdaaDoorRows
import GoSem.ClaimSeven
namespace Go.Proofs.YtfimaflglnemdaaDoor
namespace Rows

/-- THE TIED CARD OF 'graftlaw11.JournalCrash'. -/
def journalCrashCard : Claim7 := { stood := { row := journalCrashRow, standIns := [], harness := (true, "c3684d5b595ce1c4348da2182948fc321ccc3507742323afb07167168ed47306"), looks := true }, kinds := [], alts := [], laidByText := true, laidKinds := [.data], laidTests := true, laidLooks := .later }
def JournalCrashCardSaid : Prop := Claim7.holds Tryd.pinned (.plain (OpenSpec.ofChange journalCrashSpec)) journalCrashCard

/-- THE TIED CARD OF 'graftlaw11.JournalEach'. -/
def journalEachCard : Claim7 := { stood := { row := journalEachRow, standIns := [], harness := (true, "c3684d5b595ce1c4348da2182948fc321ccc3507742323afb07167168ed47306"), looks := true }, kinds := [], alts := [], laidByText := true, laidKinds := [.data], laidTests := true, laidLooks := .later }
def JournalEachCardSaid : Prop := Claim7.holds Tryd.pinned (.plain (OpenSpec.ofChange journalEachSpec)) journalEachCard

/-- THE TIED CARD OF 'graftlaw11.JournalAgain'. -/
def journalAgainCard : Claim7 := { stood := { row := journalAgainRow, standIns := [], harness := (true, "c3684d5b595ce1c4348da2182948fc321ccc3507742323afb07167168ed47306"), looks := true }, kinds := [], alts := [], laidByText := true, laidKinds := [.data], laidTests := true, laidLooks := .later }
def JournalAgainCardSaid : Prop := Claim7.holds Tryd.pinned (.plain (OpenSpec.ofChange journalAgainSpec)) journalAgainCard

/-- THE TIED CARD OF 'graftlaw11.JournalNil'. -/
def journalNilCard : Claim7 := { stood := { row := journalNilRow, standIns := [], harness := (true, "c3684d5b595ce1c4348da2182948fc321ccc3507742323afb07167168ed47306"), looks := true }, kinds := [], alts := [], laidByText := true, laidKinds := [.data], laidTests := true, laidLooks := .later }
def JournalNilCardSaid : Prop := Claim7.holds Tryd.pinned (.plain (OpenSpec.ofChange journalNilSpec)) journalNilCard

/-- THE TIED CARD OF 'graftlaw11.JournalFresh'. -/
def journalFreshCard : Claim7 := { stood := { row := journalFreshRow, standIns := [], harness := (true, "c3684d5b595ce1c4348da2182948fc321ccc3507742323afb07167168ed47306"), looks := true }, kinds := [], alts := [], laidByText := true, laidKinds := [.data], laidTests := true, laidLooks := .later }
def JournalFreshCardSaid : Prop := Claim7.holds Tryd.pinned (.plain (OpenSpec.ofChange journalFreshSpec)) journalFreshCard

/-- THE SECOND FORM's CARD OF 'graftlaw11.JournalCrash'. -/
def journalCrashUptoCard : Claim7 := { stood := { row := journalCrashUptoRow, standIns := [], harness := (true, "c3684d5b595ce1c4348da2182948fc321ccc3507742323afb07167168ed47306"), looks := true }, kinds := [], alts := [], laidByText := true, laidKinds := [.data], laidTests := true, laidLooks := .later }
def JournalCrashUptoCardSaid : Prop := Claim7.holds Tryd.pinned (.plain (OpenSpec.upto journalCrashSpec)) journalCrashUptoCard

/-- THE SECOND FORM's CARD OF 'graftlaw11.JournalEach'. -/
def journalEachUptoCard : Claim7 := { stood := { row := journalEachUptoRow, standIns := [], harness := (true, "c3684d5b595ce1c4348da2182948fc321ccc3507742323afb07167168ed47306"), looks := true }, kinds := [], alts := [], laidByText := true, laidKinds := [.data], laidTests := true, laidLooks := .later }
def JournalEachUptoCardSaid : Prop := Claim7.holds Tryd.pinned (.plain (OpenSpec.upto journalEachSpec)) journalEachUptoCard

/-- THE SECOND FORM's CARD OF 'graftlaw11.JournalAgain'. -/
def journalAgainUptoCard : Claim7 := { stood := { row := journalAgainUptoRow, standIns := [], harness := (true, "c3684d5b595ce1c4348da2182948fc321ccc3507742323afb07167168ed47306"), looks := true }, kinds := [], alts := [], laidByText := true, laidKinds := [.data], laidTests := true, laidLooks := .later }
def JournalAgainUptoCardSaid : Prop := Claim7.holds Tryd.pinned (.plain (OpenSpec.upto journalAgainSpec)) journalAgainUptoCard

/-- THE SECOND FORM's CARD OF 'graftlaw11.JournalNil'. -/
def journalNilUptoCard : Claim7 := { stood := { row := journalNilUptoRow, standIns := [], harness := (true, "c3684d5b595ce1c4348da2182948fc321ccc3507742323afb07167168ed47306"), looks := true }, kinds := [], alts := [], laidByText := true, laidKinds := [.data], laidTests := true, laidLooks := .later }
def JournalNilUptoCardSaid : Prop := Claim7.holds Tryd.pinned (.plain (OpenSpec.upto journalNilSpec)) journalNilUptoCard

/-- THE SECOND FORM's CARD OF 'graftlaw11.JournalFresh'. -/
def journalFreshUptoCard : Claim7 := { stood := { row := journalFreshUptoRow, standIns := [], harness := (true, "c3684d5b595ce1c4348da2182948fc321ccc3507742323afb07167168ed47306"), looks := true }, kinds := [], alts := [], laidByText := true, laidKinds := [.data], laidTests := true, laidLooks := .later }
def JournalFreshUptoCardSaid : Prop := Claim7.holds Tryd.pinned (.plain (OpenSpec.upto journalFreshSpec)) journalFreshUptoCard
end Rows
end Go.Proofs.YtfimaflglnemdaaDoor
