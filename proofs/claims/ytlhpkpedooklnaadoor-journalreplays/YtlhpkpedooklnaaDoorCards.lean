/-
  DERIVED. GIVEN WITH THE SEED: THE CARDS: each row of YtlhpkpedooklnaaDoorRows.lean that lists a variable, with what it lists TIED to the program's text (the seventh form; the later family's looks); each row that meets fmt, with fmt's text TOLD by the authors' own Lean function (tested against real Go, not proved from fmt's source: count such statements apart). THE CARD IS WHAT COUNTS. Prove the row's statement (the work); the ties are given (YtlhpkpedooklnaaDoorTie.lean); close each card by the builder's one call (the guide's Derived/Test/ToyasCard.lean, 'card_holds'). Laid BY PROGRAM, IN A SANDBOX (cutbox-door.mjs). By AI agents, Wed Nov 11 2026. No macro, syntax, notation, axiom, sorry.
-/
import Derived.Test.YtlhpkpedooklnaaDoorRows
import GoSem.ClaimSeven
namespace Go.Proofs.YtlhpkpedooklnaaDoor
namespace Rows

/-- THE TIED CARD OF 'graftlaw11.JournalReplays'. -/
def journalReplaysCard : Claim7 := { stood := { row := journalReplaysRow, standIns := [], harness := (true, "ec3726d51469005cf414800d8888531516d63532aebc3fdaa0d698aee41e6907"), looks := true }, kinds := [], alts := [], laidByText := true, laidKinds := [.data], laidTests := true, laidLooks := .later }
def JournalReplaysCardSaid : Prop := Claim7.holds Tryd.pinned (.plain (OpenSpec.ofChange journalReplaysSpec)) journalReplaysCard

/-- THE SECOND FORM's CARD OF 'graftlaw11.JournalReplays'. -/
def journalReplaysUptoCard : Claim7 := { stood := { row := journalReplaysUptoRow, standIns := [], harness := (true, "ec3726d51469005cf414800d8888531516d63532aebc3fdaa0d698aee41e6907"), looks := true }, kinds := [], alts := [], laidByText := true, laidKinds := [.data], laidTests := true, laidLooks := .later }
def JournalReplaysUptoCardSaid : Prop := Claim7.holds Tryd.pinned (.plain (OpenSpec.upto journalReplaysSpec)) journalReplaysUptoCard
end Rows
end Go.Proofs.YtlhpkpedooklnaaDoor
