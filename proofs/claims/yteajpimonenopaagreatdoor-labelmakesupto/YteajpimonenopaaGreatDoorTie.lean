/-
  DERIVED. GIVEN WITH THE SEED: THE PROGRAM's TIES (one call each: nine closed facts by the kernel) AND EACH ROW's TIE, after the 31st guide's Derived/Test/Toyas{Tie, Card}.lean. No idea stands in it: it is a product of the set-up. Laid BY PROGRAM, IN A SANDBOX (cutbox-door.mjs). By AI agents, Wed Nov 11 2026. No macro, syntax, notation, axiom, sorry.
-/
import Derived.Test.YteajpimonenopaaGreatDoorRows
import Derived.LaidByTextLater
import Derived.SevenTiedAt
import Derived.LaidSub
import Derived.LaidOnce
namespace Go.Proofs.YteajpimonenopaaGreatDoor
open Go
set_option maxRecDepth 100000
theorem seatTie1 : Tryz.prog.laidByTextLater [("graft/graftref1.tableK", Rows.laid_graft_graftref1_tableK), ("graft/graftref1.tableH", Rows.laid_graft_graftref1_tableH), ("math/bits.deBruijn32tab", Rows.laid_math_bits_deBruijn32tab), ("math/bits.deBruijn64tab", Rows.laid_math_bits_deBruijn64tab), ("internal/strconv.uint64pow10", Rows.laid_internal_strconv_uint64pow10), ("graft/digest.digits16", Rows.laid_graft_digest_digits16), ("graft/digest.digits32", Rows.laid_graft_digest_digits32), ("graft/digest.startState", Rows.laid_graft_digest_startState), ("graft/digest.roundConstants", Rows.laid_graft_digest_roundConstants), ("graft/label.kinds", Rows.laid_graft_label_kinds)] [.data, .data, .data, .data, .data, .data, .data, .data, .data, .data] true :=
  Program.laidByTextLater_by_one 63 8 65 (by kernel_rfl) (by kernel_rfl) (by kernel_rfl) (by kernel_rfl) (by kernel_rfl) (by kernel_rfl) (fun _ _ => by kernel_rfl)
theorem noOwnUnsafe : Tryz.pinned.checked.prog.headLifts.contains "ownunsafe" = false := by kernel_rfl
theorem tie : Tryz.prog.laidByTextLater [("graft/graftref1.tableK", Rows.laid_graft_graftref1_tableK), ("graft/graftref1.tableH", Rows.laid_graft_graftref1_tableH), ("math/bits.deBruijn32tab", Rows.laid_math_bits_deBruijn32tab), ("math/bits.deBruijn64tab", Rows.laid_math_bits_deBruijn64tab), ("internal/strconv.uint64pow10", Rows.laid_internal_strconv_uint64pow10), ("graft/digest.digits16", Rows.laid_graft_digest_digits16), ("graft/digest.digits32", Rows.laid_graft_digest_digits32), ("graft/digest.startState", Rows.laid_graft_digest_startState), ("graft/digest.roundConstants", Rows.laid_graft_digest_roundConstants), ("graft/label.kinds", Rows.laid_graft_label_kinds)] [.data, .data, .data, .data, .data, .data, .data, .data, .data, .data] true :=
  Program.laidByTextLater.sub seatTie1 ["graft/graftref1.tableK", "graft/graftref1.tableH", "math/bits.deBruijn32tab", "math/bits.deBruijn64tab", "internal/strconv.uint64pow10", "graft/digest.digits16", "graft/digest.digits32", "graft/digest.startState", "graft/digest.roundConstants", "graft/label.kinds"] (by kernel_rfl) (by kernel_rfl)
theorem labelMakes_row_tie : Rows.labelMakesRow.laidByTextAt .later Tryz.pinned [.data, .data, .data, .data, .data, .data, .data, .data, .data, .data] true :=
  OpenClaim.laidByTextAt_later rfl rfl tie noOwnUnsafe
theorem labelMakesUpto_row_tie : Rows.labelMakesUptoRow.laidByTextAt .later Tryz.pinned [.data, .data, .data, .data, .data, .data, .data, .data, .data, .data] true :=
  OpenClaim.laidByTextAt_later rfl rfl tie noOwnUnsafe
end Go.Proofs.YteajpimonenopaaGreatDoor
