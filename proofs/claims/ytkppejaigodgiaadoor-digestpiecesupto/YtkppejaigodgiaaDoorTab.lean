/- The seat's table world and what the laid variables give. -/
import Derived.Test.YtkppejaigodgiaaDoorCards
import Derived.Test.YtkppejaigodgiaaDoorTie
import Derived.Test.YtkppejaigodgiaaDoorBytes
import Derived.WalkKit
import Derived.ProofKit
import Derived.OpenShut
import Derived.Deep.DeepHandedRow
import Derived.Lib.LaidTab
namespace Go.Proofs.YtkppejaigodgiaaDoor
open Go.ChangeShapes Go.WideShapes Go.ChangeAt Go.RowKit

theorem own : ownKnob Tryd.prog.godebug = none := by kernel_rfl
/-- The first state. -/
def startZ : List Int := [1779033703, 3144134277, 1013904242, 2773480762, 1359893119, 2600822924, 528734635, 1541459225]
/-- The constants of the rounds. -/
def roundZ : List Int := [1116352408, 1899447441, 3049323471, 3921009573, 961987163, 1508970993, 2453635748, 2870763221, 3624381080, 310598401, 607225278, 1426881987, 1925078388, 2162078206, 2614888103, 3248222580, 3835390401, 4022224774, 264347078, 604807628, 770255983, 1249150122, 1555081692, 1996064986, 2554220882, 2821834349, 2952996808, 3210313671, 3336571891, 3584528711, 113926993, 338241895, 666307205, 773529912, 1294757372, 1396182291, 1695183700, 1986661051, 2177026350, 2456956037, 2730485921, 2820302411, 3259730800, 3345764771, 3516065817, 3600352804, 4094571909, 275423344, 430227734, 506948616, 659060556, 883997877, 958139571, 1322822218, 1537002063, 1747873779, 1955562222, 2024104815, 2227730452, 2361852424, 2428436474, 2756734187, 3204031479, 3329325298]
def laid2 : List (String × DataW Unit) := [("graft/digest.startState", Rows.laid_graft_digest_startState), ("graft/digest.roundConstants", Rows.laid_graft_digest_roundConstants)]
theorem gStart : Tryd.prog.globalNamed "graft/digest.startState" = some 0 := by kernel_rfl
theorem gRound : Tryd.prog.globalNamed "graft/digest.roundConstants" = some 1 := by kernel_rfl
theorem gStartType : (Tryd.prog.globals[0]?).map (·.type) = some 41 := by kernel_rfl
theorem gRoundType : (Tryd.prog.globals[1]?).map (·.type) = some 48 := by kernel_rfl
theorem cells40 : Tryd.prog.cellsOf 40 = 1 := by kernel_rfl
theorem cells41 : Tryd.prog.cellsOf 41 = 8 := by kernel_rfl
theorem cells48 : Tryd.prog.cellsOf 48 = 64 := by kernel_rfl

theorem startEq : (Rows.laid_graft_digest_startState : DataW Unit) = Lib.tabData .u32 startZ := rfl
theorem roundEq : (Rows.laid_graft_digest_roundConstants : DataW Unit) = Lib.tabData .u32 roundZ := rfl
/-- What the row's list gives: the first state. -/
theorem tabStart {W : World} (h : laidMetH Tryd.prog laid2 W) : Lib.TabIs Tryd.prog W "graft/digest.startState" .u32 startZ := by
  rw [MakeChecks.laidMetH_plain _ _ _ (by kernel_rfl)] at h
  exact Lib.tabIs_of_head gStart gStartType Tryd.underlying41 Tryd.underlying40 cells40 cells41 h
/-- And the constants of the rounds. -/
theorem tabRound {W : World} (h : laidMetH Tryd.prog laid2 W) : Lib.TabIs Tryd.prog W "graft/digest.roundConstants" .u32 roundZ := by
  rw [MakeChecks.laidMetH_plain _ _ _ (by kernel_rfl)] at h
  obtain ⟨ps, ⟨g0, t0, cs0, f0, p0, q0, hg0, ht0, hv0, hd0, ⟨g1, t1, cs1, f1, p1, q1, hg1, ht1, hv1, hd1, _, _⟩, _⟩, _⟩ := h
  obtain rfl := Option.some.inj (gRound.symm.trans hg1)
  obtain rfl := Option.some.inj (gRoundType.symm.trans ht1)
  unfold Lib.TabIs
  rw [hv1, ← Lib.cells_of_tab Tryd.underlying48 Tryd.underlying40 cells40 cells48 hd1]
/-- The cells of a table, as a walk reads them. -/
theorem cellStart {W : World} (h : laidMetH Tryd.prog laid2 W) (i : Nat) (hi : i < 8) : W.cell? ⟨0, i, none⟩ = some (.int .u32 (startZ.getD i 0)) := (tabStart h).cell gStart i hi
theorem cellRound {W : World} (h : laidMetH Tryd.prog laid2 W) (i : Nat) (hi : i < 64) : W.cell? ⟨1, i, none⟩ = some (.int .u32 (roundZ.getD i 0)) := (tabRound h).cell gRound i hi
/-- A block's cells, laid anew. -/
def laidCells (zs : List Int) : Obj → Obj
  | .cells _ t frozen => .cells (zs.map (Value.int .u32)).toArray t frozen
  | o => o
/-- A world for the witness. -/
noncomputable def laidWorld (os : Os) : World :=
  { World.holding Tryd.prog os ⟨#[], #[], []⟩ with heap := ((World.holding Tryd.prog os ⟨#[], #[], []⟩).heap.modify 0 (laidCells startZ)).modify 1 (laidCells roundZ) }
end Go.Proofs.YtkppejaigodgiaaDoor
