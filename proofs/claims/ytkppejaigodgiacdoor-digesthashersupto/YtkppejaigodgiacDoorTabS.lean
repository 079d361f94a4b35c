/- The seat's table world, what the laid variables give, and an argument of bytes. -/
import Derived.Test.YtkppejaigodgiacDoorCards
import Derived.Test.YtkppejaigodgiacDoorTie
import Derived.Test.YtkppejaigodgiacDoorShTb
import Derived.Deep.DeepHandedRow
import Derived.Lib.LaidTab
namespace Go.Proofs.YtkppejaigodgiacDoor
open Go.ChangeShapes Go.WideShapes Go.ChangeAt Go.RowKit
theorem own : ownKnob Tryd.prog.godebug = none := by kernel_rfl
def zs (l : List Nat) : List Int := l.map (fun (x : Nat) => (x : Int))
theorem zs_getD (l : List Nat) (j : Nat) : (zs l).getD j 0 = ((l.getD j 0 : Nat) : Int) := by
  by_cases h : j < l.length
  · simp [zs, List.getD, h]
  · simp [zs, List.getD, h]
def laid4 : List (String × DataW Unit) := [("graft/graftref1.tableK", Rows.laid_graft_graftref1_tableK), ("graft/graftref1.tableH", Rows.laid_graft_graftref1_tableH), ("graft/digest.startState", Rows.laid_graft_digest_startState), ("graft/digest.roundConstants", Rows.laid_graft_digest_roundConstants)]
theorem g3 : Tryd.prog.globalNamed "graft/graftref1.tableH" = some 0 := by kernel_rfl
theorem g4 : Tryd.prog.globalNamed "graft/graftref1.tableK" = some 1 := by kernel_rfl
theorem g5 : Tryd.prog.globalNamed "graft/digest.startState" = some 2 := by kernel_rfl
theorem g6 : Tryd.prog.globalNamed "graft/digest.roundConstants" = some 3 := by kernel_rfl
theorem t3 : (Tryd.prog.globals[0]?).map (·.type) = some 47 := by kernel_rfl
theorem t4 : (Tryd.prog.globals[1]?).map (·.type) = some 56 := by kernel_rfl
theorem t5 : (Tryd.prog.globals[2]?).map (·.type) = some 47 := by kernel_rfl
theorem t6 : (Tryd.prog.globals[3]?).map (·.type) = some 56 := by kernel_rfl
theorem cells73 : Tryd.prog.cellsOf 46 = 1 := by kernel_rfl
theorem cells74 : Tryd.prog.cellsOf 47 = 8 := by kernel_rfl
theorem cells81 : Tryd.prog.cellsOf 56 = 64 := by kernel_rfl
theorem eqK : (Rows.laid_graft_graftref1_tableK : DataW Unit) = Lib.tabData .u32 (zs Sha.roundN) := rfl
theorem eqH : (Rows.laid_graft_graftref1_tableH : DataW Unit) = Lib.tabData .u32 (zs Sha.startN) := rfl
theorem eqS : (Rows.laid_graft_digest_startState : DataW Unit) = Lib.tabData .u32 (zs Sha.startN) := rfl
theorem eqR : (Rows.laid_graft_digest_roundConstants : DataW Unit) = Lib.tabData .u32 (zs Sha.roundN) := rfl
theorem tabs4 {W : World} (h : laidMetH Tryd.prog laid4 W) : (Lib.TabIs Tryd.prog W "graft/graftref1.tableK" .u32 (zs Sha.roundN) ∧ Lib.TabIs Tryd.prog W "graft/graftref1.tableH" .u32 (zs Sha.startN)) ∧ Lib.TabIs Tryd.prog W "graft/digest.startState" .u32 (zs Sha.startN) ∧ Lib.TabIs Tryd.prog W "graft/digest.roundConstants" .u32 (zs Sha.roundN) := by
  rw [MakeChecks.laidMetH_plain _ _ _ (by kernel_rfl)] at h
  obtain ⟨ps, ⟨a0, b0, cs0, f0, p0, q0, hg0, ht0, hv0, hd0, ⟨a1, b1, cs1, f1, p1, q1, hg1, ht1, hv1, hd1, ⟨a2, b2, cs2, f2, p2, q2, hg2, ht2, hv2, hd2, ⟨a3, b3, cs3, f3, p3, q3, hg3, ht3, hv3, hd3, _, _⟩, _⟩, _⟩, _⟩, _⟩ := h
  obtain rfl := Option.some.inj (g4.symm.trans hg0)
  obtain rfl := Option.some.inj (t4.symm.trans ht0)
  obtain rfl := Option.some.inj (g3.symm.trans hg1)
  obtain rfl := Option.some.inj (t3.symm.trans ht1)
  obtain rfl := Option.some.inj (g5.symm.trans hg2)
  obtain rfl := Option.some.inj (t5.symm.trans ht2)
  obtain rfl := Option.some.inj (g6.symm.trans hg3)
  obtain rfl := Option.some.inj (t6.symm.trans ht3)
  refine ⟨⟨?_, ?_⟩, ?_, ?_⟩
  · unfold Lib.TabIs
    rw [hv0, ← Lib.cells_of_tab Tryd.underlying56 Tryd.underlying46 cells73 cells81 hd0]
  · unfold Lib.TabIs
    rw [hv1, ← Lib.cells_of_tab Tryd.underlying47 Tryd.underlying46 cells73 cells74 hd1]
  · unfold Lib.TabIs
    rw [hv2, ← Lib.cells_of_tab Tryd.underlying47 Tryd.underlying46 cells73 cells74 hd2]
  · unfold Lib.TabIs
    rw [hv3, ← Lib.cells_of_tab Tryd.underlying56 Tryd.underlying46 cells73 cells81 hd3]
theorem row_of_tab {W : World} {name : String} {g : Nat} {l : List Nat} (hg : Tryd.prog.globalNamed name = some g) (h : Lib.TabIs Tryd.prog W name .u32 (zs l)) : ∃ t f, W.heap[g]? = some (.cells (Sha.ws l) t f) := by
  unfold Lib.TabIs World.var? at h
  rw [hg] at h
  simp only [Option.bind_some] at h
  split at h
  · rename_i cs t f hh
    refine ⟨t, f, hh.trans ?_⟩
    rw [Option.some.inj h]
    simp [zs, Sha.ws]
  · cases h
theorem tb_of_laid {W : World} (h : laidMetH Tryd.prog laid4 W) : Sha.Tb W ∧ Sha.Tr W := by
  obtain ⟨⟨ha, hb⟩, hc, hd⟩ := tabs4 h
  have B : ∀ j, j < 8 → W.cell? ⟨2, j, none⟩ = some (.int .u32 ((Sha.startN.getD j 0 : Nat) : Int)) := fun j hj => by have := hc.cell g5 j hj; rw [zs_getD] at this; exact this
  have C : ∀ j, j < 64 → W.cell? ⟨3, j, none⟩ = some (.int .u32 ((Sha.roundN.getD j 0 : Nat) : Int)) := fun j hj => by have := hd.cell g6 j hj; rw [zs_getD] at this; exact this
  refine ⟨⟨?_, B, C⟩, row_of_tab g3 hb, row_of_tab g4 ha⟩
  have h2 := C 0 (by decide)
  rcases Nat.lt_or_ge 3 W.heap.size with h | h
  · exact h
  · simp [World.cell?, Array.getElem?_eq_none h] at h2
/-- A block's words, laid anew. -/
def laidW (l : List Int) : Obj → Obj
  | .cells _ t frozen => .cells (l.map (Value.int .u32)).toArray t frozen
  | o => o
/-- A world for the witness. -/
noncomputable def laidWorldS (os : Os) : World :=
  { World.holding Tryd.prog os ⟨#[], #[], []⟩ with heap := ((((World.holding Tryd.prog os ⟨#[], #[], []⟩).heap.modify 0 (laidW (zs Sha.startN))).modify 1 (laidW (zs Sha.roundN))).modify 2 (laidW (zs Sha.startN))).modify 3 (laidW (zs Sha.roundN)) }
/-- A slice of bytes that is handed in. -/
theorem open_byl {H : Type} {enc : TypeId × Value → H} {W : World} {base : Nat} {v : Value} {d : DataW H} {p : List MemPlace} (hv : Value.okWide Tryd.prog W .any base 22 v) (h : DataW.Trod enc Tryd.prog W 0 (fun _ => true) true 22 v d p) :
    ∃ l : List Nat, Byl v l W ∧ Byt l ∧ ((d = .nil ∧ l = []) ∨ ∃ es sp, d = .slice es sp ∧ es.length = l.length) := by
  obtain ⟨a0, len, cap, rfl⟩ := okWide_slice Tryd.underlying22 hv
  obtain ⟨fuel, hf⟩ := h
  rcases open_ints Tryd.underlying22 Tryd.underlying5 cells5 hf with ⟨hcs, hx⟩ | ⟨a, len', cap', zs, hcs, _, hl, hm, hz, hx, hcell, hwz⟩
  · simp [Value.cells] at hcs
    obtain ⟨rfl, rfl, rfl⟩ := hcs
    simp only [Prod.mk.injEq] at hx
    exact ⟨[], .inl ⟨rfl, rfl⟩, (fun x hx => by cases hx), .inl ⟨hx.1, rfl⟩⟩
  · simp [Value.cells] at hcs
    obtain ⟨rfl, rfl, rfl⟩ := hcs
    simp only [Value.okWide, Tryd.underlying22, Cell.okWide, Cell.ok] at hv
    obtain ⟨_, _, _, hspot, row, cells, hsh, _⟩ := hv
    have hblk : a.block < W.heap.size := by
      rcases Nat.lt_or_ge a.block W.heap.size with h | h
      · exact h
      · simp [World.shape?, Array.getElem?_eq_none h] at hsh
    obtain ⟨b, off, spot⟩ := a
    simp only at hspot hblk
    subst hspot
    simp only [if_true] at hz
    have hw : ∀ z ∈ zs, 0 ≤ z ∧ z < 256 := fun z hz => wf_byte (hwz z hz)
    have hll : ((zs.take len).map Int.toNat).length = len := by rw [List.length_map, List.length_take]; omega
    refine ⟨(zs.take len).map Int.toNat, .inr ⟨b, off, cap, by rw [hll], by omega, hm, hblk, fun j hj => ?_⟩, ?_, .inr ?_⟩
    · rw [hll] at hj
      have hj2 : j < zs.length := by omega
      have h1 := hcell j hj2
      rw [Go.WideShapes.add_plain] at h1
      rw [h1]
      have h2 : zs.getD j 0 = zs[j] := by simp [List.getD, hj2]
      have h3 : ((zs.take len).map Int.toNat).getD j 0 = zs[j].toNat := by
        simp [List.getD, hj, hj2]
      rw [h2, h3, Int.toNat_of_nonneg (hw _ (List.getElem_mem hj2)).1]
    · intro x hx
      obtain ⟨z, hz, rfl⟩ := List.mem_map.1 hx
      have := hw z (List.mem_of_mem_take hz)
      omega
    · simp only [Prod.mk.injEq] at hx
      refine ⟨_, _, hx.1, ?_⟩
      rw [hll]
      simp [lits]
      omega
end Go.Proofs.YtkppejaigodgiacDoor
