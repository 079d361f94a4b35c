/- The seat's table world, what the laid variables give, and an argument of bytes. -/
import Derived.Test.YtkppejaigodgiabDoorCards
import Derived.Test.YtkppejaigodgiabDoorTie
import Derived.Test.YtkppejaigodgiabDoorSl
import Derived.Deep.DeepHandedRow
import Derived.Lib.LaidTab
namespace Go.Proofs.YtkppejaigodgiabDoor
open Go.ChangeShapes Go.WideShapes Go.ChangeAt Go.RowKit
theorem own : ownKnob Tryd.prog.godebug = none := by kernel_rfl
def zs (l : List Nat) : List Int := l.map (fun (x : Nat) => (x : Int))
def laid3 : List (String × DataW Unit) := [("graft/digest.digits16", Rows.laid_graft_digest_digits16), ("graft/digest.digits32", Rows.laid_graft_digest_digits32), ("graft/digest.digits64", Rows.laid_graft_digest_digits64)]
theorem gA : Tryd.prog.globalNamed "graft/digest.digits16" = some 0 := by kernel_rfl
theorem gB : Tryd.prog.globalNamed "graft/digest.digits32" = some 1 := by kernel_rfl
theorem gC : Tryd.prog.globalNamed "graft/digest.digits64" = some 2 := by kernel_rfl
theorem gAType : (Tryd.prog.globals[0]?).map (·.type) = some 55 := by kernel_rfl
theorem gBType : (Tryd.prog.globals[1]?).map (·.type) = some 23 := by kernel_rfl
theorem gCType : (Tryd.prog.globals[2]?).map (·.type) = some 58 := by kernel_rfl
theorem cells55 : Tryd.prog.cellsOf 55 = 16 := by kernel_rfl
theorem cells23 : Tryd.prog.cellsOf 23 = 32 := by kernel_rfl
theorem cells58 : Tryd.prog.cellsOf 58 = 64 := by kernel_rfl
theorem eqA : (Rows.laid_graft_digest_digits16 : DataW Unit) = Lib.tabData .u8 (zs D16) := rfl
theorem eqB : (Rows.laid_graft_digest_digits32 : DataW Unit) = Lib.tabData .u8 (zs D32) := rfl
theorem eqC : (Rows.laid_graft_digest_digits64 : DataW Unit) = Lib.tabData .u8 (zs D64) := rfl
theorem tabs {W : World} (h : laidMetH Tryd.prog laid3 W) : Lib.TabIs Tryd.prog W "graft/digest.digits16" .u8 (zs D16) ∧ Lib.TabIs Tryd.prog W "graft/digest.digits32" .u8 (zs D32) ∧ Lib.TabIs Tryd.prog W "graft/digest.digits64" .u8 (zs D64) := by
  rw [MakeChecks.laidMetH_plain _ _ _ (by kernel_rfl)] at h
  obtain ⟨ps, ⟨g0, t0, cs0, f0, p0, q0, hg0, ht0, hv0, hd0, ⟨g1, t1, cs1, f1, p1, q1, hg1, ht1, hv1, hd1, ⟨g2, t2, cs2, f2, p2, q2, hg2, ht2, hv2, hd2, _, _⟩, _⟩, _⟩, _⟩ := h
  obtain rfl := Option.some.inj (gA.symm.trans hg0)
  obtain rfl := Option.some.inj (gAType.symm.trans ht0)
  obtain rfl := Option.some.inj (gB.symm.trans hg1)
  obtain rfl := Option.some.inj (gBType.symm.trans ht1)
  obtain rfl := Option.some.inj (gC.symm.trans hg2)
  obtain rfl := Option.some.inj (gCType.symm.trans ht2)
  refine ⟨?_, ?_, ?_⟩
  · unfold Lib.TabIs
    rw [hv0, ← Lib.cells_of_tab Tryd.underlying55 Tryd.underlying5 cells5 cells55 hd0]
  · unfold Lib.TabIs
    rw [hv1, ← Lib.cells_of_tab Tryd.underlying23 Tryd.underlying5 cells5 cells23 hd1]
  · unfold Lib.TabIs
    rw [hv2, ← Lib.cells_of_tab Tryd.underlying58 Tryd.underlying5 cells5 cells58 hd2]
theorem zs_getD (l : List Nat) (j : Nat) : (zs l).getD j 0 = ((l.getD j 0 : Nat) : Int) := by
  by_cases h : j < l.length
  · simp [zs, List.getD, h]
  · simp [zs, List.getD, h]
theorem tx_of_laid {W : World} (h : laidMetH Tryd.prog laid3 W) : Tx W := by
  obtain ⟨ha, hb, hc⟩ := tabs h
  have A : ∀ j, j < 16 → W.cell? ⟨0, j, none⟩ = some (.int .u8 ((g16 j : Nat) : Int)) := fun j hj => by have := ha.cell gA j hj; rw [zs_getD] at this; exact this
  have B : ∀ j, j < 32 → W.cell? ⟨1, j, none⟩ = some (.int .u8 ((g32 j : Nat) : Int)) := fun j hj => by have := hb.cell gB j hj; rw [zs_getD] at this; exact this
  have C : ∀ j, j < 64 → W.cell? ⟨2, j, none⟩ = some (.int .u8 ((g64 j : Nat) : Int)) := fun j hj => by have := hc.cell gC j hj; rw [zs_getD] at this; exact this
  refine ⟨?_, A, B, C⟩
  have h2 := C 0 (by decide)
  rcases Nat.lt_or_ge 2 W.heap.size with h | h
  · exact h
  · simp [World.cell?, Array.getElem?_eq_none h] at h2
/-- A block's cells, laid anew. -/
def laidCells (l : List Int) : Obj → Obj
  | .cells _ t frozen => .cells (l.map (Value.int .u8)).toArray t frozen
  | o => o
/-- A world for the witness. -/
noncomputable def laidWorld (os : Os) : World :=
  { World.holding Tryd.prog os ⟨#[], #[], []⟩ with heap := (((World.holding Tryd.prog os ⟨#[], #[], []⟩).heap.modify 0 (laidCells (zs D16))).modify 1 (laidCells (zs D32))).modify 2 (laidCells (zs D64)) }
/-- A slice of bytes that is handed in. -/
theorem open_byl {H : Type} {enc : TypeId × Value → H} {W : World} {base : Nat} {v : Value} {d : DataW H} {p : List MemPlace} (hv : Value.okWide Tryd.prog W .any base 22 v) (h : DataW.Trod enc Tryd.prog W 0 (fun _ => true) true 22 v d p) :
    ∃ l : List Nat, Byl v l W ∧ Byt l ∧ ((d = .nil ∧ l = []) ∨ ∃ es sp, d = .slice es sp ∧ es.length = l.length) := by
  obtain ⟨a0, len, cap, rfl⟩ := okWide_slice Tryd.underlying22 hv
  obtain ⟨fuel, hf⟩ := h
  rcases open_ints Tryd.underlying22 Tryd.underlying5 cells5 hf with ⟨hcs, hx⟩ | ⟨a, len', cap', zs, hcs, _, hl, hm, hz, hx, hcell, hwz⟩
  · simp [Value.cells] at hcs
    obtain ⟨rfl, rfl, rfl⟩ := hcs
    simp only [Prod.mk.injEq] at hx
    exact ⟨[], .inl ⟨rfl, rfl⟩, (fun x hx => by cases hx), .inl ⟨hx.1, rfl⟩⟩
  · simp [Value.cells] at hcs
    obtain ⟨rfl, rfl, rfl⟩ := hcs
    simp only [Value.okWide, Tryd.underlying22, Cell.okWide, Cell.ok] at hv
    obtain ⟨_, _, _, hspot, row, cells, hsh, _⟩ := hv
    have hblk : a.block < W.heap.size := by
      rcases Nat.lt_or_ge a.block W.heap.size with h | h
      · exact h
      · simp [World.shape?, Array.getElem?_eq_none h] at hsh
    obtain ⟨b, off, spot⟩ := a
    simp only at hspot hblk
    subst hspot
    simp only [if_true] at hz
    have hw : ∀ z ∈ zs, 0 ≤ z ∧ z < 256 := fun z hz => wf_byte (hwz z hz)
    have hll : ((zs.take len).map Int.toNat).length = len := by rw [List.length_map, List.length_take]; omega
    refine ⟨(zs.take len).map Int.toNat, .inr ⟨b, off, cap, by rw [hll], by omega, hm, hblk, fun j hj => ?_⟩, ?_, .inr ?_⟩
    · rw [hll] at hj
      have hj2 : j < zs.length := by omega
      have h1 := hcell j hj2
      rw [Go.WideShapes.add_plain] at h1
      rw [h1]
      have h2 : zs.getD j 0 = zs[j] := by simp [List.getD, hj2]
      have h3 : ((zs.take len).map Int.toNat).getD j 0 = zs[j].toNat := by
        simp [List.getD, hj, hj2]
      rw [h2, h3, Int.toNat_of_nonneg (hw _ (List.getElem_mem hj2)).1]
    · intro x hx
      obtain ⟨z, hz, rfl⟩ := List.mem_map.1 hx
      have := hw z (List.mem_of_mem_take hz)
      omega
    · simp only [Prod.mk.injEq] at hx
      refine ⟨_, _, hx.1, ?_⟩
      rw [hll]
      simp [lits]
      omega
theorem one_le {H : Type} (d : DataW H) : 1 ≤ Rows.uptoBulk d := by
  cases d with
  | lit l => cases l <;> simp [Rows.uptoBulk]
  | _ => simp [Rows.uptoBulk]
theorem length_le {H : Type} : ∀ l : List (DataW H), l.length ≤ Rows.uptoBulkAll l
  | [] => by simp [Rows.uptoBulkAll]
  | x :: r => by have h1 := one_le x; have h2 := length_le r; simp only [Rows.uptoBulkAll, List.length_cons]; omega
theorem part_le {H : Type} {d : DataW H} : ∀ {l : List (DataW H)}, d ∈ l → Rows.uptoBulk d ≤ Rows.uptoBulkAll l
  | x :: r, h => by
    simp only [Rows.uptoBulkAll]
    rcases List.mem_cons.1 h with e | e
    · subst e; omega
    · have := part_le e; omega
theorem len_le {H : Type} {ds : List (DataW H)} (hk : Rows.uptoSmall H ds = true) {d : DataW H} {l : List Nat} (hd : d ∈ ds) (hl : (d = .nil ∧ l = []) ∨ ∃ es sp, d = .slice es sp ∧ es.length = l.length) : l.length ≤ 1048576 := by
  rcases hl with ⟨_, rfl⟩ | ⟨es, sp, rfl, hlen⟩
  · simp
  · have h0 := of_decide_eq_true hk
    have h1 := part_le hd
    have h2 := length_le es
    simp only [Rows.uptoBulk] at h1
    omega
end Go.Proofs.YtkppejaigodgiabDoor
