/- The seat's table world; labels that are handed in. -/
import Derived.Test.YthbjlhafagcidaaDoorCards
import Derived.Test.YthbjlhafagcidaaDoorTie
import Derived.Test.YthbjlhafagcidaaDoorLab
import Derived.Deep.DeepHandedRow
import Derived.Lib.LaidTab
import Derived.ProofKit
namespace Go.Proofs.YthbjlhafagcidaaDoor
open Go.ChangeShapes Go.WideShapes Go.ChangeAt Go.RowKit
theorem own : ownKnob Tryd.prog.godebug = none := by kernel_rfl
def zs (l : List Nat) : List Int := l.map (fun (x : Nat) => (x : Int))
def laid1 : List (String × DataW Unit) := [("graft/digest.digits32", Rows.laid_graft_digest_digits32)]
theorem gB : Tryd.prog.globalNamed "graft/digest.digits32" = some 1 := by kernel_rfl
theorem gBType : (Tryd.prog.globals[1]?).map (·.type) = some 52 := by kernel_rfl
theorem cells64 : Tryd.prog.cellsOf 52 = 32 := by kernel_rfl
theorem eqB : (Rows.laid_graft_digest_digits32 : DataW Unit) = Lib.tabData .u8 (zs D32) := rfl
theorem tab {W : World} (h : laidMetH Tryd.prog laid1 W) : Lib.TabIs Tryd.prog W "graft/digest.digits32" .u8 (zs D32) := by
  rw [MakeChecks.laidMetH_plain _ _ _ (by kernel_rfl)] at h
  exact Lib.tabIs_of_head gB gBType Tryd.underlying52 Tryd.underlying5 cells5 cells64 h
theorem zs_getD (l : List Nat) (j : Nat) : (zs l).getD j 0 = ((l.getD j 0 : Nat) : Int) := by
  by_cases h : j < l.length
  · simp [zs, List.getD, h]
  · simp [zs, List.getD, h]
theorem tx_of_laid {W : World} (h : laidMetH Tryd.prog laid1 W) : Tx W := by
  have B : ∀ j, j < 32 → W.cell? ⟨1, j, none⟩ = some (.int .u8 ((g32 j : Nat) : Int)) := fun j hj => by have := (tab h).cell gB j hj; rw [zs_getD] at this; exact this
  refine ⟨?_, B⟩
  have h2 := B 0 (by decide)
  rcases Nat.lt_or_ge 1 W.heap.size with h | h
  · exact h
  · simp [World.cell?, Array.getElem?_eq_none h] at h2
/-- A block's cells, laid anew. -/
def laidCells (l : List Int) : Obj → Obj
  | .cells _ t frozen => .cells (l.map (Value.int .u8)).toArray t frozen
  | o => o
/-- A world for the witness. -/
noncomputable def laidWorld (os : Os) : World :=
  { World.holding Tryd.prog os ⟨#[], #[], []⟩ with heap := (World.holding Tryd.prog os ⟨#[], #[], []⟩).heap.modify 1 (laidCells (zs D32)) }
section
variable {H : Type} {enc : TypeId × Value → H} {P : Program} {W : World} {base fuel n : Nat} {sp : Nat → Bool} {held : Bool} {t e : TypeId} {cs : List Value} {x : DataW H × List MemPlace}
theorem open_row (ht : P.underlying t = some (.array n e)) (he : P.underlying e = some (.int .u8)) (hce : P.cellsOf e = 1) (hcl : cs.length = n) (h : DataW.trod enc P W base sp held fuel t cs = some x) :
    ∃ l : List Nat, l.length = n ∧ Byt l ∧ cs = (bs l).toList ∧ x = (.agg (dlits l), []) := by
  obtain ⟨xs, m, rfl, rfl, hlen, hxl, hel⟩ := DataW.trod_array ht h
  have key : ∀ i (hi : i < n), ∃ z : Nat, z < 256 ∧ cs[i]? = some (.int .u8 (z : Int)) ∧ xs[i]? = some (.lit (.int .u8 (z : Int)), []) := by
    intro i hi
    have h2 := hel i hi
    rw [hce, Nat.mul_one, List.getElem?_eq_getElem (by omega)] at h2
    obtain ⟨z, h3, h4, h5⟩ := DataW.trod_int he h2
    obtain ⟨hz0, hz1⟩ := wf_byte h5
    obtain ⟨y, rfl⟩ : ∃ y : Nat, z = y := ⟨z.toNat, by omega⟩
    refine ⟨y, by omega, ?_, ?_⟩
    · have := congrArg (·[0]?) h3
      simpa [List.getElem?_take, List.getElem?_drop] using this
    · rw [List.getElem?_eq_getElem (by omega), h4]
  refine ⟨xs.map fun x => (match x.1 with | .lit (.int _ z) => z.toNat | _ => 0), by simpa using hxl, ?_, ?_, ?_⟩
  · intro b hb
    obtain ⟨x, hx, rfl⟩ := List.mem_map.1 hb
    obtain ⟨i, hi, rfl⟩ := List.getElem_of_mem hx
    obtain ⟨z, hz, _, h4⟩ := key i (by omega)
    rw [List.getElem?_eq_getElem hi] at h4
    rw [Option.some.inj h4]
    simpa using hz
  · apply List.ext_getElem?
    intro i
    by_cases hi : i < n
    · obtain ⟨z, hz, h3, h4⟩ := key i hi
      rw [h3]
      simp [bs, h4]
    · rw [List.getElem?_eq_none (by omega), List.getElem?_eq_none (by simp [bs]; omega)]
  · congr 1
    · congr 1
      apply List.ext_getElem?
      intro i
      by_cases hi : i < n
      · obtain ⟨z, hz, h3, h4⟩ := key i hi
        simp [dlits, h4]
      · rw [List.getElem?_eq_none (by simp; omega), List.getElem?_eq_none (by simp [dlits]; omega)]
    · rw [List.flatMap_eq_nil_iff]
      intro x hx
      obtain ⟨i, hi, rfl⟩ := List.getElem_of_mem hx
      obtain ⟨z, hz, _, h4⟩ := key i (by omega)
      rw [List.getElem?_eq_getElem hi] at h4
      rw [Option.some.inj h4]
end
theorem cells23 : Tryd.prog.cellsOf 23 = 20 := by kernel_rfl
theorem cells9 : Tryd.prog.cellsOf 9 = 1 := by kernel_rfl
theorem cells25 : Tryd.prog.cellsOf 25 = 21 := by kernel_rfl
/-- A label that is handed in. -/
def dlab {H : Type} (h : List Nat) (s : ByteArray) : DataW H := .agg [.agg (dlits h), .lit (.string s.data.toList)]
theorem open_lab {H : Type} {enc : TypeId × Value → H} {W : World} {base : Nat} {v : Value} {d : DataW H} {p : List MemPlace} (hv : Value.okWide Tryd.prog W .any base 25 v) (h : DataW.Trod enc Tryd.prog W 0 (fun _ => true) true 25 v d p) :
    ∃ (l : List Nat) (s : ByteArray), l.length = 20 ∧ Byt l ∧ s.size ≤ maxLen ∧ v = .agg (lab l s) ∧ d = dlab l s ∧ p = [] := by
  obtain ⟨fuel, h⟩ := h
  obtain ⟨cs, rfl, hcs, _⟩ : ∃ cs, v = .agg cs ∧ cs.size = Tryd.prog.cellsOf 25 ∧ Row.okWide Tryd.prog W .any base 25 cs := by
    unfold Value.okWide at hv
    rw [Tryd.underlying25] at hv
    exact hv
  obtain ⟨y0, y1, n, hx, hl, h0, h1⟩ := trod_struct2 Tryd.underlying25 h
  simp only [Value.cells] at h0 h1 hl
  rw [cells23] at h0
  rw [cells9] at h1
  rw [cells25] at hl
  obtain ⟨l, l1, l2, l3, rfl⟩ := open_row Tryd.underlying23 Tryd.underlying5 cells5 (by rw [List.length_take, List.length_drop]; omega) h0
  obtain ⟨s, s1, rfl, s3⟩ := DataW.trod_string Tryd.underlying9 h1
  have hlc : cs.toList = (lab l s).toList := by
    rw [← List.take_append_drop 20 cs.toList]
    have e1 : cs.toList.take 20 = (bs l).toList := by simpa using l3
    have e2 : cs.toList.drop 20 = [.string s] := by
      have : (cs.toList.drop 20).take 1 = [.string s] := by simpa using s1
      rw [List.take_of_length_le (by rw [List.length_drop]; omega)] at this
      exact this
    rw [e1, e2]
    simp [lab]
  have hlc2 : cs = lab l s := Array.ext' hlc
  simp only [Prod.mk.injEq] at hx
  exact ⟨l, s, l1, l2, s3, by rw [hlc2], hx.1, hx.2⟩
theorem trod_bs {H : Type} {enc : TypeId × Value → H} {W : World} {base : Nat} {sp : Nat → Bool} {held : Bool} (l : List Nat) (hl : l.length = 20) (hb : Byt l) :
    DataW.trod enc Tryd.prog W base sp held 2 23 (bs l).toList = some (.agg (dlits l), []) := by
  unfold DataW.trod
  rw [Tryd.underlying23]
  simp only [cells5, cells23, Nat.mul_one]
  rw [if_pos (by simpa [bs] using hl)]
  have hm : (List.range 20).mapM (fun i => DataW.trod enc Tryd.prog W base sp held 1 5 (List.take 1 (List.drop i (bs l).toList))) = some (l.map fun (b : Nat) => ((DataW.lit (.int .u8 (b : Int)) : DataW H), ([] : List MemPlace))) := by
    rw [← hl]
    exact mapM_bs l (fun b hbm => trod_int_mk 0 Tryd.underlying5 (byte_wf (hb b hbm)))
  rw [hm]
  simp [dlits, List.flatMap_eq_nil_iff]
theorem shut_lab {H : Type} {enc : TypeId × Value → H} {W : World} {base : Nat} {sp : Nat → Bool} {held : Bool} (l : List Nat) (s : ByteArray) (hl : l.length = 20) (hb : Byt l) (hs : s.size ≤ maxLen) :
    DataW.Trod enc Tryd.prog W base sp held 25 (.agg (lab l s)) (dlab l s) [] := by
  refine ⟨3, ?_⟩
  have h0 : DataW.trod enc Tryd.prog W base sp held 2 23 (((Value.agg (lab l s)).cells.toList.drop 0).take (Tryd.prog.cellsOf 23)) = some (.agg (dlits l), []) := by
    rw [cells23]
    have : ((Value.agg (lab l s)).cells.toList.drop 0).take 20 = (bs l).toList := by
      simp only [Value.cells, List.drop_zero, lab, Array.toList_append]
      rw [List.take_left' (by simp [bs, hl])]
    rw [this]
    exact trod_bs l hl hb
  have h1 : DataW.trod enc Tryd.prog W base sp held 2 9 (((Value.agg (lab l s)).cells.toList.drop 20).take (Tryd.prog.cellsOf 9)) = some (.lit (.string s.data.toList), []) := by
    rw [cells9]
    have : ((Value.agg (lab l s)).cells.toList.drop 20).take 1 = [.string s] := by
      simp only [Value.cells, lab, Array.toList_append]
      rw [List.drop_left' (by simp [bs, hl])]
      rfl
    rw [this]
    simp [DataW.trod, Tryd.underlying9, hs]
  have := trod_struct2_mk (enc := enc) (w := W) (base := base) (spare := sp) (held := held) Tryd.underlying25 (by rw [cells25]; simp only [Value.cells, Array.length_toList]; exact lab_size l s hl) h0 h1
  simpa [dlab] using this
end Go.Proofs.YthbjlhafagcidaaDoor
