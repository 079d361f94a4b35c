/- RecipeSwapped: the row and the card, second form. -/
import Derived.Test.YtceclpabdfncoaaDoorRwR
import Derived.Test.YtceclpabdfncoaaDoorCards
import Derived.Test.YtceclpabdfncoaaDoorTie
import Derived.Deep.DeepHandedRow
import Derived.Lib.LaidTab
import Derived.SizedLaws
import Derived.ChangeSlices
import Derived.SliceStrings
import Derived.OpenShut
import Derived.Carry
import Derived.JoinedCond
import Derived.Deep.Slices
import Derived.ProofKit
namespace Go.Proofs.YtceclpabdfncoaaDoor.Re
open Go.ChangeShapes Go.WideShapes Go.ChangeAt Go.RowKit
set_option maxRecDepth 100000
theorem own : ownKnob Tryd.prog.godebug = none := by kernel_rfl
theorem laidOut : laidOutB Tryd.prog = true := by kernel_rfl
def zs (l : List Nat) : List Int := l.map (fun (x : Nat) => (x : Int))
theorem gD16 : Tryd.prog.globalNamed "graft/digest.digits16" = some 1 := by kernel_rfl
theorem tD16 : (Tryd.prog.globals[1]?).map (·.type) = some 85 := by kernel_rfl
theorem gD32 : Tryd.prog.globalNamed "graft/digest.digits32" = some 0 := by kernel_rfl
theorem tD32 : (Tryd.prog.globals[0]?).map (·.type) = some 39 := by kernel_rfl
theorem gSt : Tryd.prog.globalNamed "graft/digest.startState" = some 3 := by kernel_rfl
theorem tSt : (Tryd.prog.globals[3]?).map (·.type) = some 96 := by kernel_rfl
theorem gRc : Tryd.prog.globalNamed "graft/digest.roundConstants" = some 4 := by kernel_rfl
theorem tRc : (Tryd.prog.globals[4]?).map (·.type) = some 127 := by kernel_rfl
theorem cA16 : Tryd.prog.cellsOf 85 = 16 := by kernel_rfl
theorem cA32 : Tryd.prog.cellsOf 39 = 32 := by kernel_rfl
theorem cu32 : Tryd.prog.cellsOf 95 = 1 := by kernel_rfl
theorem cW8 : Tryd.prog.cellsOf 96 = 8 := by kernel_rfl
theorem cW64 : Tryd.prog.cellsOf 127 = 64 := by kernel_rfl
theorem cells3 : Tryd.prog.cellsOf 3 = 1 := by kernel_rfl
theorem cells4 : Tryd.prog.cellsOf 4 = 1 := by kernel_rfl
theorem cells5 : Tryd.prog.cellsOf 5 = 1 := by kernel_rfl
theorem cells9 : Tryd.prog.cellsOf 9 = 1 := by kernel_rfl
theorem cellsT : Tryd.prog.cellsOf 22 = 1 := by kernel_rfl
theorem cellsB : Tryd.prog.cellsOf 23 = 1 := by kernel_rfl
theorem cellsS : Tryd.prog.cellsOf 25 = 9 := by kernel_rfl
theorem zs_getD (l : List Nat) (j : Nat) : (zs l).getD j 0 = ((l.getD j 0 : Nat) : Int) := by
  by_cases h : j < l.length
  · simp [zs, List.getD, h]
  · simp [zs, List.getD, h]
def laid4 : List (String × DataW Unit) := [("graft/digest.digits16", Rows.laid_graft_digest_digits16), ("graft/digest.digits32", Rows.laid_graft_digest_digits32), ("graft/digest.startState", Rows.laid_graft_digest_startState), ("graft/digest.roundConstants", Rows.laid_graft_digest_roundConstants)]
theorem tabs4 {W : World} (h : laidMetH Tryd.prog laid4 W) : (Lib.TabIs Tryd.prog W "graft/digest.digits16" .u8 (zs D16) ∧ Lib.TabIs Tryd.prog W "graft/digest.digits32" .u8 (zs D32)) ∧ (Lib.TabIs Tryd.prog W "graft/digest.startState" .u32 (zs Sha.startN) ∧ Lib.TabIs Tryd.prog W "graft/digest.roundConstants" .u32 (zs Sha.roundN)) := by
  rw [MakeChecks.laidMetH_plain _ _ _ (by kernel_rfl)] at h
  obtain ⟨ps, ⟨a3, b3, cs3, f3, p3, q3, hg3, ht3, hv3, hd3, ⟨a4, b4, cs4, f4, p4, q4, hg4, ht4, hv4, hd4, ⟨a5, b5, cs5, f5, p5, q5, hg5, ht5, hv5, hd5, ⟨a6, b6, cs6, f6, p6, q6, hg6, ht6, hv6, hd6, _, _⟩, _⟩, _⟩, _⟩, _⟩ := h
  obtain rfl := Option.some.inj (gD16.symm.trans hg3)
  obtain rfl := Option.some.inj (tD16.symm.trans ht3)
  obtain rfl := Option.some.inj (gD32.symm.trans hg4)
  obtain rfl := Option.some.inj (tD32.symm.trans ht4)
  obtain rfl := Option.some.inj (gSt.symm.trans hg5)
  obtain rfl := Option.some.inj (tSt.symm.trans ht5)
  obtain rfl := Option.some.inj (gRc.symm.trans hg6)
  obtain rfl := Option.some.inj (tRc.symm.trans ht6)
  refine ⟨⟨?_, ?_⟩, ⟨?_, ?_⟩⟩
  · unfold Lib.TabIs
    rw [hv3, ← Lib.cells_of_tab Tryd.underlying85 Tryd.underlying5 cells5 cA16 hd3]
  · unfold Lib.TabIs
    rw [hv4, ← Lib.cells_of_tab Tryd.underlying39 Tryd.underlying5 cells5 cA32 hd4]
  · unfold Lib.TabIs
    rw [hv5, ← Lib.cells_of_tab Tryd.underlying96 Tryd.underlying95 cu32 cW8 hd5]
  · unfold Lib.TabIs
    rw [hv6, ← Lib.cells_of_tab Tryd.underlying127 Tryd.underlying95 cu32 cW64 hd6]
theorem tb_of_laid {W : World} (h : laidMetH Tryd.prog laid4 W) : Tx W ∧ Sha.Tb W := by
  obtain ⟨⟨h16, h32⟩, ⟨hc, hd⟩⟩ := tabs4 h
  have A16 : ∀ j, j < 16 → W.cell? ⟨1, j, none⟩ = some (.int .u8 ((g16 j : Nat) : Int)) := fun j hj => by have := h16.cell gD16 j hj; rw [zs_getD] at this; exact this
  have A32 : ∀ j, j < 32 → W.cell? ⟨0, j, none⟩ = some (.int .u8 ((g32 j : Nat) : Int)) := fun j hj => by have := h32.cell gD32 j hj; rw [zs_getD] at this; exact this
  have B : ∀ j, j < 8 → W.cell? ⟨3, j, none⟩ = some (.int .u32 ((Sha.startN.getD j 0 : Nat) : Int)) := fun j hj => by have := hc.cell gSt j hj; rw [zs_getD] at this; exact this
  have C : ∀ j, j < 64 → W.cell? ⟨4, j, none⟩ = some (.int .u32 ((Sha.roundN.getD j 0 : Nat) : Int)) := fun j hj => by have := hd.cell gRc j hj; rw [zs_getD] at this; exact this
  have hz : 4 < W.heap.size := by
    have h2 := C 0 (by decide)
    rcases Nat.lt_or_ge 4 W.heap.size with h | h
    · exact h
    · simp [World.cell?, Array.getElem?_eq_none h] at h2
  exact ⟨⟨by omega, A16, A32⟩, ⟨hz, B, C⟩⟩
/-- A block's cells, laid anew. -/
def laidC (l : List Value) : Obj → Obj
  | .cells _ t frozen => .cells l.toArray t frozen
  | o => o
/-- A world for the witness. -/
noncomputable def laidWorld (os : Go.Os) : World :=
  { World.holding Tryd.prog os ⟨#[], #[], []⟩ with heap := ((((World.holding Tryd.prog os ⟨#[], #[], []⟩).heap.modify 1 (laidC ((zs D16).map (Value.int .u8)))).modify 0 (laidC ((zs D32).map (Value.int .u8)))).modify 3 (laidC ((zs Sha.startN).map (Value.int .u32)))).modify 4 (laidC ((zs Sha.roundN).map (Value.int .u32))) }
theorem one_le {H : Type} (d : DataW H) : 1 ≤ Rows.uptoBulk d := by
  cases d with
  | lit l => cases l <;> simp [Rows.uptoBulk]
  | _ => simp [Rows.uptoBulk]
theorem length_le {H : Type} : ∀ l : List (DataW H), l.length ≤ Rows.uptoBulkAll l
  | [] => by simp [Rows.uptoBulkAll]
  | x :: r => by have h1 := one_le x; have h2 := length_le r; simp only [Rows.uptoBulkAll, List.length_cons]; omega
theorem part_le {H : Type} {d : DataW H} : ∀ {l : List (DataW H)}, d ∈ l → Rows.uptoBulk d ≤ Rows.uptoBulkAll l
  | x :: r, h => by
    simp only [Rows.uptoBulkAll]
    rcases List.mem_cons.1 h with rfl | h
    · omega
    · have := part_le h; omega
theorem bulk_part {H : Type} {xs : List (DataW H × List MemPlace)} {i : Nat} {y : DataW H × List MemPlace} (h : xs[i]? = some y) : Rows.uptoBulk y.1 ≤ Rows.uptoBulk (.agg (xs.map (·.1)) : DataW H) := by
  have := part_le (List.mem_map_of_mem (f := (·.1)) (List.mem_of_getElem? h))
  simp only [Rows.uptoBulk]
  omega
/-- A slice of rows as it lies, in blocks below B. -/
def Ro (B : Nat) (W : World) (sz : Nat) (v : Value) (l : List (Array Value)) : Prop :=
  ∃ oa cap, v = .slice oa l.length cap ∧ (oa = none → cap = 0) ∧ l.length ≤ cap ∧ cap ≤ maxLen ∧ ∀ (i : Nat) c, l[i]? = some c → ∃ g o, oa = some ⟨g, o, none⟩ ∧ g < B ∧ c.size = sz ∧ W.rangeAt g (o + i * sz) c.toList
section
variable {H : Type} {enc : TypeId × Value → H} {P : Program} {W : World} {base fuel : Nat} {sp : Nat → Bool} {held : Bool} {t e : TypeId} {x : DataW H × List MemPlace}
/-- A slice of rows, opened. -/
theorem open_rows {sz : Nat} (hsz : 0 < sz) (ht : P.underlying t = some (.slice e)) (hce : P.cellsOf e = sz) {v : Value} (h : DataW.trod enc P W base sp held fuel t [v] = some x) :
    ∃ l : List (Array Value), Ro W.heap.size W sz v l ∧ l.length ≤ Rows.uptoBulk x.1 ∧ ∀ a ∈ l, ∃ m y, m < fuel ∧ DataW.trod enc P W base sp held m e a.toList = some y ∧ Rows.uptoBulk y.1 ≤ Rows.uptoBulk x.1 := by
  rcases DataW.trod_slice ht h with ⟨hcs, hx⟩ | ⟨a, len, cap, elems, rest, n, hfu, hcs, hx, -, hlc, hcm, hel, hat, -, -⟩
  · obtain rfl : v = .slice none 0 0 := by simpa using hcs
    exact ⟨[], ⟨none, 0, rfl, fun _ => rfl, Nat.le_refl _, Nat.zero_le _, fun i c h => by simp at h⟩, Nat.zero_le _, fun a h => by cases h⟩
  · obtain rfl : v = .slice (some a) len cap := by simpa using hcs
    rw [hce] at hat
    have each : ∀ i, ∃ c : List Value, i < len → (W.cells? base (a.add (i * sz)) sz = some c ∧ ∃ y, DataW.trod enc P W base sp held n e c = some y ∧ Rows.uptoBulk y.1 ≤ Rows.uptoBulk x.1) := fun i => by
      by_cases hi : i < len
      · have h1 := hat i hi
        rw [List.getElem?_eq_getElem (by omega)] at h1
        obtain ⟨c, hc, h2⟩ := Option.bind_eq_some_iff.1 h1
        refine ⟨c, fun _ => ⟨hc, _, h2, ?_⟩⟩
        have hp := part_le (l := elems.map (·.1)) (d := elems[i].1) (List.mem_map_of_mem (List.getElem_mem (by omega)))
        rw [hx]
        simp only [Rows.uptoBulk]
        omega
      · exact ⟨[], fun h => absurd h hi⟩
    obtain ⟨f, hf⟩ := Classical.axiomOfChoice each
    have hln : ((List.range len).map fun i => (f i).toArray).length = len := by simp
    refine ⟨(List.range len).map fun i => (f i).toArray, ⟨some a, cap, by rw [hln], (fun q => by cases q), by rw [hln]; exact hlc, hcm, fun i c hc => ?_⟩, ?_, fun c hc => ?_⟩
    · have hi : i < len := by have := (List.getElem?_eq_some_iff.1 hc).1; rwa [hln] at this
      obtain rfl : (f i).toArray = c := by simpa [hi] using hc
      obtain ⟨h1, -⟩ := hf i hi
      obtain ⟨-, h2, h3⟩ := World.cells?_some h1
      obtain ⟨b, off, spot⟩ := a
      have h30 := h3 0 hsz
      rw [List.getElem?_eq_getElem (by omega)] at h30
      have hspot : spot = none := by
        obtain ⟨-, k2, k3⟩ := World.cells?_some (hf 0 (by omega)).1
        have k30 := k3 0 hsz
        rw [List.getElem?_eq_getElem (by omega)] at k30
        simpa [Addr.add] using World.cell?_spot k30
      subst hspot
      refine ⟨b, off, rfl, ?_, by simpa using h2, fun j u hu => ?_⟩
      · exact World.block_lt_of_cell? W ⟨b, off + i * sz + 0, none⟩ (by rw [Go.WideShapes.add_plain, Go.WideShapes.add_plain] at h30; exact h30)
      · have hj : j < sz := by have := (List.getElem?_eq_some_iff.1 hu).1; simpa [h2] using this
        have := h3 j hj
        rw [Go.WideShapes.add_plain, Go.WideShapes.add_plain] at this
        rw [this]
        simpa using hu
    · rw [hln, hx]
      have h4 := length_le (elems.map (·.1))
      rw [List.length_map, hel] at h4
      simp only [Rows.uptoBulk]
      omega
    · obtain ⟨i, hi, rfl⟩ := List.mem_map.1 hc
      obtain ⟨-, y, hy, hyb⟩ := hf i (List.mem_range.1 hi)
      exact ⟨n, y, by omega, by simpa using hy, hyb⟩
end
theorem maps_of {A : Type} (f : A → Array Value) (P : A → Prop) : ∀ rows : List (Array Value), (∀ a ∈ rows, ∃ x, a = f x ∧ P x) → ∃ l : List A, rows = l.map f ∧ ∀ x ∈ l, P x
  | [], _ => ⟨[], rfl, fun x h => by cases h⟩
  | a :: r, h => by
    obtain ⟨x, rfl, hx⟩ := h a List.mem_cons_self
    obtain ⟨l, rfl, hl⟩ := maps_of f P r (fun b hb => h b (List.mem_cons_of_mem _ hb))
    refine ⟨x :: l, rfl, fun z hz => ?_⟩
    rcases List.mem_cons.1 hz with q | q
    · subst q; exact hx
    · exact hl z q
theorem ls_of {W : World} {v : Value} {sz : Nat} {l : List (Array Value)} (h : Ro W.heap.size W sz v l) (hr : Rs sz l) : Ls W v sz l := by
  obtain ⟨oa, cap, h1, h2, h3, h4, h5⟩ := h
  exact ⟨oa, cap, h1, h2, h3, h4, hr, fun i c hc => by
    obtain ⟨g, o, e1, e2, -, e4⟩ := h5 i c hc
    exact ⟨g, o, e1, e2, e4⟩⟩
section
variable {H : Type} {enc : TypeId × Value → H} {W : World} {base fuel : Nat} {sp : Nat → Bool} {held : Bool} {x : DataW H × List MemPlace}
theorem open_str {cs : List Value} (h : DataW.trod enc Tryd.prog W base sp held fuel 9 cs = some x) : ∃ s : S, cs = [.string s] ∧ s.size ≤ Rows.uptoBulk x.1 := by
  obtain ⟨s, e1, e2, -⟩ := DataW.trod_string Tryd.underlying9 h
  refine ⟨s, e1, ?_⟩
  rw [e2]
  simp only [Rows.uptoBulk, Array.length_toList]
  show s.data.size ≤ _
  omega
theorem open_texts {v : Value} (h : DataW.trod enc Tryd.prog W base sp held fuel 22 [v] = some x) : ∃ l : List S, Ls W v 1 (l.map sR) ∧ l.length ≤ Rows.uptoBulk x.1 ∧ ∀ s ∈ l, s.size ≤ Rows.uptoBulk x.1 := by
  obtain ⟨rows, hr, hb, he⟩ := open_rows (by decide) Tryd.underlying22 cells9 h
  obtain ⟨l, rfl, hl⟩ := maps_of sR (fun s => s.size ≤ Rows.uptoBulk x.1) rows (fun a ha => by
    obtain ⟨m, y, -, hy, hyb⟩ := he a ha
    obtain ⟨s, e1, e2⟩ := open_str hy
    exact ⟨s, Array.toList_inj.1 e1, by omega⟩)
  exact ⟨l, ls_of hr (rs_s l), by simpa using hb, hl⟩
end
theorem open_byl {H : Type} {enc : TypeId × Value → H} {W : World} {base : Nat} {v : Value} {d : DataW H} {p : List MemPlace} (hv : Value.okWide Tryd.prog W .any base 23 v) (h : DataW.Trod enc Tryd.prog W 0 (fun _ => true) true 23 v d p) :
    ∃ l : List Nat, Byl v l W ∧ Byt l ∧ ((d = .nil ∧ l = []) ∨ ∃ es sp, d = .slice es sp ∧ es.length = l.length) := by
  obtain ⟨a0, len, cap, rfl⟩ := okWide_slice Tryd.underlying23 hv
  obtain ⟨fuel, hf⟩ := h
  rcases open_ints Tryd.underlying23 Tryd.underlying5 cells5 hf with ⟨hcs, hx⟩ | ⟨a, len', cap', zs, hcs, _, hl, hm, hz, hx, hcell, hwz⟩
  · simp [Value.cells] at hcs
    obtain ⟨rfl, rfl, rfl⟩ := hcs
    simp only [Prod.mk.injEq] at hx
    exact ⟨[], .inl ⟨rfl, rfl⟩, (fun x hx => by cases hx), .inl ⟨hx.1, rfl⟩⟩
  · simp [Value.cells] at hcs
    obtain ⟨rfl, rfl, rfl⟩ := hcs
    simp only [Value.okWide, Tryd.underlying23, Cell.okWide, Cell.ok] at hv
    obtain ⟨_, _, _, hspot, row, cells, hsh, _⟩ := hv
    have hblk : a.block < W.heap.size := by
      rcases Nat.lt_or_ge a.block W.heap.size with h | h
      · exact h
      · simp [World.shape?, Array.getElem?_eq_none h] at hsh
    obtain ⟨b, off, spot⟩ := a
    simp only at hspot hblk
    subst hspot
    simp only [if_true] at hz
    have hw : ∀ z ∈ zs, 0 ≤ z ∧ z < 256 := fun z hz => wf_byte (hwz z hz)
    have hll : ((zs.take len).map Int.toNat).length = len := by rw [List.length_map, List.length_take]; omega
    refine ⟨(zs.take len).map Int.toNat, .inr ⟨b, off, cap, by rw [hll], by omega, hm, hblk, fun j hj => ?_⟩, ?_, .inr ?_⟩
    · rw [hll] at hj
      have hj2 : j < zs.length := by omega
      have h1 := hcell j hj2
      rw [Go.WideShapes.add_plain] at h1
      rw [h1]
      have h2 : zs.getD j 0 = zs[j] := by simp [List.getD, hj2]
      have h3 : ((zs.take len).map Int.toNat).getD j 0 = zs[j].toNat := by
        simp [List.getD, hj, hj2]
      rw [h2, h3, Int.toNat_of_nonneg (hw _ (List.getElem_mem hj2)).1]
    · intro x hx
      obtain ⟨z, hz, rfl⟩ := List.mem_map.1 hx
      have := hw z (List.mem_of_mem_take hz)
      omega
    · simp only [Prod.mk.injEq] at hx
      refine ⟨_, _, hx.1, ?_⟩
      rw [hll]
      simp [lits]
      omega
theorem ctsS : Tryd.prog.cellTypes Tryd.prog.depth 25 = some [22, 3, 4, 23, 23, 22, 22, 9, 5] := by kernel_rfl
theorem wf_i64 {z : Int} (h : (Lit.int .i64 z).wf = true) : -9223372036854775808 ≤ z ∧ z ≤ 9223372036854775807 := by
  simp [Lit.wf, IntKind.min, IntKind.max, IntKind.signed, IntKind.bits] at h
  omega
/-- A Spec that is handed in. -/
theorem open_spec {H : Type} {enc : TypeId × Value → H} {W : World} {base : Nat} {v : Value} {D : DataW H} {p : List MemPlace} (hx : Tx W) (ht : Sha.Tb W) (hv : Value.okWide Tryd.prog W .any base 25 v) (h : DataW.Trod enc Tryd.prog W 0 (fun _ => true) true 25 v D p) (hD : Rows.uptoBulk D ≤ 1048576) :
    ∃ nv sv iv av kv q, v = .agg (spV nv sv iv av kv q) ∧ SpH W nv sv iv av kv q := by
  obtain ⟨fuel, h⟩ := h
  obtain ⟨cs, rfl, hcs, ts, ht1, -, ht3⟩ : ∃ cs, v = .agg cs ∧ cs.size = Tryd.prog.cellsOf 25 ∧ Row.okWide Tryd.prog W .any base 25 cs := by
    unfold Value.okWide at hv
    rw [Tryd.underlying25] at hv
    exact hv
  rw [cellsS] at hcs
  have hts : ts = [22, 3, 4, 23, 23, 22, 22, 9, 5] := Option.some.inj (ht1.symm.trans ctsS)
  subst hts
  obtain ⟨xs, n, rfl, hxx, hlen, hxl, hfe⟩ := DataW.trod_struct Tryd.underlying25 h
  have hxl9 : xs.length = 9 := hxl
  have h0 := hfe 0 _ rfl
  have h1 := hfe 1 _ rfl
  have h2 := hfe 2 _ rfl
  have h3 := hfe 3 _ rfl
  have h4 := hfe 4 _ rfl
  have h5 := hfe 5 _ rfl
  have h6 := hfe 6 _ rfl
  have h7 := hfe 7 _ rfl
  have h8 := hfe 8 _ rfl
  rw [List.getElem?_eq_getElem (by omega)] at h0 h1 h2 h3 h4 h5 h6 h7 h8
  obtain ⟨l⟩ := cs
  match l, hcs with
  | [c0, c1, c2, c3, c4, c5, c6, c7, c8], _ =>
    have h0 : DataW.trod enc Tryd.prog W 0 (fun _ => true) true n 22 (([c0, c1, c2, c3, c4, c5, c6, c7, c8].drop 0).take (Tryd.prog.cellsOf 22)) = some xs[0] := h0
    have h1 : DataW.trod enc Tryd.prog W 0 (fun _ => true) true n 3 (([c0, c1, c2, c3, c4, c5, c6, c7, c8].drop 1).take (Tryd.prog.cellsOf 3)) = some xs[1] := h1
    have h2 : DataW.trod enc Tryd.prog W 0 (fun _ => true) true n 4 (([c0, c1, c2, c3, c4, c5, c6, c7, c8].drop 2).take (Tryd.prog.cellsOf 4)) = some xs[2] := h2
    have h3 : DataW.trod enc Tryd.prog W 0 (fun _ => true) true n 23 (([c0, c1, c2, c3, c4, c5, c6, c7, c8].drop 3).take (Tryd.prog.cellsOf 23)) = some xs[3] := h3
    have h4 : DataW.trod enc Tryd.prog W 0 (fun _ => true) true n 23 (([c0, c1, c2, c3, c4, c5, c6, c7, c8].drop 4).take (Tryd.prog.cellsOf 23)) = some xs[4] := h4
    have h5 : DataW.trod enc Tryd.prog W 0 (fun _ => true) true n 22 (([c0, c1, c2, c3, c4, c5, c6, c7, c8].drop 5).take (Tryd.prog.cellsOf 22)) = some xs[5] := h5
    have h6 : DataW.trod enc Tryd.prog W 0 (fun _ => true) true n 22 (([c0, c1, c2, c3, c4, c5, c6, c7, c8].drop 6).take (Tryd.prog.cellsOf 22)) = some xs[6] := h6
    have h7 : DataW.trod enc Tryd.prog W 0 (fun _ => true) true n 9 (([c0, c1, c2, c3, c4, c5, c6, c7, c8].drop 7).take (Tryd.prog.cellsOf 9)) = some xs[7] := h7
    have h8 : DataW.trod enc Tryd.prog W 0 (fun _ => true) true n 5 (([c0, c1, c2, c3, c4, c5, c6, c7, c8].drop 8).take (Tryd.prog.cellsOf 5)) = some xs[8] := h8
    rw [cellsT] at h0 h5 h6
    rw [cells3] at h1
    rw [cells4] at h2
    rw [cellsB] at h3 h4
    rw [cells9] at h7
    rw [cells5] at h8
    have hok : ∀ (j : Nat) c, #[c0, c1, c2, c3, c4, c5, c6, c7, c8][j]? = some c → [22, 3, 4, 23, 23, 22, 22, 9, 5][j % [22, 3, 4, 23, 23, 22, 22, 9, 5].length]? = some 23 → Value.okWide Tryd.prog W .any base 23 c := fun j c h1 h2 => by
      obtain ⟨u, hu1, hu2⟩ := ht3 j c h1
      obtain rfl : 23 = u := Option.some.inj (h2.symm.trans hu1)
      unfold Value.okWide
      rw [Tryd.underlying23]
      exact hu2
    obtain ⟨ln, a0, -, z0⟩ := open_texts h0
    obtain ⟨m, e1, -, m3⟩ := DataW.trod_int Tryd.underlying3 h1
    obtain ⟨fl, e2, -⟩ := DataW.trod_bool Tryd.underlying4 h2
    have o3 := hok 3 c3 rfl rfl
    have o4 := hok 4 c4 rfl rfl
    obtain ⟨x3, y3, w3, rfl⟩ := okWide_slice Tryd.underlying23 o3
    obtain ⟨x4, y4, w4, rfl⟩ := okWide_slice Tryd.underlying23 o4
    obtain ⟨so, b3, t3, -⟩ := open_byl (p := xs[3].2) o3 ⟨n, h3⟩
    obtain ⟨ip, b4, t4, -⟩ := open_byl (p := xs[4].2) o4 ⟨n, h4⟩
    obtain ⟨la, a5, -, -⟩ := open_texts h5
    obtain ⟨lk, a6, -, -⟩ := open_texts h6
    obtain ⟨tx, e7, z7⟩ := open_str h7
    obtain ⟨sd, e8, -, s8⟩ := DataW.trod_int Tryd.underlying5 h8
    obtain ⟨s0, s1⟩ := wf_byte s8
    obtain ⟨m1, m2⟩ := wf_i64 m3
    obtain ⟨sd, rfl⟩ : ∃ k : Nat, sd = k := ⟨sd.toNat, by omega⟩
    have w1 : c1 = _ := (List.cons.inj e1).1
    have w2 : c2 = _ := (List.cons.inj e2).1
    have w7 : c7 = _ := (List.cons.inj e7).1
    have w8 : c8 = _ := (List.cons.inj e8).1
    have e2 : D = .agg (xs.map (·.1)) := congrArg Prod.fst hxx
    rw [e2] at hD
    have k0 := bulk_part (xs := xs) (i := 0) (y := xs[0]) (List.getElem?_eq_getElem (by omega))
    have k7 := bulk_part (xs := xs) (i := 7) (y := xs[7]) (List.getElem?_eq_getElem (by omega))
    refine ⟨c0, .slice x3 y3 w3, .slice x4 y4 w4, c5, c6, ⟨ln, m, fl, so, ip, la, lk, tx, sd⟩, by rw [w1, w2, w7, w8]; rfl, a0, b3, b4, a5, a6, t3, t4, m1, m2, ?_, ?_, ?_, hx, ht⟩
    · show tx.size ≤ _
      omega
    · show sd < 256
      omega
    · intro x hx
      have := z0 x hx
      omega
theorem contract (H : Type) (enc : TypeId × Value → H) (W : World) (base : Nat) (args : Array Value) (ds gs : List (DataW H)) (before : List MemPlace) (hx : Tx W) (ht : Sha.Tb W)
    (hval0 : ∀ (j : Nat) t v, (Tryd.f3).params[j]? = some t → args[j]? = some v → Value.okWide Tryd.prog W .any base t v)
    (hW : DataW.Whole enc Tryd.prog (Tryd.f3).params.toList Rows.recipeSwappedSpec.vars false W args.toList ds gs before)
    (hk : Rows.uptoSmall H (ds ++ gs) = true) :
    Calls Tryd.prog 3 args W fun e W' => ∃ v, e = .returned v ∧ Rows.recipeSwappedSpec.post enc Tryd.prog Tryd.f3 false true false false W args v W' := by
  have hval := hval0
  have hW' := hW
  obtain ⟨p, q, hA0, hV, rfl, hfz, hnd⟩ := hW
  have hA : DataW.TrodAll enc Tryd.prog W 0 (fun _ => true) true (Tryd.f3).params.toList args.toList ds p := hA0
  rw [Tryd.params3] at hA hval
  obtain ⟨v0, v1, v2, d0, d1, d2, p0, p1, p2, rfl, rfl, rfl, h0, h1, h2⟩ := trodAll_three hA
  obtain ⟨rfl, rfl⟩ := trodVars_none hV
  clear hA0 hval0
  simp only [List.append_nil] at hW' hk
  have hbk : Rows.uptoBulkAll [d0, d1, d2] ≤ 1048576 := of_decide_eq_true hk
  have k0 := part_le (l := [d0, d1, d2]) (d := d0) (by simp)
  obtain ⟨nv, sv, iv, av, kv, sp, rfl, hsp⟩ := open_spec hx ht (hval 0 25 v0 rfl rfl) h0 (by omega)
  have byte : ∀ {v : Value} {d : DataW H} {p : List MemPlace}, Value.okWide Tryd.prog W .any base 5 v → DataW.Trod enc Tryd.prog W 0 (fun _ => true) true 5 v d p → ∃ k : Nat, k < 256 ∧ v = .int .u8 (k : Int) := fun {v d p} hv h => by
    obtain ⟨z, rfl, -, -, z2⟩ := open_int Tryd.underlying5 hv h
    obtain ⟨s0, s1⟩ := wf_byte z2
    exact ⟨z.toNat, by omega, by rw [show ((z.toNat : Nat) : Int) = z by omega]⟩
  obtain ⟨a, ha, rfl⟩ := byte (hval 1 5 v1 rfl rfl) h1
  obtain ⟨b, hb, rfl⟩ := byte (hval 2 5 v2 rfl rfl) h2
  have hlt0 : ∀ x ∈ p0, x.block < W.heap.size := fun x hx => by simpa using hW'.lt x (by simp [hx])
  have hlt1 : ∀ x ∈ p1, x.block < W.heap.size := fun x hx => by simpa using hW'.lt x (by simp [hx])
  have hlt2 : ∀ x ∈ p2, x.block < W.heap.size := fun x hx => by simpa using hW'.lt x (by simp [hx])
  refine (swapped_any W nv sv iv av kv sp hsp a b ha hb).mono fun e W' ⟨he, hbl⟩ => ?_
  subst he
  have harg0 := Below.trod laidOut (by kernel_rfl) (of_decide_eq_true (by kernel_rfl)) h0 hbl hlt0
  have harg1 := Below.trod laidOut (by kernel_rfl) (of_decide_eq_true (by kernel_rfl)) h1 hbl hlt1
  have harg2 := Below.trod laidOut (by kernel_rfl) (of_decide_eq_true (by kernel_rfl)) h2 hbl hlt2
  exact ⟨_, rfl, _, _, _, [], _, [], hW', trodAll_mk1 (shut_bool Tryd.underlying4 _), trodAll_mk3 harg0 harg1 harg2, rfl, hbl.frame _, fun h => by cases h⟩
def wit : Array Value := #[.agg #[.slice none 0 0, .int .i64 0, .bool false, .slice none 0 0, .slice none 0 0, .slice none 0 0, .slice none 0 0, .string ⟨#[]⟩, .int .u8 0], .int .u8 0, .int .u8 0]
theorem laid_met (os : Go.Os) : laidMet Tryd.prog Rows.recipeSwappedUptoRow.laid ((laidWorld os).forCall (fun _ _ => 0) ⟨#[], wit, []⟩).memory :=
  laidMet_of_run' 8 (by kernel_rfl) (by kernel_rfl)
theorem reads (os : Go.Os) {H : Type} (enc : TypeId × Value → H) : ∃ places, DataW.whole enc Tryd.prog ((laidWorld os).forCall (fun _ _ => 0) ⟨#[], wit, []⟩).memory (Tryd.f3).params.toList Rows.recipeSwappedSpec.vars false wit.toList 8 = some ([.agg [.nil, .lit (.int .i64 0), .lit (.bool false), .nil, .nil, .nil, .nil, .lit (.string []), .lit (.int .u8 0)], .lit (.int .u8 0), .lit (.int .u8 0)], [], places) :=
  ⟨[], by kernel_rfl⟩
theorem lifted (os : Go.Os) (started : os.Started) (H : Type) (enc : TypeId × Value → H) (F : Stop.Interp) :
    ReturnsInHanded {} Tryd.checked os 3 .any ((Rows.OpenSpec.upto Rows.recipeSwappedSpec).preRow enc Tryd.prog Tryd.f3 Rows.recipeSwappedUptoRow.domain false Rows.recipeSwappedUptoRow.laid) (((Rows.OpenSpec.upto Rows.recipeSwappedSpec).at F).post enc Tryd.prog Tryd.f3 false true false false) := by
  obtain ⟨places, hx⟩ := reads os enc
  refine returnsInHanded_of_row (C := Tryd.checked) (s := Rows.OpenSpec.upto Rows.recipeSwappedSpec) own started (by kernel_rfl) Tryd.func3
    (witness_row_at (enc := enc) (C := Tryd.checked) false (laidWorld os) wit rfl (by kernel_rfl) (by kernel_rfl) (by kernel_rfl)
      (OpenSpec.preRow_of_cond 8 hx (by kernel_rfl) (fun k hk => by cases hk; kernel_rfl) (by kernel_rfl) (laid_met os))) ?_
  intro W base args ds gs before hval hW _ hcond hsz hL _ _
  exact contract H enc W base args ds gs before (tb_of_laid hL).1 (tb_of_laid hL).2 hval hW (hcond _ rfl)
theorem said : Rows.RecipeSwappedUptoSaid :=
  OpenClaim.holds_of_cond 3 Tryd.f3 rfl rfl rfl rfl rfl rfl rfl ⟨rfl, rfl, rfl, rfl, rfl⟩ rfl rfl rfl rfl rfl (by kernel_rfl) Tryd.func3 (by kernel_rfl)
    (of_decide_eq_true (by kernel_rfl)) (by unfold Func.isWrapper; first | (rw [if_pos (by decide +kernel)]; kernel_rfl) | (rw [if_neg (by decide +kernel)]; exact ⟨rfl, rfl⟩))
    (fun os started H enc _ F => by rw [OpenClaim.pre_eq_preRow]; exact lifted os started H enc F)
theorem plain (f : FuncId) (fn : Func) (hf : Tryd.pinned.checked.prog.funcNamed "graft/graftlaw6.RecipeSwapped" = some f) (hfn : Tryd.pinned.checked.prog.funcs[f]? = some fn) :
    false = Tryd.pinned.checked.prog.looks [] ∧ ∀ (j : Nat) t, fn.params[j]? = some t → Tryd.pinned.checked.prog.wantsStandIn t = false := by
  obtain rfl : f = 3 := Option.some.inj ((show Tryd.prog.funcNamed "graft/graftlaw6.RecipeSwapped" = some 3 by kernel_rfl).symm.trans hf) |>.symm
  obtain rfl : fn = Tryd.f3 := (Option.some.inj ((Tryd.func3).symm.trans hfn)).symm
  refine ⟨by kernel_rfl, fun j t ht => ?_⟩
  rw [Tryd.params3] at ht
  match j, ht with
  | 0, h =>
    obtain rfl := (Option.some.inj h).symm
    exact (by kernel_rfl : Tryd.prog.wantsStandIn 25 = false)
  | 1, h =>
    obtain rfl := (Option.some.inj h).symm
    exact (by kernel_rfl : Tryd.prog.wantsStandIn 5 = false)
  | 2, h =>
    obtain rfl := (Option.some.inj h).symm
    exact (by kernel_rfl : Tryd.prog.wantsStandIn 5 = false)
  | j + 3, h => simp at h
end Go.Proofs.YtceclpabdfncoaaDoor.Re
namespace Go.Proofs.YtceclpabdfncoaaDoor
theorem recipeSwapped_card : Rows.RecipeSwappedUptoCardSaid :=
  Claim7.holds_tied_plain_at .later [] _ _ _ _ Re.said (fun _ h => by cases h) (by kernel_rfl) (fun _ h => by cases h) recipeSwappedUpto_row_tie rfl ⟨rfl, rfl⟩ (by kernel_rfl) rfl Re.plain (by kernel_rfl)
#print axioms recipeSwapped_card
end Go.Proofs.YtceclpabdfncoaaDoor
