/- The journal's rows: what every card of theirs wants. -/
import Derived.Test.YtfimaflglnemdaaDoorJqZ
import Derived.Test.YtfimaflglnemdaaDoorCards
import Derived.Test.YtfimaflglnemdaaDoorTie
import Derived.SizedLaws
import Derived.ChangeSlices
import Derived.SliceStrings
import Derived.OpenShut
import Derived.Carry
import Derived.JoinedCond
import Derived.Deep.Slices
import Derived.ProofKit
import Derived.Deep.DeepHandedRow
import Derived.Lib.LaidTab
namespace Go.Proofs.YtfimaflglnemdaaDoor.DJ
open Go.ChangeShapes Go.WideShapes Go.ChangeAt Go.RowKit
theorem own : ownKnob Tryd.prog.godebug = none := by kernel_rfl
theorem laidOut : laidOutB Tryd.prog = true := by kernel_rfl
theorem cells5 : Tryd.prog.cellsOf 5 = 1 := by kernel_rfl
theorem cellsB : Tryd.prog.cellsOf 23 = 1 := by kernel_rfl
theorem bytes5 : Tryd.prog.bytesOf 5 = 1 := by kernel_rfl
theorem reach_eq : reachBytes = 140737488351232 := by decide
/-- A slice of rows as it lies, in blocks below B. -/
def Rd (B : Nat) (W : World) (sz : Nat) (v : Value) (l : List (Array Value)) : Prop :=
  ∃ oa cap, v = .slice oa l.length cap ∧ l.length ≤ cap ∧ cap ≤ maxLen ∧ ∀ (i : Nat) c, l[i]? = some c → ∃ g o, oa = some ⟨g, o, none⟩ ∧ g < B ∧ c.size = sz ∧ W.rangeAt g (o + i * sz) c.toList
section
variable {H : Type} {enc : TypeId × Value → H} {P : Program} {W : World} {base fuel : Nat} {sp : Nat → Bool} {held : Bool} {t e : TypeId} {x : DataW H × List MemPlace}
/-- A slice of rows, opened. -/
theorem open_rows {sz : Nat} (hsz : 0 < sz) (ht : P.underlying t = some (.slice e)) (hce : P.cellsOf e = sz) {v : Value} (h : DataW.trod enc P W base sp held fuel t [v] = some x) :
    ∃ l : List (Array Value), Rd W.heap.size W sz v l ∧ ((x.1 = .nil ∧ l.length = 0) ∨ ∃ es sp', x.1 = .slice es sp' ∧ es.length = l.length) ∧ ∀ a ∈ l, ∃ m y, m < fuel ∧ DataW.trod enc P W base sp held m e a.toList = some y ∧ ∃ es sp', x.1 = .slice es sp' ∧ y.1 ∈ es := by
  rcases DataW.trod_slice ht h with ⟨hcs, hx⟩ | ⟨a, len, cap, elems, rest, n, hfu, hcs, hx, -, hlc, hcm, hel, hat, -, -⟩
  · obtain rfl : v = .slice none 0 0 := by simpa using hcs
    exact ⟨[], ⟨none, 0, rfl, Nat.le_refl _, Nat.zero_le _, fun i c h => by simp at h⟩, .inl ⟨by rw [hx], rfl⟩, fun a h => by cases h⟩
  · obtain rfl : v = .slice (some a) len cap := by simpa using hcs
    rw [hce] at hat
    have each : ∀ i, ∃ c : List Value, i < len → (W.cells? base (a.add (i * sz)) sz = some c ∧ ∃ y, DataW.trod enc P W base sp held n e c = some y) := fun i => by
      by_cases hi : i < len
      · have h1 := hat i hi
        rw [List.getElem?_eq_getElem (by omega)] at h1
        obtain ⟨c, hc, h2⟩ := Option.bind_eq_some_iff.1 h1
        exact ⟨c, fun _ => ⟨hc, _, h2⟩⟩
      · exact ⟨[], fun h => absurd h hi⟩
    obtain ⟨f, hf⟩ := Classical.axiomOfChoice each
    have hln : ((List.range len).map fun i => (f i).toArray).length = len := by simp
    refine ⟨(List.range len).map fun i => (f i).toArray, ⟨some a, cap, by rw [hln], by rw [hln]; exact hlc, hcm, fun i c hc => ?_⟩, ?_, fun c hc => ?_⟩
    · have hi : i < len := by have := (List.getElem?_eq_some_iff.1 hc).1; rwa [hln] at this
      obtain rfl : (f i).toArray = c := by simpa [hi] using hc
      obtain ⟨h1, -⟩ := hf i hi
      obtain ⟨-, h2, h3⟩ := World.cells?_some h1
      obtain ⟨b, off, spot⟩ := a
      have h30 := h3 0 hsz
      rw [List.getElem?_eq_getElem (by omega)] at h30
      have hspot : spot = none := by
        obtain ⟨-, k2, k3⟩ := World.cells?_some (hf 0 (by omega)).1
        have k30 := k3 0 hsz
        rw [List.getElem?_eq_getElem (by omega)] at k30
        simpa [Addr.add] using World.cell?_spot k30
      subst hspot
      refine ⟨b, off, rfl, ?_, by simpa using h2, fun j u hu => ?_⟩
      · exact World.block_lt_of_cell? W ⟨b, off + i * sz + 0, none⟩ (by rw [Go.WideShapes.add_plain, Go.WideShapes.add_plain] at h30; exact h30)
      · have hj : j < sz := by have := (List.getElem?_eq_some_iff.1 hu).1; simpa [h2] using this
        have := h3 j hj
        rw [Go.WideShapes.add_plain, Go.WideShapes.add_plain] at this
        rw [this]
        simpa using hu
    · exact .inr ⟨_, _, by rw [hx], by rw [hln, List.length_map]; exact hel⟩
    · obtain ⟨i, hi, rfl⟩ := List.mem_map.1 hc
      have hi2 := List.mem_range.1 hi
      obtain ⟨h1, y, hy⟩ := hf i hi2
      refine ⟨n, y, by omega, by simpa using hy, _, _, by rw [hx], ?_⟩
      have h3 := hat i hi2
      rw [h1, Option.bind_some, hy] at h3
      exact List.mem_map.2 ⟨y, List.mem_of_getElem? h3.symm, rfl⟩
end
theorem wf_byte {z : Int} (h : (Lit.int .u8 z).wf = true) : 0 ≤ z ∧ z < 256 := by
  simp [Lit.wf, IntKind.min, IntKind.max, IntKind.signed, IntKind.bits] at h
  omega
def byteOf (c : Array Value) : Nat := match (c.getD 0 undef : Value) with
  | Value.int _ z => z.toNat
  | _ => 0
theorem open_bl {H : Type} {enc : TypeId × Value → H} {W : World} {base fuel : Nat} {sp : Nat → Bool} {held : Bool} {v : Value} {x : DataW H × List MemPlace} (h : DataW.trod enc Tryd.prog W base sp held fuel 23 [v] = some x) : ∃ l, Bl W v l ∧ ((x.1 = .nil ∧ l.length = 0) ∨ ∃ es sp', x.1 = .slice es sp' ∧ es.length = l.length) := by
  obtain ⟨lb, ⟨oa, cap, rfl, h1, h2, h3⟩, hbk, h4⟩ := open_rows (by decide) Tryd.underlying23 cells5 h
  have hb : ∀ c ∈ lb, ∃ z : Nat, z < 256 ∧ c = #[.int .u8 (z : Int)] := fun c hc => by
    obtain ⟨m, y, -, hy, -⟩ := h4 c hc
    obtain ⟨z, e1, -, hw⟩ := DataW.trod_int Tryd.underlying5 hy
    obtain ⟨w0, w1⟩ := wf_byte hw
    refine ⟨z.toNat, by omega, ?_⟩
    rw [Int.toNat_of_nonneg w0]
    exact Array.toList_inj.1 e1
  have hv : ∀ c ∈ lb, c = #[.int .u8 (byteOf c : Int)] ∧ byteOf c < 256 := fun c hc => by
    obtain ⟨z, hz, rfl⟩ := hb c hc
    exact ⟨by simp [byteOf], by simpa [byteOf] using hz⟩
  have hl : (lb.map byteOf).length = lb.length := by simp
  refine ⟨lb.map byteOf, ⟨oa, cap, by rw [hl], by rw [hl]; exact h1, h2, fun y hy => ?_, fun j u hu => ?_⟩, by rw [hl]; exact hbk⟩
  · obtain ⟨c, hc, rfl⟩ := List.mem_map.1 hy
    exact (hv c hc).2
  · have hj : j < lb.length := by have := (List.getElem?_eq_some_iff.1 hu).1; rwa [bs_len, hl] at this
    obtain ⟨g, o, e1, e2, e3, e4⟩ := h3 j lb[j] (List.getElem?_eq_getElem hj)
    refine ⟨g, o, e1, e2, ?_⟩
    have hc := (hv lb[j] (List.getElem_mem hj)).1
    have e5 := e4 0 (.int .u8 (byteOf lb[j] : Int)) (by rw [hc]; simp [byteOf])
    rw [Nat.mul_one, Nat.add_zero] at e5
    rw [e5, ← hu]
    simp [bs, hj]
def zs (l : List Nat) : List Int := l.map (fun (x : Nat) => (x : Int))
def laid1 : List (String × DataW Unit) := [("graft/press.crcRows", Rows.laid_graft_press_crcRows)]
theorem gA : Tryd.prog.globalNamed "graft/press.crcRows" = some 0 := by kernel_rfl
theorem gAType : (Tryd.prog.globals[0]?).map (·.type) = some 139 := by kernel_rfl
theorem cellsU : Tryd.prog.cellsOf 125 = 1 := by kernel_rfl
theorem cellsT : Tryd.prog.cellsOf 139 = 16 := by kernel_rfl
theorem eqA : (Rows.laid_graft_press_crcRows : DataW Unit) = Lib.tabData .u32 (zs T16) := rfl
theorem tabs {W : World} (h : laidMetH Tryd.prog laid1 W) : Lib.TabIs Tryd.prog W "graft/press.crcRows" .u32 (zs T16) := by
  rw [MakeChecks.laidMetH_plain _ _ _ (by kernel_rfl)] at h
  obtain ⟨ps, ⟨g0, t0, cs0, f0, p0, q0, hg0, ht0, hv0, hd0, _, _⟩, _⟩ := h
  obtain rfl := Option.some.inj (gA.symm.trans hg0)
  obtain rfl := Option.some.inj (gAType.symm.trans ht0)
  unfold Lib.TabIs
  rw [hv0, ← Lib.cells_of_tab Tryd.underlying139 Tryd.underlying125 cellsU cellsT hd0]
theorem zs_getD (l : List Nat) (j : Nat) : (zs l).getD j 0 = ((l.getD j 0 : Nat) : Int) := by
  by_cases h : j < l.length
  · simp [zs, List.getD, h]
  · simp [zs, List.getD, h]
theorem tc_of_laid {W : World} (h : laidMetH Tryd.prog laid1 W) : Tc W := by
  have ha := tabs h
  have A : ∀ j, j < 16 → W.cell? ⟨0, j, none⟩ = some (.int .u32 ((T16.getD j 0 : Nat) : Int)) := fun j hj => by have := ha.cell gA j hj; rw [zs_getD] at this; exact this
  refine ⟨?_, A⟩
  have h2 := A 0 (by decide)
  rcases Nat.lt_or_ge 0 W.heap.size with h | h
  · exact h
  · simp [World.cell?, Array.getElem?_eq_none h] at h2
/-- A block's cells, laid anew. -/
def laidCells (l : List Int) : Obj → Obj
  | .cells _ t frozen => .cells (l.map (Value.int .u32)).toArray t frozen
  | o => o
/-- A world for the witness. -/
noncomputable def laidWorld (os : Os) : World :=
  { World.holding Tryd.prog os ⟨#[], #[], []⟩ with heap := (World.holding Tryd.prog os ⟨#[], #[], []⟩).heap.modify 0 (laidCells (zs T16)) }
theorem all_mem {H : Type} {e : TypeId} {d : DataW H} : ∀ {es : List (DataW H)}, d ∈ es → (DataW.weightsAll Tryd.prog e es).all (· ≤ reachBytes) = true → (DataW.weights Tryd.prog e d).all (· ≤ reachBytes) = true
  | x :: r, hd, h => by
    rw [DataW.weightsAll, List.all_append, Bool.and_eq_true] at h
    rcases List.mem_cons.1 hd with rfl | q
    · exact h.1
    · exact all_mem q h.2
theorem slice_mem {H : Type} {t e : TypeId} (ht : Tryd.prog.underlying t = some (.slice e)) {d y : DataW H} (h : (DataW.weights Tryd.prog t d).all (· ≤ reachBytes) = true) (hy : ∃ es sp', d = .slice es sp' ∧ y ∈ es) : (DataW.weights Tryd.prog e y).all (· ≤ reachBytes) = true := by
  obtain ⟨es, sp', rfl, hm⟩ := hy
  simp only [DataW.weights, ht, List.all_cons, List.all_append, Bool.and_eq_true] at h
  exact all_mem hm h.2.1
theorem cellsL : Tryd.prog.cellsOf 27 = 1 := by kernel_rfl
theorem cellsBool : Tryd.prog.cellsOf 4 = 1 := by kernel_rfl
theorem cellsSt : Tryd.prog.cellsOf 32 = 2 := by kernel_rfl
section
variable {H : Type} {enc : TypeId × Value → H} {W : World} {base fuel : Nat} {sp : Nat → Bool} {held : Bool} {v : Value} {x : DataW H × List MemPlace}
theorem open_blen (h : DataW.trod enc Tryd.prog W base sp held fuel 23 [v] = some x) (hw : (DataW.weights Tryd.prog 23 x.1).all (· ≤ reachBytes) = true) : ∃ l, Bl W v l ∧ l.length ≤ LIM := by
  obtain ⟨l, h1, h2⟩ := open_bl h
  refine ⟨l, h1, ?_⟩
  rcases h2 with ⟨_, h0⟩ | ⟨es, sp', e, h0⟩
  · rw [h0]; exact Nat.zero_le _
  · rw [e] at hw
    simp only [DataW.weights, Tryd.underlying23, List.all_cons, Bool.and_eq_true, decide_eq_true_eq] at hw
    have h2 := reach_eq
    have h3 := hw.1
    rw [bytes5] at h3
    unfold LIM
    omega
theorem open_lists (h : DataW.trod enc Tryd.prog W base sp held fuel 27 [v] = some x) (hw : (DataW.weights Tryd.prog 27 x.1).all (· ≤ reachBytes) = true) : ∃ ls, Lr W v ls ∧ ∀ y ∈ ls, y.length ≤ LIM := by
  obtain ⟨l, ⟨oa, cap, rfl, h1, h2, h3⟩, -, h4⟩ := open_rows (by decide) Tryd.underlying27 cellsB h
  have each : ∀ c, ∃ b : List Nat, c ∈ l → ∃ u, c = #[u] ∧ Bl W u b ∧ b.length ≤ LIM := fun c => by
    by_cases hc : c ∈ l
    · obtain ⟨m, y, -, hy, hm⟩ := h4 c hc
      obtain ⟨i, hi, hci⟩ := List.getElem_of_mem hc
      obtain ⟨_, _, _, _, hsz, _⟩ := h3 i c (by rw [List.getElem?_eq_getElem hi, hci])
      obtain ⟨u, rfl⟩ : ∃ u, c = #[u] := by
        obtain ⟨q⟩ := c
        match q, hsz with
        | [u], _ => exact ⟨u, rfl⟩
      obtain ⟨b, b1, b2⟩ := open_blen (v := u) (by simpa using hy) (slice_mem Tryd.underlying27 hw hm)
      exact ⟨b, fun _ => ⟨u, rfl, b1, b2⟩⟩
    · exact ⟨[], fun h => absurd h hc⟩
  obtain ⟨f, hf⟩ := Classical.axiomOfChoice each
  refine ⟨l.map f, ⟨oa, cap, by rw [List.length_map], by rw [List.length_map]; exact h1, h2, fun i hi => ?_⟩, fun y hy => ?_⟩
  · rw [List.length_map] at hi
    obtain ⟨u, e1, e2, e3⟩ := hf l[i] (List.getElem_mem hi)
    obtain ⟨g, o, q1, q2, q3, q4⟩ := h3 i l[i] (List.getElem?_eq_getElem hi)
    refine ⟨g, o, u, q1, ?_, by rw [List.getElem_map]; exact e2⟩
    have := q4 0 u (by rw [e1]; rfl)
    simpa using this
  · obtain ⟨c, hc, rfl⟩ := List.mem_map.1 hy
    obtain ⟨_, _, _, e3⟩ := hf c hc
    exact e3
set_option maxRecDepth 100000 in
theorem open_step {c : Array Value} (hc : c.size = 2) (h : DataW.trod enc Tryd.prog W base sp held fuel 32 c.toList = some x) (hw : (DataW.weights Tryd.prog 32 x.1).all (· ≤ reachBytes) = true) : ∃ (b : Bool) (u : Value) (ls : List (List Nat)), c = #[.bool b, u] ∧ Lr W u ls ∧ ∀ y ∈ ls, y.length ≤ LIM := by
  obtain ⟨xs, n, rfl, hx, hlen, hxl, hfe⟩ := DataW.trod_struct Tryd.underlying32 h
  have hxl2 : xs.length = 2 := hxl
  have g0 := hfe 0 _ rfl
  have g1 := hfe 1 _ rfl
  rw [List.getElem?_eq_getElem (by omega)] at g0 g1
  obtain ⟨v0, v1, rfl⟩ : ∃ v0 v1, c = #[v0, v1] := by
    obtain ⟨l⟩ := c
    match l, hc with
    | [v0, v1], _ => exact ⟨v0, v1, rfl⟩
  have g0 : DataW.trod enc Tryd.prog W base sp held n 4 (([v0, v1].drop 0).take (Tryd.prog.cellsOf 4)) = some xs[0] := g0
  have g1 : DataW.trod enc Tryd.prog W base sp held n 27 (([v0, v1].drop 1).take (Tryd.prog.cellsOf 27)) = some xs[1] := g1
  rw [cellsBool] at g0
  rw [cellsL] at g1
  obtain ⟨x0, x1, rfl⟩ : ∃ x0 x1, xs = [x0, x1] := by
    match xs, hxl2 with
    | [x0, x1], _ => exact ⟨x0, x1, rfl⟩
  obtain ⟨b, e0, -⟩ := DataW.trod_bool Tryd.underlying4 g0
  have e0 : v0 = .bool b := by simpa using e0
  subst e0
  have hw1 : (DataW.weights Tryd.prog 27 x1.1).all (· ≤ reachBytes) = true := by
    rw [hx] at hw
    simp only [DataW.weights, Tryd.underlying32] at hw
    have hw : (DataW.weightsEach Tryd.prog [4, 27] [x0.1, x1.1]).all (· ≤ reachBytes) = true := hw
    simp only [DataW.weightsEach, List.all_append, Bool.and_eq_true] at hw
    exact hw.2.1
  obtain ⟨ls, l1, l2⟩ := open_lists (v := v1) (by simpa using g1) hw1
  exact ⟨b, v1, ls, rfl, l1, l2⟩
theorem open_steps (h : DataW.trod enc Tryd.prog W base sp held fuel 33 [v] = some x) (hw : (DataW.weights Tryd.prog 33 x.1).all (· ≤ reachBytes) = true) : ∃ ss, Ss W v ss := by
  obtain ⟨l, ⟨oa, cap, rfl, h1, h2, h3⟩, -, h4⟩ := open_rows (by decide) Tryd.underlying33 cellsSt h
  have each : ∀ c, ∃ s : Bool × List (List Nat), c ∈ l → ∃ u, c = #[.bool s.1, u] ∧ Lr W u s.2 ∧ ∀ y ∈ s.2, y.length ≤ LIM := fun c => by
    by_cases hc : c ∈ l
    · obtain ⟨m, y, -, hy, hm⟩ := h4 c hc
      obtain ⟨i, hi, hci⟩ := List.getElem_of_mem hc
      obtain ⟨_, _, _, _, hsz, _⟩ := h3 i c (by rw [List.getElem?_eq_getElem hi, hci])
      obtain ⟨b, u, ls, e, e1, e2⟩ := open_step hsz hy (slice_mem Tryd.underlying33 hw hm)
      exact ⟨(b, ls), fun _ => ⟨u, e, e1, e2⟩⟩
    · exact ⟨(false, []), fun h => absurd h hc⟩
  obtain ⟨f, hf⟩ := Classical.axiomOfChoice each
  refine ⟨l.map f, oa, cap, by rw [List.length_map], by rw [List.length_map]; exact h1, h2, fun i hi => ?_⟩
  rw [List.length_map] at hi
  obtain ⟨u, e1, e2, e3⟩ := hf l[i] (List.getElem_mem hi)
  obtain ⟨g, o, q1, q2, q3, q4⟩ := h3 i l[i] (List.getElem?_eq_getElem hi)
  have hl : l[i].toList = [.bool (f l[i]).1, u] := congrArg Array.toList e1
  have a0 := q4 0 (.bool (f l[i]).1) (by rw [hl]; rfl)
  have a1 := q4 1 u (by rw [hl]; rfl)
  rw [List.getElem_map]
  exact ⟨g, o, u, q1, by simpa using a0, a1, e2, e3⟩
end
theorem all_left {H : Type} {t : TypeId} {ts : List TypeId} {d : DataW H} {ds : List (DataW H)} (h : (DataW.weightsEach Tryd.prog (t :: ts) (d :: ds)).all (· ≤ reachBytes) = true) : (DataW.weights Tryd.prog t d).all (· ≤ reachBytes) = true := by
  rw [DataW.weightsEach, List.all_append, Bool.and_eq_true] at h
  exact h.1
end Go.Proofs.YtfimaflglnemdaaDoor.DJ
