/- GraphReaches: the row. -/
import Derived.Test.YtgedmfcfhdfoeaaGrE
import Derived.SizedLaws
import Derived.ChangeSlices
import Derived.SliceStrings
import Derived.OpenShut
import Derived.Carry
import Derived.JoinedCond
import Derived.Deep.Slices
import Derived.Deep.DeepHandedRow
namespace Go.Proofs.Ytgedmfcfhdfoeaa.Lst
open Go.ChangeShapes Go.WideShapes Go.ChangeAt Go.RowKit
theorem own : ownKnob Try.prog.godebug = none := by kernel_rfl
theorem laidOut : laidOutB Try.prog = true := by kernel_rfl
theorem cells3 : Try.prog.cellsOf 3 = 1 := by kernel_rfl
theorem cells22 : Try.prog.cellsOf 22 = 1 := by kernel_rfl
theorem cells24 : Try.prog.cellsOf 24 = 2 := by kernel_rfl
theorem cells53 : Try.prog.cellsOf 52 = 2 := by kernel_rfl
theorem cts24 : Try.prog.cellTypes Try.prog.depth 24 = some [3, 22] := by kernel_rfl
theorem one_le {H : Type} (d : DataW H) : 1 ≤ Rows.uptoBulk d := by
  cases d with
  | lit l => cases l <;> simp [Rows.uptoBulk]
  | _ => simp [Rows.uptoBulk]
theorem length_le {H : Type} : ∀ l : List (DataW H), l.length ≤ Rows.uptoBulkAll l
  | [] => by simp [Rows.uptoBulkAll]
  | x :: r => by have h1 := one_le x; have h2 := length_le r; simp only [Rows.uptoBulkAll, List.length_cons]; omega
theorem part_le {H : Type} {d : DataW H} : ∀ {l : List (DataW H)}, d ∈ l → Rows.uptoBulk d ≤ Rows.uptoBulkAll l
  | x :: r, h => by
    simp only [Rows.uptoBulkAll]
    rcases List.mem_cons.1 h with e | e
    · subst e; omega
    · have := part_le e; omega
set_option maxRecDepth 100000 in
/-- An edge, opened. -/
theorem open_edge {H : Type} {enc : TypeId × Value → H} {W : World} {base fuel : Nat} {sp : Nat → Bool} {held : Bool} {cs : List Value} {x : DataW H × List MemPlace} (h : DataW.trod enc Try.prog W base sp held fuel 52 cs = some x) : ∃ a b : Int, cs = [.int .i64 a, .int .i64 b] := by
  obtain ⟨xs, m, rfl, rfl, hlen, hxl, hel⟩ := DataW.trod_array Try.underlying52 h
  have h0 := hel 0 (by omega)
  have h1 := hel 1 (by omega)
  rw [cells3, List.getElem?_eq_getElem (by omega)] at h0 h1
  rw [cells53] at hlen
  obtain ⟨a, a1, -, -⟩ := DataW.trod_int Try.underlying3 h0
  obtain ⟨b, b1, -, -⟩ := DataW.trod_int Try.underlying3 h1
  match cs, hlen with
  | [c0, c1], _ =>
    simp at a1 b1
    exact ⟨a, b, by rw [a1, b1]⟩
set_option maxRecDepth 100000 in
theorem open_el {H : Type} {enc : TypeId × Value → H} {W : World} {base fuel : Nat} {v : Value} {x : DataW H × List MemPlace} (hv : Value.okWide Try.prog W .any base 22 v) (hf : DataW.trod enc Try.prog W 0 (fun _ => true) true fuel 22 [v] = some x) :
    ∃ E : List (Int × Int), El v E W ∧ E.length ≤ Rows.uptoBulk x.1 := by
  obtain ⟨a0, len, cap, rfl⟩ := okWide_slice Try.underlying22 hv
  rcases DataW.trod_slice Try.underlying22 hf with ⟨hcs, hx⟩ | ⟨a, len', cap', elems, rest, n, -, hcs, hx, -, hlc, hcm, hel, hat, -, -⟩
  · simp at hcs
    obtain ⟨rfl, rfl, rfl⟩ := hcs
    exact ⟨[], .inl ⟨rfl, rfl⟩, by simp⟩
  · simp at hcs
    obtain ⟨rfl, rfl, rfl⟩ := hcs
    simp only [Value.okWide, Try.underlying22, Cell.okWide, Cell.ok] at hv
    obtain ⟨_, _, _, hspot, row, cells', hsh, _⟩ := hv
    have hblk : a.block < W.heap.size := by
      rcases Nat.lt_or_ge a.block W.heap.size with h | h
      · exact h
      · simp [World.shape?, Array.getElem?_eq_none h] at hsh
    obtain ⟨b, off, spot⟩ := a
    simp only at hspot hblk
    subst hspot
    have each : ∀ i, i < len → ∃ e : Int × Int, W.cell? ⟨b, off + i * 2, none⟩ = some (.int .i64 e.1) ∧ W.cell? ⟨b, off + i * 2 + 1, none⟩ = some (.int .i64 e.2) := by
      intro i hi
      have h1 := hat i hi
      rw [List.getElem?_eq_getElem (by omega), cells53] at h1
      obtain ⟨cs, hc, ht⟩ := Option.bind_eq_some_iff.1 h1
      obtain ⟨p, q, rfl⟩ := open_edge ht
      have h2 := World.cells?_some hc
      have h3 := h2.2.2 0 (by omega)
      have h4 := h2.2.2 1 (by omega)
      rw [Go.WideShapes.add_plain, Go.WideShapes.add_plain] at h3 h4
      exact ⟨(p, q), h3, h4⟩
    have pick : ∃ f : Nat → Int × Int, ∀ i, i < len → W.cell? ⟨b, off + i * 2, none⟩ = some (.int .i64 (f i).1) ∧ W.cell? ⟨b, off + i * 2 + 1, none⟩ = some (.int .i64 (f i).2) := by
      refine ⟨fun i => if h : i < len then (each i h).choose else (0, 0), fun i hi => ?_⟩
      simp only [dif_pos hi]
      exact (each i hi).choose_spec
    obtain ⟨f, hf'⟩ := pick
    have hll : ((List.range len).map f).length = len := by simp
    refine ⟨(List.range len).map f, .inr ⟨b, off, cap, by rw [hll], by omega, hcm, hblk, fun j hj => ?_⟩, ?_⟩
    · rw [hll] at hj
      have e : ((List.range len).map f).getD j (0, 0) = f j := by simp [List.getD, hj]
      rw [e]
      exact hf' j hj
    · rw [hll, hx]
      have h4 := length_le (elems.map (·.1))
      rw [List.length_map, hel] at h4
      simp only [Rows.uptoBulk]
      omega
set_option maxRecDepth 100000 in
theorem open_graph {H : Type} {enc : TypeId × Value → H} {W : World} {base : Nat} {v : Value} {D : DataW H} {p : List MemPlace} (hv : Value.okWide Try.prog W .any base 24 v) (h : DataW.Trod enc Try.prog W 0 (fun _ => true) true 24 v D p) :
    ∃ (N : Int) (s : Value) (E : List (Int × Int)), v = grV N s ∧ El s E W ∧ E.length ≤ Rows.uptoBulk D := by
  obtain ⟨fuel, h⟩ := h
  obtain ⟨cs, rfl, hcs, ts, ht1, -, ht3⟩ : ∃ cs, v = .agg cs ∧ cs.size = Try.prog.cellsOf 24 ∧ Row.okWide Try.prog W .any base 24 cs := by
    unfold Value.okWide at hv
    rw [Try.underlying24] at hv
    exact hv
  obtain ⟨y0, y1, n, hx, hl, h0, h1⟩ := trod_struct2 Try.underlying24 h
  simp only [Value.cells] at h0 h1 hl
  rw [cells3] at h0
  rw [cells22] at h1
  rw [cells24] at hcs
  obtain ⟨N, k1, -, -⟩ := DataW.trod_int Try.underlying3 h0
  obtain ⟨v0, v1, hc⟩ : ∃ v0 v1, cs = #[v0, v1] := by
    obtain ⟨l⟩ := cs
    match l, hcs with
    | [v0, v1], _ => exact ⟨v0, v1, rfl⟩
  subst hc
  obtain ⟨u, hu1, hu2⟩ := ht3 1 v1 rfl
  have hts : ts = [3, 22] := Option.some.inj (ht1.symm.trans cts24)
  rw [hts] at hu1
  obtain rfl : 22 = u := Option.some.inj hu1
  have hok : Value.okWide Try.prog W .any base 22 v1 := by
    unfold Value.okWide
    rw [Try.underlying22]
    exact hu2
  simp at h1 k1
  obtain ⟨E, hE, hb⟩ := open_el hok h1
  simp only [Prod.mk.injEq] at hx
  refine ⟨N, v1, E, by rw [k1]; rfl, hE, ?_⟩
  have h4 := part_le (l := [y0.1, y1.1]) (d := y1.1) (by simp)
  rw [hx.1]
  simp only [Rows.uptoBulk]
  omega
theorem at_le {H : Type} : ∀ (l : List (DataW H)), l.length ≤ Rows.uptoBulkAll l := length_le
set_option maxRecDepth 100000 in
/-- Whole numbers, opened. -/
theorem open_ia {H : Type} {enc : TypeId × Value → H} {W : World} {base : Nat} {v : Value} {D : DataW H} {p : List MemPlace} (hv : Value.okWide Try.prog W .any base 32 v) (h : DataW.Trod enc Try.prog W 0 (fun _ => true) true 32 v D p) :
    ∃ (R : List Int) (g : Nat), Ia g v R W ∧ R.length ≤ Rows.uptoBulk D ∧ (v = .slice none 0 0 ∨ ∃ a m c, v = .slice (some a) m c) ∧ ∀ a m c, v = .slice (some a) m c → m ≤ c := by
  obtain ⟨a0, len, cap, rfl⟩ := okWide_slice Try.underlying32 hv
  obtain ⟨fuel, hf⟩ := h
  have hb := hf
  rcases open_ints Try.underlying32 Try.underlying3 cells3 hf with ⟨hcs, hx⟩ | ⟨a, len', cap', zs, hcs, _, hl, hm, hz, hx, hcell, hwz⟩
  · simp [Value.cells] at hcs
    obtain ⟨rfl, rfl, rfl⟩ := hcs
    exact ⟨[], 0, ⟨none, 0, rfl, fun h => absurd h (by simp)⟩, by simp, .inl rfl, fun a m c h => by cases h⟩
  · simp [Value.cells] at hcs
    obtain ⟨rfl, rfl, rfl⟩ := hcs
    simp only [Value.okWide, Try.underlying32, Cell.okWide, Cell.ok] at hv
    obtain ⟨_, _, _, hspot, row, cells, hsh, _⟩ := hv
    have hblk : a.block < W.heap.size := by
      rcases Nat.lt_or_ge a.block W.heap.size with h | h
      · exact h
      · simp [World.shape?, Array.getElem?_eq_none h] at hsh
    obtain ⟨b, off, spot⟩ := a
    simp only at hspot hblk
    subst hspot
    simp only [if_true] at hz
    have hll : (zs.take len).length = len := by rw [List.length_take]; omega
    refine ⟨zs.take len, b, ⟨some ⟨b, off, none⟩, cap, by rw [hll], fun _ => ⟨off, rfl, hblk, fun j hj => ?_⟩⟩, ?_, .inr ⟨_, _, _, rfl⟩, fun a m c h => by injection h with h1 h2 h3; omega⟩
    · rw [hll] at hj
      have h1 := hcell j (by omega)
      rw [Go.WideShapes.add_plain] at h1
      rw [h1]
      have h3 : (zs.take len).getD j 0 = zs.getD j 0 := by simp [List.getD, hj]
      rw [h3]
    · obtain ⟨hD, -⟩ := Prod.mk.inj hx
      rw [hD]
      have h4 := length_le (lits (H := H) IntKind.i64 (zs.take len))
      rw [show (lits (H := H) IntKind.i64 (zs.take len)).length = (zs.take len).length by simp [lits]] at h4
      simp only [Rows.uptoBulk]
      omega
set_option maxRecDepth 100000 in
theorem contract (H : Type) (enc : TypeId × Value → H) (W : World) (base : Nat) (args : Array Value) (ds gs : List (DataW H)) (before : List MemPlace)
    (hval0 : ∀ (j : Nat) t v, (Try.f4).params[j]? = some t → args[j]? = some v → Value.okWide Try.prog W .any base t v)
    (hW : DataW.Whole enc Try.prog (Try.f4).params.toList Rows.graphReachesSpec.vars false W args.toList ds gs before)
    (hk : Rows.uptoSmall H (ds ++ gs) = true) :
    Calls Try.prog 4 args W fun e W' => ∃ v, e = .returned v ∧ Rows.graphReachesSpec.post enc Try.prog Try.f4 false true false false W args v W' := by
  have hval := hval0
  have hW' := hW
  obtain ⟨p, q, hA0, hV, rfl, hfz, hnd⟩ := hW
  have hA : DataW.TrodAll enc Try.prog W 0 (fun _ => true) true (Try.f4).params.toList args.toList ds p := hA0
  rw [Try.params4] at hA hval
  obtain ⟨v0, v1, v2, v3, d0, d1, d2, d3, p0, p1, p2, p3, rfl, rfl, rfl, h0, h1, h2, h3⟩ := trodAll_four hA
  obtain ⟨rfl, rfl⟩ := trodVars_none hV
  obtain ⟨N, s, E, rfl, hE, hb⟩ := open_graph (hval 0 24 v0 rfl rfl) h0
  obtain ⟨R, g, hR, hb2, hf, hcl⟩ := open_ia (hval 1 32 v1 rfl rfl) h1
  obtain ⟨a, rfl, rfl, rfl, ha⟩ := open_int Try.underlying3 (hval 2 3 v2 rfl rfl) h2
  obtain ⟨b, rfl, rfl, rfl, hb3⟩ := open_int Try.underlying3 (hval 3 3 v3 rfl rfl) h3
  clear hA0 hval0
  simp only [List.append_nil] at hW' hk
  have hbk : Rows.uptoBulkAll _ ≤ 1048576 := of_decide_eq_true hk
  have k0 := Nat.le_trans (part_le (d := d0) (by simp)) hbk
  have k1 := Nat.le_trans (part_le (d := d1) (by simp)) hbk
  have hlt0 : ∀ x ∈ p0, x.block < W.heap.size := fun x hx => by simpa using hW'.lt x (by simp [hx])
  have hlt1 : ∀ x ∈ p1, x.block < W.heap.size := fun x hx => by simpa using hW'.lt x (by simp [hx])
  refine (reachesL_any N E (by omega) s W hE R v1 hR (by omega) hf hcl a b).mono fun e W' ⟨he, hbl⟩ => ?_
  subst he
  have harg0 := Below.trod laidOut (by kernel_rfl) (of_decide_eq_true (by kernel_rfl)) h0 hbl hlt0
  have harg1 := Below.trod laidOut (by kernel_rfl) (of_decide_eq_true (by kernel_rfl)) h1 hbl hlt1
  exact ⟨_, rfl, _, _, _, [], _, [], hW', trodAll_mk1 (shut_bool Try.underlying4 _), trodAll_mk4 harg0 harg1 (shut_int Try.underlying3 ha) (shut_int Try.underlying3 hb3), rfl, hbl.frame _, fun h => by cases h⟩
set_option maxRecDepth 100000 in
theorem lifted (os : Os) (started : os.Started) (H : Type) (enc : TypeId × Value → H) (F : Stop.Interp) :
    ReturnsInHanded {} Try.checked os 4 .any ((Rows.OpenSpec.upto Rows.graphReachesSpec).pre6 enc Try.prog Try.f4 Rows.graphReachesUptoRow.domain false) (((Rows.OpenSpec.upto Rows.graphReachesSpec).at F).post enc Try.prog Try.f4 false true false false) := by
  refine returnsInHanded_of_cond (C := Try.checked) (s := Rows.OpenSpec.upto Rows.graphReachesSpec) (k := Rows.uptoSmall) rfl own started (by kernel_rfl) Try.func4
    (OpenSpec.witness (enc := enc) (C := Try.checked) (s := Rows.OpenSpec.upto Rows.graphReachesSpec) (k := Rows.uptoSmall) rfl false ⟨#[], #[.agg #[.int .i64 0, .slice none 0 0], .slice none 0 0, .int .i64 0, .int .i64 0], []⟩ 8 (by kernel_rfl) (by kernel_rfl) (by kernel_rfl)
      (x := ([.agg [.lit (.int .i64 0), .nil], .nil, .lit (.int .i64 0), .lit (.int .i64 0)], [], [])) (by kernel_rfl) rfl (by kernel_rfl)) ?_
  intro W base args ds gs before hval hW _ hk _
  exact contract H enc W base args ds gs before hval hW hk
theorem said : Rows.GraphReachesUptoSaid :=
  OpenClaim.holds_of_cond 4 Try.f4 rfl rfl rfl rfl rfl rfl rfl ⟨rfl, rfl, rfl, rfl, rfl⟩ rfl rfl rfl rfl rfl (by kernel_rfl) Try.func4 (by kernel_rfl)
    (of_decide_eq_true (by kernel_rfl)) (by unfold Func.isWrapper; first | (rw [if_pos (by decide +kernel)]; kernel_rfl) | (rw [if_neg (by decide +kernel)]; exact ⟨rfl, rfl⟩))
    (fun os started H enc _ F => lifted os started H enc F)
end Go.Proofs.Ytgedmfcfhdfoeaa.Lst
namespace Go.Proofs.Ytgedmfcfhdfoeaa
theorem graphReachesUpto_holds : Rows.GraphReachesUptoSaid := Lst.said
#print axioms graphReachesUpto_holds
end Go.Proofs.Ytgedmfcfhdfoeaa
