/- RecipePuts: the row, second form. -/
import Derived.Test.YtcggaiplepekdaaRcL
import Derived.Test.YtcggaiplepekdaaRows
import Derived.SizedLaws
import Derived.ChangeSlices
import Derived.SliceStrings
import Derived.OpenShut
import Derived.Carry
import Derived.JoinedCond
import Derived.Deep.Slices
import Derived.ProofKit
namespace Go.Proofs.Ytcggaiplepekdaa.Puts
open Go.ChangeShapes Go.WideShapes Go.ChangeAt Go.RowKit
theorem own : ownKnob Try.prog.godebug = none := by kernel_rfl
theorem laidOut : laidOutB Try.prog = true := by kernel_rfl
theorem cells9 : Try.prog.cellsOf 9 = 1 := by kernel_rfl
theorem cellsO : Try.prog.cellsOf 39 = 4 := by kernel_rfl
theorem cellsI : Try.prog.cellsOf 42 = 2 := by kernel_rfl
theorem cellsP : Try.prog.cellsOf 44 = 2 := by kernel_rfl
theorem cellsR : Try.prog.cellsOf 27 = 7 := by kernel_rfl
theorem cellsT : Try.prog.cellsOf 24 = 1 := by kernel_rfl
theorem cellsOs : Try.prog.cellsOf 22 = 1 := by kernel_rfl
theorem cellsIs : Try.prog.cellsOf 23 = 1 := by kernel_rfl
theorem cellsPs : Try.prog.cellsOf 25 = 1 := by kernel_rfl
theorem one_le {H : Type} (d : DataW H) : 1 ≤ Rows.uptoBulk d := by
  cases d with
  | lit l => cases l <;> simp [Rows.uptoBulk]
  | _ => simp [Rows.uptoBulk]
theorem length_le {H : Type} : ∀ l : List (DataW H), l.length ≤ Rows.uptoBulkAll l
  | [] => by simp [Rows.uptoBulkAll]
  | x :: r => by have h1 := one_le x; have h2 := length_le r; simp only [Rows.uptoBulkAll, List.length_cons]; omega
theorem part_le {H : Type} {d : DataW H} : ∀ {l : List (DataW H)}, d ∈ l → Rows.uptoBulk d ≤ Rows.uptoBulkAll l
  | x :: r, h => by
    simp only [Rows.uptoBulkAll]
    rcases List.mem_cons.1 h with rfl | h
    · omega
    · have := part_le h; omega
theorem bulk_part {H : Type} {xs : List (DataW H × List MemPlace)} {i : Nat} {y : DataW H × List MemPlace} (h : xs[i]? = some y) : Rows.uptoBulk y.1 ≤ Rows.uptoBulk (.agg (xs.map (·.1)) : DataW H) := by
  have := part_le (List.mem_map_of_mem (f := (·.1)) (List.mem_of_getElem? h))
  simp only [Rows.uptoBulk]
  omega
/-- A slice of rows as it lies, in blocks below B. -/
def Ro (B : Nat) (W : World) (sz : Nat) (v : Value) (l : List (Array Value)) : Prop :=
  ∃ oa cap, v = .slice oa l.length cap ∧ (oa = none → cap = 0) ∧ l.length ≤ cap ∧ cap ≤ maxLen ∧ ∀ (i : Nat) c, l[i]? = some c → ∃ g o, oa = some ⟨g, o, none⟩ ∧ g < B ∧ c.size = sz ∧ W.rangeAt g (o + i * sz) c.toList
section
variable {H : Type} {enc : TypeId × Value → H} {P : Program} {W : World} {base fuel : Nat} {sp : Nat → Bool} {held : Bool} {t e : TypeId} {x : DataW H × List MemPlace}
/-- A slice of rows, opened. -/
theorem open_rows {sz : Nat} (hsz : 0 < sz) (ht : P.underlying t = some (.slice e)) (hce : P.cellsOf e = sz) {v : Value} (h : DataW.trod enc P W base sp held fuel t [v] = some x) :
    ∃ l : List (Array Value), Ro W.heap.size W sz v l ∧ l.length ≤ Rows.uptoBulk x.1 ∧ ∀ a ∈ l, ∃ m y, m < fuel ∧ DataW.trod enc P W base sp held m e a.toList = some y ∧ Rows.uptoBulk y.1 ≤ Rows.uptoBulk x.1 := by
  rcases DataW.trod_slice ht h with ⟨hcs, hx⟩ | ⟨a, len, cap, elems, rest, n, hfu, hcs, hx, -, hlc, hcm, hel, hat, -, -⟩
  · obtain rfl : v = .slice none 0 0 := by simpa using hcs
    exact ⟨[], ⟨none, 0, rfl, fun _ => rfl, Nat.le_refl _, Nat.zero_le _, fun i c h => by simp at h⟩, Nat.zero_le _, fun a h => by cases h⟩
  · obtain rfl : v = .slice (some a) len cap := by simpa using hcs
    rw [hce] at hat
    have each : ∀ i, ∃ c : List Value, i < len → (W.cells? base (a.add (i * sz)) sz = some c ∧ ∃ y, DataW.trod enc P W base sp held n e c = some y ∧ Rows.uptoBulk y.1 ≤ Rows.uptoBulk x.1) := fun i => by
      by_cases hi : i < len
      · have h1 := hat i hi
        rw [List.getElem?_eq_getElem (by omega)] at h1
        obtain ⟨c, hc, h2⟩ := Option.bind_eq_some_iff.1 h1
        refine ⟨c, fun _ => ⟨hc, _, h2, ?_⟩⟩
        have hp := part_le (l := elems.map (·.1)) (d := elems[i].1) (List.mem_map_of_mem (List.getElem_mem (by omega)))
        rw [hx]
        simp only [Rows.uptoBulk]
        omega
      · exact ⟨[], fun h => absurd h hi⟩
    obtain ⟨f, hf⟩ := Classical.axiomOfChoice each
    have hln : ((List.range len).map fun i => (f i).toArray).length = len := by simp
    refine ⟨(List.range len).map fun i => (f i).toArray, ⟨some a, cap, by rw [hln], (fun q => by cases q), by rw [hln]; exact hlc, hcm, fun i c hc => ?_⟩, ?_, fun c hc => ?_⟩
    · have hi : i < len := by have := (List.getElem?_eq_some_iff.1 hc).1; rwa [hln] at this
      obtain rfl : (f i).toArray = c := by simpa [hi] using hc
      obtain ⟨h1, -⟩ := hf i hi
      obtain ⟨-, h2, h3⟩ := World.cells?_some h1
      obtain ⟨b, off, spot⟩ := a
      have h30 := h3 0 hsz
      rw [List.getElem?_eq_getElem (by omega)] at h30
      have hspot : spot = none := by
        obtain ⟨-, k2, k3⟩ := World.cells?_some (hf 0 (by omega)).1
        have k30 := k3 0 hsz
        rw [List.getElem?_eq_getElem (by omega)] at k30
        simpa [Addr.add] using World.cell?_spot k30
      subst hspot
      refine ⟨b, off, rfl, ?_, by simpa using h2, fun j u hu => ?_⟩
      · exact World.block_lt_of_cell? W ⟨b, off + i * sz + 0, none⟩ (by rw [Go.WideShapes.add_plain, Go.WideShapes.add_plain] at h30; exact h30)
      · have hj : j < sz := by have := (List.getElem?_eq_some_iff.1 hu).1; simpa [h2] using this
        have := h3 j hj
        rw [Go.WideShapes.add_plain, Go.WideShapes.add_plain] at this
        rw [this]
        simpa using hu
    · rw [hln, hx]
      have h4 := length_le (elems.map (·.1))
      rw [List.length_map, hel] at h4
      simp only [Rows.uptoBulk]
      omega
    · obtain ⟨i, hi, rfl⟩ := List.mem_map.1 hc
      obtain ⟨-, y, hy, hyb⟩ := hf i (List.mem_range.1 hi)
      exact ⟨n, y, by omega, by simpa using hy, hyb⟩
end
theorem maps_of {A : Type} (f : A → Array Value) (P : A → Prop) : ∀ rows : List (Array Value), (∀ a ∈ rows, ∃ x, a = f x ∧ P x) → ∃ l : List A, rows = l.map f ∧ ∀ x ∈ l, P x
  | [], _ => ⟨[], rfl, fun x h => by cases h⟩
  | a :: r, h => by
    obtain ⟨x, rfl, hx⟩ := h a List.mem_cons_self
    obtain ⟨l, rfl, hl⟩ := maps_of f P r (fun b hb => h b (List.mem_cons_of_mem _ hb))
    refine ⟨x :: l, rfl, fun z hz => ?_⟩
    rcases List.mem_cons.1 hz with q | q
    · subst q; exact hx
    · exact hl z q
theorem ls_of {W : World} {v : Value} {sz : Nat} {l : List (Array Value)} (h : Ro W.heap.size W sz v l) (hr : Rs sz l) : Ls W v sz l := by
  obtain ⟨oa, cap, h1, h2, h3, h4, h5⟩ := h
  exact ⟨oa, cap, h1, h2, h3, h4, hr, fun i c hc => by
    obtain ⟨g, o, e1, e2, -, e4⟩ := h5 i c hc
    exact ⟨g, o, e1, e2, e4⟩⟩
section
variable {H : Type} {enc : TypeId × Value → H} {W : World} {base fuel : Nat} {sp : Nat → Bool} {held : Bool} {x : DataW H × List MemPlace}
set_option maxRecDepth 100000 in
theorem open_str {cs : List Value} (h : DataW.trod enc Try.prog W base sp held fuel 9 cs = some x) : ∃ s : S, cs = [.string s] ∧ s.size ≤ Rows.uptoBulk x.1 := by
  obtain ⟨s, e1, e2, -⟩ := DataW.trod_string Try.underlying9 h
  refine ⟨s, e1, ?_⟩
  rw [e2]
  simp only [Rows.uptoBulk, Array.length_toList]
  show s.data.size ≤ _
  omega
set_option maxRecDepth 100000 in
theorem open_texts {v : Value} (h : DataW.trod enc Try.prog W base sp held fuel 24 [v] = some x) : ∃ l : List S, Ls W v 1 (l.map sR) ∧ l.length ≤ Rows.uptoBulk x.1 ∧ ∀ s ∈ l, s.size ≤ Rows.uptoBulk x.1 := by
  obtain ⟨rows, hr, hb, he⟩ := open_rows (by decide) Try.underlying24 cells9 h
  obtain ⟨l, rfl, hl⟩ := maps_of sR (fun s => s.size ≤ Rows.uptoBulk x.1) rows (fun a ha => by
    obtain ⟨m, y, -, hy, hyb⟩ := he a ha
    obtain ⟨s, e1, e2⟩ := open_str hy
    exact ⟨s, Array.toList_inj.1 e1, by omega⟩)
  exact ⟨l, ls_of hr (rs_s l), by simpa using hb, hl⟩
set_option maxRecDepth 100000 in
theorem open_outs {v : Value} (h : DataW.trod enc Try.prog W base sp held fuel 22 [v] = some x) : ∃ l : List Out, Ls W v 4 (l.map oR) ∧ l.length ≤ Rows.uptoBulk x.1 ∧ ∀ s ∈ l, s.1.size ≤ Rows.uptoBulk x.1 ∧ s.2.2.2.size ≤ Rows.uptoBulk x.1 := by
  obtain ⟨rows, hr, hb, he⟩ := open_rows (by decide) Try.underlying22 cellsO h
  obtain ⟨l, rfl, hl⟩ := maps_of oR (fun s => s.1.size ≤ Rows.uptoBulk x.1 ∧ s.2.2.2.size ≤ Rows.uptoBulk x.1) rows (fun a ha => by
    obtain ⟨m, y, -, hy, hyb⟩ := he a ha
    obtain ⟨xs, n, rfl, hx, hlen, hxl, hfe⟩ := DataW.trod_struct Try.underlying39 hy
    rw [cellsO] at hlen
    have hxl4 : xs.length = 4 := hxl
    have h0 := hfe 0 _ rfl
    have h1 := hfe 1 _ rfl
    have h2 := hfe 2 _ rfl
    have h3 := hfe 3 _ rfl
    rw [List.getElem?_eq_getElem (by omega)] at h0 h1 h2 h3
    obtain ⟨cs⟩ := a
    match cs, hlen with
    | [c0, c1, c2, c3], _ =>
      have h0 : DataW.trod enc Try.prog W base sp held n 9 (([c0, c1, c2, c3].drop 0).take (Try.prog.cellsOf 9)) = some xs[0] := h0
      have h1 : DataW.trod enc Try.prog W base sp held n 9 (([c0, c1, c2, c3].drop 1).take (Try.prog.cellsOf 9)) = some xs[1] := h1
      have h2 : DataW.trod enc Try.prog W base sp held n 9 (([c0, c1, c2, c3].drop 2).take (Try.prog.cellsOf 9)) = some xs[2] := h2
      have h3 : DataW.trod enc Try.prog W base sp held n 9 (([c0, c1, c2, c3].drop 3).take (Try.prog.cellsOf 9)) = some xs[3] := h3
      rw [cells9] at h0 h1 h2 h3
      obtain ⟨s0, e0, b0⟩ := open_str h0
      obtain ⟨s1, e1, -⟩ := open_str h1
      obtain ⟨s2, e2, -⟩ := open_str h2
      obtain ⟨s3, e3, b3⟩ := open_str h3
      have w0 : c0 = _ := (List.cons.inj e0).1
      have w1 : c1 = _ := (List.cons.inj e1).1
      have w2 : c2 = _ := (List.cons.inj e2).1
      have w3 : c3 = _ := (List.cons.inj e3).1
      have k0 := bulk_part (xs := xs) (i := 0) (y := xs[0]) (List.getElem?_eq_getElem (by omega))
      have k3 := bulk_part (xs := xs) (i := 3) (y := xs[3]) (List.getElem?_eq_getElem (by omega))
      have hy1 : y.1 = .agg (xs.map (·.1)) := by rw [hx]
      rw [hy1] at hyb
      exact ⟨(s0, s1, s2, s3), by rw [w0, w1, w2, w3]; rfl, by show s0.size ≤ _; omega, by show s3.size ≤ _; omega⟩)
  exact ⟨l, ls_of hr (rs_o l), by simpa using hb, hl⟩
set_option maxRecDepth 100000 in
theorem open_pairs {v : Value} (h : DataW.trod enc Try.prog W base sp held fuel 25 [v] = some x) : ∃ l : List Pai, Ls W v 2 (l.map eR) ∧ l.length ≤ Rows.uptoBulk x.1 ∧ ∀ s ∈ l, s.1.size ≤ Rows.uptoBulk x.1 ∧ s.2.size ≤ Rows.uptoBulk x.1 := by
  obtain ⟨rows, hr, hb, he⟩ := open_rows (by decide) Try.underlying25 cellsP h
  obtain ⟨l, rfl, hl⟩ := maps_of eR (fun s => s.1.size ≤ Rows.uptoBulk x.1 ∧ s.2.size ≤ Rows.uptoBulk x.1) rows (fun a ha => by
    obtain ⟨m, y, -, hy, hyb⟩ := he a ha
    obtain ⟨xs, n, rfl, hx, hlen, hxl, hfe⟩ := DataW.trod_struct Try.underlying44 hy
    rw [cellsP] at hlen
    have hxl4 : xs.length = 2 := hxl
    have h0 := hfe 0 _ rfl
    have h1 := hfe 1 _ rfl
    rw [List.getElem?_eq_getElem (by omega)] at h0 h1
    obtain ⟨cs⟩ := a
    match cs, hlen with
    | [c0, c1], _ =>
      have h0 : DataW.trod enc Try.prog W base sp held n 9 (([c0, c1].drop 0).take (Try.prog.cellsOf 9)) = some xs[0] := h0
      have h1 : DataW.trod enc Try.prog W base sp held n 9 (([c0, c1].drop 1).take (Try.prog.cellsOf 9)) = some xs[1] := h1
      rw [cells9] at h0 h1
      obtain ⟨s0, e0, b0⟩ := open_str h0
      obtain ⟨s1, e1, b1⟩ := open_str h1
      have w0 : c0 = _ := (List.cons.inj e0).1
      have w1 : c1 = _ := (List.cons.inj e1).1
      have k0 := bulk_part (xs := xs) (i := 0) (y := xs[0]) (List.getElem?_eq_getElem (by omega))
      have k1 := bulk_part (xs := xs) (i := 1) (y := xs[1]) (List.getElem?_eq_getElem (by omega))
      have hy1 : y.1 = .agg (xs.map (·.1)) := by rw [hx]
      rw [hy1] at hyb
      exact ⟨(s0, s1), by rw [w0, w1]; rfl, by show s0.size ≤ _; omega, by show s1.size ≤ _; omega⟩)
  exact ⟨l, ls_of hr (rs_e l), by simpa using hb, hl⟩
set_option maxRecDepth 100000 in
theorem open_inps {v : Value} (h : DataW.trod enc Try.prog W base sp held fuel 23 [v] = some x) : ∃ l : List (S × List S), In W v l ∧ l.length ≤ Rows.uptoBulk x.1 ∧ ∀ s ∈ l, s.2.length ≤ Rows.uptoBulk x.1 := by
  obtain ⟨rows, hr, hb, he⟩ := open_rows (by decide) Try.underlying23 cellsI h
  obtain ⟨l, rfl, hl⟩ := maps_of (fun z : (S × List S) × Value => nR z.1 z.2) (fun z => Ls W z.2 1 (z.1.2.map sR) ∧ z.1.2.length ≤ Rows.uptoBulk x.1) rows (fun a ha => by
    obtain ⟨m, y, -, hy, hyb⟩ := he a ha
    obtain ⟨xs, n, rfl, hx, hlen, hxl, hfe⟩ := DataW.trod_struct Try.underlying42 hy
    rw [cellsI] at hlen
    have hxl4 : xs.length = 2 := hxl
    have h0 := hfe 0 _ rfl
    have h1 := hfe 1 _ rfl
    rw [List.getElem?_eq_getElem (by omega)] at h0 h1
    obtain ⟨cs⟩ := a
    match cs, hlen with
    | [c0, c1], _ =>
      have h0 : DataW.trod enc Try.prog W base sp held n 9 (([c0, c1].drop 0).take (Try.prog.cellsOf 9)) = some xs[0] := h0
      have h1 : DataW.trod enc Try.prog W base sp held n 24 (([c0, c1].drop 1).take (Try.prog.cellsOf 24)) = some xs[1] := h1
      rw [cells9] at h0
      rw [cellsT] at h1
      obtain ⟨s0, e0, b0⟩ := open_str h0
      obtain ⟨lt, q1, q2, -⟩ := open_texts h1
      have w0 : c0 = _ := (List.cons.inj e0).1
      have k1 := bulk_part (xs := xs) (i := 1) (y := xs[1]) (List.getElem?_eq_getElem (by omega))
      have hy1 : y.1 = .agg (xs.map (·.1)) := by rw [hx]
      rw [hy1] at hyb
      exact ⟨((s0, lt), c1), by rw [w0]; rfl, q1, by show lt.length ≤ _; omega⟩)
  have hz : List.zipWith nR (l.map (·.1)) (l.map (·.2)) = l.map (fun z : (S × List S) × Value => nR z.1 z.2) := by
    rw [List.zipWith_map]
    simp
  have rsn : Rs 2 (l.map (fun z : (S × List S) × Value => nR z.1 z.2)) := fun c hc => by
    obtain ⟨z, hz, rfl⟩ := List.mem_map.1 hc
    obtain ⟨oa, cap, e, -⟩ := (hl z hz).1
    refine ⟨rfl, ?_⟩
    rw [e]
    simp [nR, Value.oneCell']
  refine ⟨l.map (·.1), ⟨l.map (·.2), by simp, by rw [hz]; exact ls_of hr rsn, fun i x u q1 q2 => ?_⟩, by simpa using hb, fun s hs => ?_⟩
  · rw [List.getElem?_map] at q1 q2
    cases hq : l[i]? with
    | none => rw [hq] at q1; cases q1
    | some z =>
      rw [hq] at q1 q2
      obtain rfl : z.1 = x := by simpa using q1
      obtain rfl : z.2 = u := by simpa using q2
      exact (hl z (List.mem_of_getElem? hq)).1
  · obtain ⟨z, hz, rfl⟩ := List.mem_map.1 hs
    exact (hl z hz).2
end
set_option maxRecDepth 100000 in
theorem open_recipe {H : Type} {enc : TypeId × Value → H} {W : World} {base : Nat} {v : Value} {D : DataW H} {p : List MemPlace} (hv : Value.okWide Try.prog W .any base 27 v) (h : DataW.Trod enc Try.prog W 0 (fun _ => true) true 27 v D p) (hD : Rows.uptoBulk D ≤ 1048576) :
    ∃ o n s a e R, v = .agg (rV o n s R.sys R.bld a e) ∧ Rc W o n s a e R ∧ Sm R ∧ (∀ p ∈ R.e, p.1.size ≤ 1000000000 ∧ p.2.size ≤ 1000000000) ∧ (∀ x ∈ R.a, x.size ≤ 1000000000) ∧ (∀ x ∈ R.o, x.1.size ≤ 1000000000 ∧ x.2.2.2.size ≤ 1000000000) := by
  obtain ⟨fuel, h⟩ := h
  obtain ⟨cs, rfl, hcs, -⟩ : ∃ cs, v = .agg cs ∧ cs.size = Try.prog.cellsOf 27 ∧ Row.okWide Try.prog W .any base 27 cs := by
    unfold Value.okWide at hv
    rw [Try.underlying27] at hv
    exact hv
  rw [cellsR] at hcs
  obtain ⟨xs, n, rfl, hx, hlen, hxl, hfe⟩ := DataW.trod_struct Try.underlying27 h
  have hxl7 : xs.length = 7 := hxl
  have h0 := hfe 0 _ rfl
  have h1 := hfe 1 _ rfl
  have h2 := hfe 2 _ rfl
  have h3 := hfe 3 _ rfl
  have h4 := hfe 4 _ rfl
  have h5 := hfe 5 _ rfl
  have h6 := hfe 6 _ rfl
  rw [List.getElem?_eq_getElem (by omega)] at h0 h1 h2 h3 h4 h5 h6
  obtain ⟨l⟩ := cs
  match l, hcs with
  | [c0, c1, c2, c3, c4, c5, c6], _ =>
    have h0 : DataW.trod enc Try.prog W 0 (fun _ => true) true n 22 (([c0, c1, c2, c3, c4, c5, c6].drop 0).take (Try.prog.cellsOf 22)) = some xs[0] := h0
    have h1 : DataW.trod enc Try.prog W 0 (fun _ => true) true n 23 (([c0, c1, c2, c3, c4, c5, c6].drop 1).take (Try.prog.cellsOf 23)) = some xs[1] := h1
    have h2 : DataW.trod enc Try.prog W 0 (fun _ => true) true n 24 (([c0, c1, c2, c3, c4, c5, c6].drop 2).take (Try.prog.cellsOf 24)) = some xs[2] := h2
    have h3 : DataW.trod enc Try.prog W 0 (fun _ => true) true n 9 (([c0, c1, c2, c3, c4, c5, c6].drop 3).take (Try.prog.cellsOf 9)) = some xs[3] := h3
    have h4 : DataW.trod enc Try.prog W 0 (fun _ => true) true n 9 (([c0, c1, c2, c3, c4, c5, c6].drop 4).take (Try.prog.cellsOf 9)) = some xs[4] := h4
    have h5 : DataW.trod enc Try.prog W 0 (fun _ => true) true n 24 (([c0, c1, c2, c3, c4, c5, c6].drop 5).take (Try.prog.cellsOf 24)) = some xs[5] := h5
    have h6 : DataW.trod enc Try.prog W 0 (fun _ => true) true n 25 (([c0, c1, c2, c3, c4, c5, c6].drop 6).take (Try.prog.cellsOf 25)) = some xs[6] := h6
    rw [cellsOs] at h0
    rw [cellsIs] at h1
    rw [cellsT] at h2 h5
    rw [cells9] at h3 h4
    rw [cellsPs] at h6
    obtain ⟨lo, a0, b0, z0⟩ := open_outs h0
    obtain ⟨ln, a1, b1, z1⟩ := open_inps h1
    obtain ⟨ls, a2, b2, z2⟩ := open_texts h2
    obtain ⟨s3, e3, -⟩ := open_str h3
    obtain ⟨s4, e4, -⟩ := open_str h4
    obtain ⟨la, a5, b5, z5⟩ := open_texts h5
    obtain ⟨le, a6, b6, z6⟩ := open_pairs h6
    have w3 : c3 = _ := (List.cons.inj e3).1
    have w4 : c4 = _ := (List.cons.inj e4).1
    have e2 : D = .agg (xs.map (·.1)) := congrArg Prod.fst hx
    rw [e2] at hD
    have k0 := bulk_part (xs := xs) (i := 0) (y := xs[0]) (List.getElem?_eq_getElem (by omega))
    have k1 := bulk_part (xs := xs) (i := 1) (y := xs[1]) (List.getElem?_eq_getElem (by omega))
    have k2 := bulk_part (xs := xs) (i := 2) (y := xs[2]) (List.getElem?_eq_getElem (by omega))
    have k5 := bulk_part (xs := xs) (i := 5) (y := xs[5]) (List.getElem?_eq_getElem (by omega))
    have k6 := bulk_part (xs := xs) (i := 6) (y := xs[6]) (List.getElem?_eq_getElem (by omega))
    refine ⟨c0, c1, c2, c5, c6, ⟨lo, ln, ls, s3, s4, la, le⟩, by rw [w3, w4]; rfl, ⟨a0, a1, a2, a5, a6⟩, ?_, fun q hq => ?_, fun q hq => ?_, fun q hq => ?_⟩
    · unfold Sm
      refine ⟨by show lo.length ≤ _; omega, by show ln.length ≤ _; omega, by show ls.length ≤ _; omega, by show la.length ≤ _; omega, by show le.length ≤ _; omega, fun q hq => ?_⟩
      have := z1 q hq
      omega
    · have := z6 q hq
      omega
    · have := z5 q hq
      omega
    · have := z0 q hq
      omega
set_option maxRecDepth 100000 in
theorem contract (H : Type) (enc : TypeId × Value → H) (W : World) (base : Nat) (args : Array Value) (ds gs : List (DataW H)) (before : List MemPlace)
    (hval0 : ∀ (j : Nat) t v, (Try.f3).params[j]? = some t → args[j]? = some v → Value.okWide Try.prog W .any base t v)
    (hW : DataW.Whole enc Try.prog (Try.f3).params.toList Rows.recipePutsSpec.vars false W args.toList ds gs before)
    (hk : Rows.uptoSmall H (ds ++ gs) = true) :
    Calls Try.prog 3 args W fun e W' => ∃ v, e = .returned v ∧ Rows.recipePutsSpec.post enc Try.prog Try.f3 false true false false W args v W' := by
  have hval := hval0
  have hW' := hW
  obtain ⟨p, q, hA0, hV, rfl, hfz, hnd⟩ := hW
  have hA : DataW.TrodAll enc Try.prog W 0 (fun _ => true) true (Try.f3).params.toList args.toList ds p := hA0
  rw [Try.params3] at hA hval
  obtain ⟨v0, v1, d0, d1, p0, p1, rfl, rfl, rfl, h0, h1⟩ := trodAll_two hA
  obtain ⟨rfl, rfl⟩ := trodVars_none hV
  clear hA0 hval0
  simp only [List.append_nil] at hW' hk
  have hbk : Rows.uptoBulkAll [d0, d1] ≤ 1048576 := of_decide_eq_true hk
  have k0 := part_le (l := [d0, d1]) (d := d0) (by simp)
  have k1 := part_le (l := [d0, d1]) (d := d1) (by simp)
  obtain ⟨o, n, s, a, e, R, rfl, hrc, hs, z1, z2, z3⟩ := open_recipe (hval 0 27 v0 rfl rfl) h0 (by omega)
  obtain ⟨a0, len, cap, rfl⟩ := okWide_slice Try.underlying24 (hval 1 24 v1 rfl rfl)
  obtain ⟨fuel, hf⟩ := id h1
  obtain ⟨lst, hl, hlb, -⟩ := open_texts hf
  have hlb : lst.length ≤ Rows.uptoBulk d1 := hlb
  have hlt0 : ∀ x ∈ p0, x.block < W.heap.size := fun x hx => by simpa using hW'.lt x (by simp [hx])
  have hlt1 : ∀ x ∈ p1, x.block < W.heap.size := fun x hx => by simpa using hW'.lt x (by simp [hx])
  refine (puts_any W o n s a e R hs z1 z2 z3 hrc _ lst hl (by omega)).mono fun e W' ⟨he, hbl⟩ => ?_
  subst he
  have harg0 := Below.trod laidOut (by kernel_rfl) (of_decide_eq_true (by kernel_rfl)) h0 hbl hlt0
  have harg1 := Below.trod laidOut (by kernel_rfl) (of_decide_eq_true (by kernel_rfl)) h1 hbl hlt1
  exact ⟨_, rfl, _, _, _, [], _, [], hW', trodAll_mk1 (shut_bool Try.underlying4 _), trodAll_mk2 harg0 harg1, rfl, hbl.frame _, fun h => by cases h⟩
set_option maxRecDepth 100000 in
theorem lifted (os : Os) (started : os.Started) (H : Type) (enc : TypeId × Value → H) (F : Stop.Interp) :
    ReturnsInHanded {} Try.checked os 3 .any ((Rows.OpenSpec.upto Rows.recipePutsSpec).pre6 enc Try.prog Try.f3 Rows.recipePutsUptoRow.domain false) (((Rows.OpenSpec.upto Rows.recipePutsSpec).at F).post enc Try.prog Try.f3 false true false false) := by
  refine returnsInHanded_of_cond (C := Try.checked) (s := Rows.OpenSpec.upto Rows.recipePutsSpec) (k := Rows.uptoSmall) rfl own started (by kernel_rfl) Try.func3
    (OpenSpec.witness (enc := enc) (C := Try.checked) (s := Rows.OpenSpec.upto Rows.recipePutsSpec) (k := Rows.uptoSmall) rfl false ⟨#[], #[.agg #[.slice none 0 0, .slice none 0 0, .slice none 0 0, .string ⟨#[]⟩, .string ⟨#[]⟩, .slice none 0 0, .slice none 0 0], .slice none 0 0], []⟩ 8 (by kernel_rfl) (by kernel_rfl) (by kernel_rfl)
      (x := ([.agg [.nil, .nil, .nil, .lit (.string []), .lit (.string []), .nil, .nil], .nil], [], [])) (by kernel_rfl) rfl (by kernel_rfl)) ?_
  intro W base args ds gs before hval hW _ hk _
  exact contract H enc W base args ds gs before hval hW hk
theorem said : Rows.RecipePutsUptoSaid :=
  OpenClaim.holds_of_cond 3 Try.f3 rfl rfl rfl rfl rfl rfl rfl ⟨rfl, rfl, rfl, rfl, rfl⟩ rfl rfl rfl rfl rfl (by kernel_rfl) Try.func3 (by kernel_rfl)
    (of_decide_eq_true (by kernel_rfl)) (by unfold Func.isWrapper; first | (rw [if_pos (by decide +kernel)]; kernel_rfl) | (rw [if_neg (by decide +kernel)]; exact ⟨rfl, rfl⟩))
    (fun os started H enc _ F => lifted os started H enc F)
end Go.Proofs.Ytcggaiplepekdaa.Puts
namespace Go.Proofs.Ytcggaiplepekdaa
theorem recipePutsUpto_holds : Rows.RecipePutsUptoSaid := Puts.said
#print axioms recipePutsUpto_holds
end Go.Proofs.Ytcggaiplepekdaa
