/- NoteInts: the row. -/
import Derived.Test.YtnljnknnjahjkaaNiY
import Derived.Test.YtnljnknnjahjkaaRows
import Derived.SizedLaws
import Derived.ChangeSlices
import Derived.SliceStrings
import Derived.OpenShut
import Derived.Carry
import Derived.JoinedCond
import Derived.Deep.Slices
import Derived.ProofKit
namespace Go.Proofs.Ytnljnknnjahjkaa.Ints
open Go.ChangeShapes Go.WideShapes Go.ChangeAt Go.RowKit
theorem own : ownKnob Try.prog.godebug = none := by kernel_rfl
theorem laidOut : laidOutB Try.prog = true := by kernel_rfl
theorem cellsN : Try.prog.cellsOf 26 = 6 := by kernel_rfl
theorem cellsF : Try.prog.cellsOf 39 = 7 := by kernel_rfl
theorem cells3 : Try.prog.cellsOf 3 = 1 := by kernel_rfl
theorem cells4 : Try.prog.cellsOf 4 = 1 := by kernel_rfl
theorem cells9 : Try.prog.cellsOf 9 = 1 := by kernel_rfl
theorem cellsf : Try.prog.cellsOf 22 = 1 := by kernel_rfl
theorem cellsns : Try.prog.cellsOf 23 = 1 := by kernel_rfl
theorem cellsfs : Try.prog.cellsOf 24 = 1 := by kernel_rfl
section
variable {H : Type} {enc : TypeId × Value → H} {P : Program} {W : World} {base fuel : Nat} {sp : Nat → Bool} {held : Bool} {t e : TypeId} {cs : List Value} {x : DataW H × List MemPlace}
theorem trod_float {k : FloatKind} (ht : P.underlying t = some (.float k)) (h : DataW.trod enc P W base sp held fuel t cs = some x) : ∃ b, cs = [.float k b] := by
  cases fuel with
  | zero => simp [DataW.trod] at h
  | succ n =>
    unfold DataW.trod at h
    rw [ht] at h
    split at h <;> simp_all
/-- A slice of rows, opened. -/
theorem open_rows {sz : Nat} (hsz : 0 < sz) (ht : P.underlying t = some (.slice e)) (hce : P.cellsOf e = sz) {v : Value} (h : DataW.trod enc P W base sp held fuel t [v] = some x) :
    ∃ l : List (Array Value), Rd W.heap.size W sz v l ∧ ∀ a ∈ l, ∃ m y, m < fuel ∧ DataW.trod enc P W base sp held m e a.toList = some y := by
  rcases DataW.trod_slice ht h with ⟨hcs, hx⟩ | ⟨a, len, cap, elems, rest, n, hfu, hcs, hx, -, hlc, hcm, hel, hat, -, -⟩
  · obtain rfl : v = .slice none 0 0 := by simpa using hcs
    exact ⟨[], ⟨none, 0, rfl, Nat.le_refl _, Nat.zero_le _, fun i c h => by simp at h⟩, fun a h => by cases h⟩
  · obtain rfl : v = .slice (some a) len cap := by simpa using hcs
    rw [hce] at hat
    have each : ∀ i, ∃ c : List Value, i < len → (W.cells? base (a.add (i * sz)) sz = some c ∧ ∃ y, DataW.trod enc P W base sp held n e c = some y) := fun i => by
      by_cases hi : i < len
      · have h1 := hat i hi
        rw [List.getElem?_eq_getElem (by omega)] at h1
        obtain ⟨c, hc, h2⟩ := Option.bind_eq_some_iff.1 h1
        exact ⟨c, fun _ => ⟨hc, _, h2⟩⟩
      · exact ⟨[], fun h => absurd h hi⟩
    obtain ⟨f, hf⟩ := Classical.axiomOfChoice each
    have hln : ((List.range len).map fun i => (f i).toArray).length = len := by simp
    refine ⟨(List.range len).map fun i => (f i).toArray, ⟨some a, cap, by rw [hln], by rw [hln]; exact hlc, hcm, fun i c hc => ?_⟩, fun c hc => ?_⟩
    · have hi : i < len := by have := (List.getElem?_eq_some_iff.1 hc).1; rwa [hln] at this
      obtain rfl : (f i).toArray = c := by simpa [hi] using hc
      obtain ⟨h1, -⟩ := hf i hi
      obtain ⟨-, h2, h3⟩ := World.cells?_some h1
      obtain ⟨b, off, spot⟩ := a
      have h30 := h3 0 hsz
      rw [List.getElem?_eq_getElem (by omega)] at h30
      have hspot : spot = none := by
        obtain ⟨-, k2, k3⟩ := World.cells?_some (hf 0 (by omega)).1
        have k30 := k3 0 hsz
        rw [List.getElem?_eq_getElem (by omega)] at k30
        simpa [Addr.add] using World.cell?_spot k30
      subst hspot
      refine ⟨b, off, rfl, ?_, by simpa using h2, fun j u hu => ?_⟩
      · exact World.block_lt_of_cell? W ⟨b, off + i * sz + 0, none⟩ (by rw [Go.WideShapes.add_plain, Go.WideShapes.add_plain] at h30; exact h30)
      · have hj : j < sz := by have := (List.getElem?_eq_some_iff.1 hu).1; simpa [h2] using this
        have := h3 j hj
        rw [Go.WideShapes.add_plain, Go.WideShapes.add_plain] at this
        rw [this]
        simpa using hu
    · obtain ⟨i, hi, rfl⟩ := List.mem_map.1 hc
      obtain ⟨-, y, hy⟩ := hf i (List.mem_range.1 hi)
      exact ⟨n, y, by omega, by simpa using hy⟩
end
theorem Nt.up {B : Nat} {W : World} : ∀ {k : Nat} {c : Array Value}, Nt B W k c → Nt B W (k + 1) c
  | 0, _, h => h.elim
  | k + 1, c, ⟨kd, b, x, s, L, F, ln, lf, h1, h2, h3, h4, h5⟩ => ⟨kd, b, x, s, L, F, ln, lf, h1, h2, h3, fun a ha => Nt.up (h4 a ha), fun a ha => by
      obtain ⟨s, r, e1, e2⟩ := h5 a ha
      exact ⟨s, r, e1, Nt.up e2⟩⟩
theorem Nt.mono {B : Nat} {W : World} {k m : Nat} {c : Array Value} (h : Nt B W k c) (hkm : k ≤ m) : Nt B W m c := by
  induction hkm with
  | refl => exact h
  | step _ ih => exact Nt.up ih
set_option maxRecDepth 100000 in
theorem open_note {H : Type} {enc : TypeId × Value → H} {W : World} {base : Nat} {sp : Nat → Bool} {held : Bool} : ∀ (fuel : Nat) (cs : List Value) (x : DataW H × List MemPlace), DataW.trod enc Try.prog W base sp held fuel 26 cs = some x → Nt W.heap.size W fuel cs.toArray := by
  intro fuel
  induction fuel using Nat.strongRecOn with
  | ind fuel ih =>
    intro cs x h
    obtain ⟨xs, n, rfl, hx, hlen, hxl, hfe⟩ := DataW.trod_struct Try.underlying26 h
    rw [cellsN] at hlen
    have h0 := hfe 0 _ rfl
    have h1 := hfe 1 _ rfl
    have h2 := hfe 2 _ rfl
    have h3 := hfe 3 _ rfl
    have h4 := hfe 4 _ rfl
    have h5 := hfe 5 _ rfl
    have hxl6 : xs.length = 6 := hxl
    rw [List.getElem?_eq_getElem (by omega)] at h0 h1 h2 h3 h4 h5
    match cs, hlen with
    | [c0, c1, c2, c3, c4, c5], _ =>
      have h0 : DataW.trod enc Try.prog W base sp held n 3 (([c0, c1, c2, c3, c4, c5].drop 0).take (Try.prog.cellsOf 3)) = some xs[0] := h0
      rw [cells3] at h0
      have h1 : DataW.trod enc Try.prog W base sp held n 4 (([c0, c1, c2, c3, c4, c5].drop 1).take (Try.prog.cellsOf 4)) = some xs[1] := h1
      rw [cells4] at h1
      have h2 : DataW.trod enc Try.prog W base sp held n 22 (([c0, c1, c2, c3, c4, c5].drop 2).take (Try.prog.cellsOf 22)) = some xs[2] := h2
      rw [cellsf] at h2
      have h3 : DataW.trod enc Try.prog W base sp held n 9 (([c0, c1, c2, c3, c4, c5].drop 3).take (Try.prog.cellsOf 9)) = some xs[3] := h3
      rw [cells9] at h3
      have h4 : DataW.trod enc Try.prog W base sp held n 23 (([c0, c1, c2, c3, c4, c5].drop 4).take (Try.prog.cellsOf 23)) = some xs[4] := h4
      rw [cellsns] at h4
      have h5 : DataW.trod enc Try.prog W base sp held n 24 (([c0, c1, c2, c3, c4, c5].drop 5).take (Try.prog.cellsOf 24)) = some xs[5] := h5
      rw [cellsfs] at h5
      obtain ⟨kd, e0, -, -⟩ := DataW.trod_int Try.underlying3 h0
      obtain ⟨b, e1, -⟩ := DataW.trod_bool Try.underlying4 h1
      obtain ⟨f, e2⟩ := trod_float Try.underlying22 h2
      obtain ⟨s, e3, -, -⟩ := DataW.trod_string Try.underlying9 h3
      obtain ⟨ln, hl1, hl2⟩ := open_rows (by decide) Try.underlying23 cellsN h4
      obtain ⟨lf, hf1, hf2⟩ := open_rows (by decide) Try.underlying24 cellsF h5
      have w0 : c0 = _ := (List.cons.inj e0).1
      have w1 : c1 = _ := (List.cons.inj e1).1
      have w2 : c2 = _ := (List.cons.inj e2).1
      have w3 : c3 = _ := (List.cons.inj e3).1
      clear e0 e1 e2 e3
      subst w0 w1 w2 w3
      refine ⟨kd, b, f, s, c4, c5, ln, lf, rfl, hl1, hf1, fun a ha => ?_, fun a ha => ?_⟩
      · obtain ⟨m, y, hm, hy⟩ := hl2 a ha
        have := ih m (by omega) _ _ hy
        exact Nt.mono (by simpa using this) (by omega)
      · obtain ⟨m, y, hm, hy⟩ := hf2 a ha
        obtain ⟨ys, n2, rfl, hy2, hylen, hyl, hyf⟩ := DataW.trod_struct Try.underlying39 hy
        rw [cellsF] at hylen
        have g0 := hyf 0 _ rfl
        have g1 := hyf 1 _ rfl
        have hyl2 : ys.length = 2 := hyl
        rw [List.getElem?_eq_getElem (by omega)] at g0 g1
        obtain ⟨al⟩ := a
        match al, hylen with
        | [d0, d1, d2, d3, d4, d5, d6], _ =>
          have g0 : DataW.trod enc Try.prog W base sp held n2 9 (([d0, d1, d2, d3, d4, d5, d6].drop 0).take (Try.prog.cellsOf 9)) = some ys[0] := g0
          rw [cells9] at g0
          have g1 : DataW.trod enc Try.prog W base sp held n2 26 (([d0, d1, d2, d3, d4, d5, d6].drop 1).take (Try.prog.cellsOf 26)) = some ys[1] := g1
          rw [cellsN] at g1
          obtain ⟨nm, e4, -, -⟩ := DataW.trod_string Try.underlying9 g0
          have w4 : d0 = _ := (List.cons.inj e4).1
          clear e4
          subst w4
          have := ih n2 (by omega) _ _ g1
          exact ⟨nm, _, rfl, Nt.mono this (by omega)⟩
set_option maxRecDepth 100000 in
theorem contract (H : Type) (enc : TypeId × Value → H) (W : World) (base : Nat) (args : Array Value) (ds gs : List (DataW H)) (before : List MemPlace)
    (hval0 : ∀ (j : Nat) t v, Try.f3.params[j]? = some t → args[j]? = some v → Value.okWide Try.prog W .any base t v)
    (hW : DataW.Whole enc Try.prog Try.f3.params.toList Rows.noteIntsSpec.vars false W args.toList ds gs before) :
    Calls Try.prog 3 args W fun e W' => ∃ v, e = .returned v ∧ Rows.noteIntsSpec.post enc Try.prog Try.f3 false true false false W args v W' := by
  have hval := hval0
  have hW' := hW
  obtain ⟨p, q, hA0, hV, rfl, hfz, hnd⟩ := hW
  have hA : DataW.TrodAll enc Try.prog W 0 (fun _ => true) true Try.f3.params.toList args.toList ds p := hA0
  rw [Try.params3] at hA hval
  obtain ⟨v0, d0, rfl, rfl, h0⟩ := trodAll_one hA
  obtain ⟨rfl, rfl⟩ := trodVars_none hV
  obtain ⟨cs, rfl, -⟩ : ∃ cs, v0 = .agg cs ∧ cs.size = Try.prog.cellsOf 26 := by
    have hv := hval 0 26 v0 rfl rfl
    unfold Value.okWide at hv
    rw [Try.underlying26] at hv
    obtain ⟨cs, h1, h2, -⟩ := hv
    exact ⟨cs, h1, h2⟩
  obtain ⟨fuel, hf⟩ := id h0
  have hN := open_note fuel _ _ hf
  simp only [Value.cells] at hN
  clear hA0 hval0
  simp only [List.append_nil] at hW'
  have hlt0 : ∀ x ∈ p, x.block < W.heap.size := fun x hx => by simpa using hW'.lt x (by simp [hx])
  refine (ints_any fuel cs W (by simpa using hN)).mono fun e W' ⟨he, hbl⟩ => ?_
  subst he
  have harg0 := Below.trod laidOut (by kernel_rfl) (of_decide_eq_true (by kernel_rfl)) h0 hbl hlt0
  exact ⟨_, rfl, _, _, _, [], _, [], hW', trodAll_mk1 (shut_bool Try.underlying4 _), trodAll_mk1 harg0, rfl, hbl.frame _, fun h => by cases h⟩
set_option maxRecDepth 100000 in
theorem lifted (os : Os) (started : os.Started) (H : Type) (enc : TypeId × Value → H) :
    ReturnsInHanded {} Try.checked os 3 .any (Rows.noteIntsSpec.pre6 enc Try.prog Try.f3 Rows.noteIntsRow.domain false) (Rows.noteIntsSpec.post enc Try.prog Try.f3 false true false false) := by
  refine returnsInHanded_of_change (C := Try.checked) own started (by kernel_rfl) Try.func3
    (ChangeSpec.witness6 (enc := enc) (C := Try.checked) false ⟨#[], #[.agg #[.int .i64 0, .bool false, .float .f64 0, .string ⟨#[]⟩, .slice none 0 0, .slice none 0 0]], []⟩ 8 (by kernel_rfl) (by kernel_rfl) (by kernel_rfl) (by kernel_rfl)) ?_
  intro W base args ds gs before hval hW _ _
  exact contract H enc W base args ds gs before hval hW
theorem said : Rows.NoteIntsSaid :=
  OpenClaim.holds_of_wide 3 Try.f3 rfl rfl rfl rfl rfl rfl rfl ⟨rfl, rfl, rfl, rfl, rfl⟩ rfl rfl rfl rfl rfl (by kernel_rfl) Try.func3 (by kernel_rfl)
    (of_decide_eq_true (by kernel_rfl)) (by unfold Func.isWrapper; first | (rw [if_pos (by decide +kernel)]; kernel_rfl) | (rw [if_neg (by decide +kernel)]; exact ⟨rfl, rfl⟩))
    (fun os started H enc _ => lifted os started H enc)
end Go.Proofs.Ytnljnknnjahjkaa.Ints
namespace Go.Proofs.Ytnljnknnjahjkaa
theorem noteInts_holds : Rows.NoteIntsSaid := Ints.said
#print axioms noteInts_holds
end Go.Proofs.Ytnljnknnjahjkaa
