/- LabelSorts: the row. -/
import Derived.Test.YtjbomhihhgblbaaSrT
import Derived.SizedLaws
import Derived.ChangeSlices
import Derived.SliceStrings
import Derived.OpenShut
import Derived.Carry
import Derived.JoinedCond
import Derived.Deep.Slices
namespace Go.Proofs.Ytjbomhihhgblbaa.Sorts
open Go.ChangeShapes Go.WideShapes Go.ChangeAt Go.RowKit
theorem own : ownKnob Try.prog.godebug = none := by kernel_rfl
theorem cells9 : Try.prog.cellsOf 9 = 1 := by kernel_rfl
theorem cells27 : Try.prog.cellsOf 27 = 20 := by kernel_rfl
theorem cells29 : Try.prog.cellsOf 29 = 21 := by kernel_rfl
theorem one_le {H : Type} (d : DataW H) : 1 ≤ Rows.uptoBulk d := by
  cases d with
  | lit l => cases l <;> simp [Rows.uptoBulk]
  | _ => simp [Rows.uptoBulk]
theorem length_le {H : Type} : ∀ l : List (DataW H), l.length ≤ Rows.uptoBulkAll l
  | [] => by simp [Rows.uptoBulkAll]
  | x :: r => by have h1 := one_le x; have h2 := length_le r; simp only [Rows.uptoBulkAll, List.length_cons]; omega
theorem part_le {H : Type} {d : DataW H} : ∀ {l : List (DataW H)}, d ∈ l → Rows.uptoBulk d ≤ Rows.uptoBulkAll l
  | x :: r, h => by
    simp only [Rows.uptoBulkAll]
    rcases List.mem_cons.1 h with e | e
    · subst e; omega
    · have := part_le e; omega
section
variable {H : Type} {enc : TypeId × Value → H} {P : Program} {W : World} {base fuel n : Nat} {sp : Nat → Bool} {held : Bool} {t e : TypeId} {cs : List Value} {x : DataW H × List MemPlace}
theorem open_row (ht : P.underlying t = some (.array n e)) (he : P.underlying e = some (.int .u8)) (hce : P.cellsOf e = 1) (hcl : cs.length = n) (h : DataW.trod enc P W base sp held fuel t cs = some x) :
    ∃ l : List Nat, l.length = n ∧ Byt l ∧ cs = (bs l).toList ∧ x = (.agg (dlits l), []) := by
  obtain ⟨xs, m, rfl, rfl, hlen, hxl, hel⟩ := DataW.trod_array ht h
  have key : ∀ i (hi : i < n), ∃ z : Nat, z < 256 ∧ cs[i]? = some (.int .u8 (z : Int)) ∧ xs[i]? = some (.lit (.int .u8 (z : Int)), []) := by
    intro i hi
    have h2 := hel i hi
    rw [hce, Nat.mul_one, List.getElem?_eq_getElem (by omega)] at h2
    obtain ⟨z, h3, h4, h5⟩ := DataW.trod_int he h2
    obtain ⟨hz0, hz1⟩ := wf_byte h5
    obtain ⟨y, rfl⟩ : ∃ y : Nat, z = y := ⟨z.toNat, by omega⟩
    refine ⟨y, by omega, ?_, ?_⟩
    · have := congrArg (·[0]?) h3
      simpa [List.getElem?_take, List.getElem?_drop] using this
    · rw [List.getElem?_eq_getElem (by omega), h4]
  refine ⟨xs.map fun x => (match x.1 with | .lit (.int _ z) => z.toNat | _ => 0), by simpa using hxl, ?_, ?_, ?_⟩
  · intro b hb
    obtain ⟨x, hx, rfl⟩ := List.mem_map.1 hb
    obtain ⟨i, hi, rfl⟩ := List.getElem_of_mem hx
    obtain ⟨z, hz, _, h4⟩ := key i (by omega)
    rw [List.getElem?_eq_getElem hi] at h4
    rw [Option.some.inj h4]
    simpa using hz
  · apply List.ext_getElem?
    intro i
    by_cases hi : i < n
    · obtain ⟨z, hz, h3, h4⟩ := key i hi
      rw [h3]
      simp [bs, h4]
    · rw [List.getElem?_eq_none (by omega), List.getElem?_eq_none (by simp [bs]; omega)]
  · congr 1
    · congr 1
      apply List.ext_getElem?
      intro i
      by_cases hi : i < n
      · obtain ⟨z, hz, h3, h4⟩ := key i hi
        simp [dlits, h4]
      · rw [List.getElem?_eq_none (by simp; omega), List.getElem?_eq_none (by simp [dlits]; omega)]
    · rw [List.flatMap_eq_nil_iff]
      intro x hx
      obtain ⟨i, hi, rfl⟩ := List.getElem_of_mem hx
      obtain ⟨z, hz, _, h4⟩ := key i (by omega)
      rw [List.getElem?_eq_getElem hi] at h4
      rw [Option.some.inj h4]
end

theorem open_one {H : Type} {enc' : TypeId × Value → H} {W : World} {base fuel : Nat} {sp : Nat → Bool} {held : Bool} {cs : List Value} {x : DataW H × List MemPlace} (h : DataW.trod enc' Try.prog W base sp held fuel 29 cs = some x) : ∃ l : Lb, cs = enc l := by
  obtain ⟨y0, y1, n, hx, hl, h0, h1⟩ := trod_struct2 Try.underlying29 h
  simp only at h0 h1
  rw [cells27] at h0
  rw [cells9] at h1
  rw [cells29] at hl
  obtain ⟨l, l1, l2, l3, -⟩ := open_row Try.underlying27 Try.underlying5 cells5 (by rw [List.length_take, List.length_drop]; omega) h0
  obtain ⟨s, s1, -, -⟩ := DataW.trod_string Try.underlying9 h1
  refine ⟨⟨l, s, l1⟩, ?_⟩
  rw [← List.take_append_drop 20 cs]
  have e1 : cs.take 20 = (bs l).toList := by simpa using l3
  have e2 : cs.drop 20 = [.string s] := by
    have : (cs.drop 20).take 1 = [.string s] := by simpa using s1
    rw [List.take_of_length_le (by rw [List.length_drop]; omega)] at this
    exact this
  rw [e1, e2]
  simp [enc, lab]
set_option maxRecDepth 100000 in
theorem open_ls {H : Type} {enc' : TypeId × Value → H} {W : World} {base : Nat} {v : Value} {D : DataW H} {p : List MemPlace} (hv : Value.okWide Try.prog W .any base 22 v) (h : DataW.Trod enc' Try.prog W 0 (fun _ => true) true 22 v D p) :
    ∃ L : List Lb, Ls v L W ∧ L.length ≤ Rows.uptoBulk D := by
  obtain ⟨a0, len, cap, rfl⟩ := okWide_slice Try.underlying22 hv
  obtain ⟨fuel, hf⟩ := h
  rcases DataW.trod_slice Try.underlying22 hf with ⟨hcs, hx⟩ | ⟨a, len', cap', elems, rest, n, -, hcs, hx, -, hlc, hcm, hel, hat, -, -⟩
  · simp [Value.cells] at hcs
    obtain ⟨rfl, rfl, rfl⟩ := hcs
    exact ⟨[], .inl ⟨rfl, none, 0, rfl, Nat.zero_le _, fun _ => rfl⟩, by simp⟩
  · simp [Value.cells] at hcs
    obtain ⟨rfl, rfl, rfl⟩ := hcs
    simp only [Value.okWide, Try.underlying22, Cell.okWide, Cell.ok] at hv
    obtain ⟨_, _, _, hspot, row, cells', hsh, _⟩ := hv
    have hblk : a.block < W.heap.size := by
      rcases Nat.lt_or_ge a.block W.heap.size with h | h
      · exact h
      · simp [World.shape?, Array.getElem?_eq_none h] at hsh
    obtain ⟨b, off, spot⟩ := a
    simp only at hspot hblk
    subst hspot
    have each : ∀ i, i < len → ∃ x : Lb, W.rangeAt b (off + i * 21) (enc x) := by
      intro i hi
      have h1 := hat i hi
      rw [List.getElem?_eq_getElem (by omega), cells29] at h1
      obtain ⟨cs, hc, ht⟩ := Option.bind_eq_some_iff.1 h1
      obtain ⟨x, rfl⟩ := open_one ht
      refine ⟨x, fun j u hu => ?_⟩
      have hj : j < 21 := by have := (List.getElem?_eq_some_iff.1 hu).1; rwa [enc_len] at this
      have h2 := World.cells?_some hc
      have h3 := h2.2.2 j hj
      rw [Addr.add_mid, Addr.add_mid] at h3
      rw [h3]
      exact hu
    have pick : ∃ f : Nat → Lb, ∀ i, i < len → W.rangeAt b (off + i * 21) (enc (f i)) := by
      refine ⟨fun i => if h : i < len then (each i h).choose else default, fun i hi => ?_⟩
      simp only [dif_pos hi]
      exact (each i hi).choose_spec
    obtain ⟨f, hf'⟩ := pick
    have hll : ((List.range len).map f).length = len := by simp
    refine ⟨(List.range len).map f, .inr ⟨b, off, cap, by rw [hll], by omega, hcm, hblk, fun i x hx => ?_⟩, ?_⟩
    · have hi : i < len := by have := (List.getElem?_eq_some_iff.1 hx).1; rwa [hll] at this
      have : x = f i := by simp [hi] at hx; exact hx.symm
      rw [this]
      exact hf' i hi
    · simp only [Prod.mk.injEq] at hx
      rw [hll, hx.1]
      have h4 := length_le (elems.map (·.1))
      rw [List.length_map, hel] at h4
      simp only [Rows.uptoBulk]
      omega
set_option maxRecDepth 100000 in
theorem contract (H : Type) (enc' : TypeId × Value → H) (W : World) (base : Nat) (args : Array Value) (ds gs : List (DataW H)) (before : List MemPlace)
    (hval0 : ∀ (j : Nat) t v, Try.f3.params[j]? = some t → args[j]? = some v → Value.okWide Try.prog W .any base t v)
    (hW : DataW.Whole enc' Try.prog Try.f3.params.toList Rows.labelSortsSpec.vars false W args.toList ds gs before)
    (hk : Rows.uptoSmall H (ds ++ gs) = true) :
    Calls Try.prog 3 args W fun e W' => ∃ v, e = .returned v ∧ Rows.labelSortsSpec.post enc' Try.prog Try.f3 false true false false W args v W' := by
  have hval := hval0
  have hW' := hW
  obtain ⟨p, q, hA0, hV, rfl, hfz, hnd⟩ := hW
  have hA : DataW.TrodAll enc' Try.prog W 0 (fun _ => true) true Try.f3.params.toList args.toList ds p := hA0
  rw [Try.params3] at hA hval
  obtain ⟨v0, d0, rfl, rfl, h0⟩ := trodAll_one hA
  obtain ⟨rfl, rfl⟩ := trodVars_none hV
  obtain ⟨L, y0, b0⟩ := open_ls (hval 0 22 v0 rfl rfl) h0
  clear hA0 hval0
  simp only [List.append_nil] at hW' hk
  have hbk : Rows.uptoBulkAll [d0] ≤ 1048576 := of_decide_eq_true hk
  have k0 := part_le (l := [d0]) (d := d0) (by simp)
  have hlt0 : ∀ x ∈ p, x.block < W.heap.size := fun x hx => by simpa using hW'.lt x (by simp [hx])
  refine (sorts_any L (by omega) v0 W y0).mono fun e W' ⟨he, hbl⟩ => ?_
  subst he
  have harg0 := Below.trod laidOut (by kernel_rfl) (of_decide_eq_true (by kernel_rfl)) h0 hbl hlt0
  exact ⟨_, rfl, _, _, _, [], _, [], hW', trodAll_mk1 (shut_bool Try.underlying4 _), trodAll_mk1 harg0, rfl, hbl.frame _, fun h => by cases h⟩
set_option maxRecDepth 100000 in
theorem lifted (os : Os) (started : os.Started) (H : Type) (enc' : TypeId × Value → H) (F : Stop.Interp) :
    ReturnsInHanded {} Try.checked os 3 .any ((Rows.OpenSpec.upto Rows.labelSortsSpec).pre6 enc' Try.prog Try.f3 Rows.labelSortsUptoRow.domain false) (((Rows.OpenSpec.upto Rows.labelSortsSpec).at F).post enc' Try.prog Try.f3 false true false false) := by
  refine returnsInHanded_of_cond (C := Try.checked) (s := Rows.OpenSpec.upto Rows.labelSortsSpec) (k := Rows.uptoSmall) rfl own started (by kernel_rfl) Try.func3
    (OpenSpec.witness (enc := enc') (C := Try.checked) (s := Rows.OpenSpec.upto Rows.labelSortsSpec) (k := Rows.uptoSmall) rfl false ⟨#[], #[.slice none 0 0], []⟩ 8 (by kernel_rfl) (by kernel_rfl) (by kernel_rfl)
      (x := ([.nil], [], [])) (by kernel_rfl) rfl (by kernel_rfl)) ?_
  intro W base args ds gs before hval hW _ hk _
  exact contract H enc' W base args ds gs before hval hW hk
theorem said : Rows.LabelSortsUptoSaid :=
  OpenClaim.holds_of_cond 3 Try.f3 rfl rfl rfl rfl rfl rfl rfl ⟨rfl, rfl, rfl, rfl, rfl⟩ rfl rfl rfl rfl rfl (by kernel_rfl) Try.func3 (by kernel_rfl)
    (of_decide_eq_true (by kernel_rfl)) (by unfold Func.isWrapper; first | (rw [if_pos (by decide +kernel)]; kernel_rfl) | (rw [if_neg (by decide +kernel)]; exact ⟨rfl, rfl⟩))
    (fun os started H enc _ F => lifted os started H enc F)
end Go.Proofs.Ytjbomhihhgblbaa.Sorts
namespace Go.Proofs.Ytjbomhihhgblbaa
theorem labelSortsUpto_holds : Rows.LabelSortsUptoSaid := Sorts.said
#print axioms labelSortsUpto_holds
end Go.Proofs.Ytjbomhihhgblbaa
