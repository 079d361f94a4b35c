/- LabelOne: the row and the card. -/
import Derived.Test.YtffghlbgbfhfdaaDoorLnT
namespace Go.Proofs.YtffghlbgbfhfdaaDoor.DLn
open Go.ChangeShapes Go.WideShapes Go.ChangeAt Go.RowKit
open Go.ChangeMaps (open_string shut_string)
set_option maxRecDepth 100000
theorem zs_getD (l : List Nat) (j : Nat) : (zs l).getD j 0 = ((l.getD j 0 : Nat) : Int) := by
  by_cases h : j < l.length
  · simp [zs, List.getD, h]
  · simp [zs, List.getD, h]
def laid8 : List (String × DataW Unit) := [("math/bits.deBruijn32tab", Rows.laid_math_bits_deBruijn32tab), ("math/bits.deBruijn64tab", Rows.laid_math_bits_deBruijn64tab), ("internal/strconv.uint64pow10", Rows.laid_internal_strconv_uint64pow10), ("strconv.ErrRange", Rows.laid_strconv_ErrRange), ("strconv.ErrSyntax", Rows.laid_strconv_ErrSyntax), ("graft/digest.digits16", Rows.laid_graft_digest_digits16), ("graft/digest.digits32", Rows.laid_graft_digest_digits32), ("graft/label.kinds", Rows.laid_graft_label_kinds)]
theorem tabs8 {W : World} (h : laidMetH Tryd.prog laid8 W) : (Lib.TabIs Tryd.prog W "graft/digest.digits16" .u8 (zs D16) ∧ Lib.TabIs Tryd.prog W "graft/digest.digits32" .u8 (zs D32)) ∧ (∃ cs : Array Value, W.var? Tryd.prog "internal/strconv.uint64pow10" = some cs) ∧ ∃ cs : Array Value, W.var? Tryd.prog "graft/label.kinds" = some cs ∧
    (cs[2]? = some (.string ⟨#[116, 101, 120, 116]⟩) ∧ cs[3]? = some (.int .i64 1)) ∧ (cs[4]? = some (.string ⟨#[115, 111, 117, 114, 99, 101]⟩) ∧ cs[5]? = some (.int .i64 3)) ∧ (cs[6]? = some (.string ⟨#[111, 117, 116, 112, 117, 116]⟩) ∧ cs[7]? = some (.int .i64 4)) ∧ (cs[8]? = some (.string ⟨#[109, 101, 109, 98, 101, 114]⟩) ∧ cs[9]? = some (.int .i64 8)) := by
  rw [MakeChecks.laidMetH_plain _ _ _ (by kernel_rfl)] at h
  obtain ⟨ps, ⟨a0, b0, cs0, f0, p0, q0, hg0, ht0, hv0, hd0, ⟨a1, b1, cs1, f1, p1, q1, hg1, ht1, hv1, hd1, ⟨a2, b2, cs2, f2, p2, q2, hg2, ht2, hv2, hd2, ⟨a3, b3, cs3, f3, p3, q3, hg3, ht3, hv3, hd3, ⟨a4, b4, cs4, f4, p4, q4, hg4, ht4, hv4, hd4, ⟨a5, b5, cs5, f5, p5, q5, hg5, ht5, hv5, hd5, ⟨a6, b6, cs6, f6, p6, q6, hg6, ht6, hv6, hd6, ⟨a7, b7, cs7, f7, p7, q7, hg7, ht7, hv7, hd7, _, _⟩, _⟩, _⟩, _⟩, _⟩, _⟩, _⟩, _⟩, _⟩ := h
  obtain rfl := Option.some.inj (gD16.symm.trans hg5)
  obtain rfl := Option.some.inj (tD16.symm.trans ht5)
  obtain rfl := Option.some.inj (gD32.symm.trans hg6)
  obtain rfl := Option.some.inj (tD32.symm.trans ht6)
  obtain rfl := Option.some.inj (gKi.symm.trans hg7)
  obtain rfl := Option.some.inj (tKi.symm.trans ht7)
  refine ⟨⟨?_, ?_⟩, ⟨_, hv2⟩, ?_⟩
  · unfold Lib.TabIs
    rw [hv5, ← Lib.cells_of_tab Tryd.underlying64 Tryd.underlying5 cells5 cA16 hd5]
  · unfold Lib.TabIs
    rw [hv6, ← Lib.cells_of_tab Tryd.underlying23 Tryd.underlying5 cells5 cA32 hd6]
  · have k1 := kind_at hd7 1 (by omega) [116, 101, 120, 116] 1 rfl
    have k2 := kind_at hd7 2 (by omega) [115, 111, 117, 114, 99, 101] 3 rfl
    have k3 := kind_at hd7 3 (by omega) [111, 117, 116, 112, 117, 116] 4 rfl
    have k4 := kind_at hd7 4 (by omega) [109, 101, 109, 98, 101, 114] 8 rfl
    exact ⟨_, hv7, by simpa using k1, by simpa using k2, by simpa using k3, by simpa using k4⟩
theorem tb_of_laid {W : World} (h : laidMetH Tryd.prog laid8 W) : Tx W ∧ Tk W := by
  obtain ⟨⟨h16, h32⟩, ⟨cp, hp⟩, cs, hv, ⟨k2, k3⟩, ⟨k4, k5⟩, ⟨k6, k7⟩, ⟨k8, k9⟩⟩ := tabs8 h
  have A16 : ∀ j, j < 16 → W.cell? ⟨1, j, none⟩ = some (.int .u8 ((g16 j : Nat) : Int)) := fun j hj => by have := h16.cell gD16 j hj; rw [zs_getD] at this; exact this
  have A32 : ∀ j, j < 32 → W.cell? ⟨2, j, none⟩ = some (.int .u8 ((g32 j : Nat) : Int)) := fun j hj => by have := h32.cell gD32 j hj; rw [zs_getD] at this; exact this
  have hz : 4 < W.heap.size := by
    unfold World.var? at hp
    rw [gPw] at hp
    simp only [Option.bind_some] at hp
    split at hp
    · rename_i cs' t f hh
      exact (Array.getElem?_eq_some_iff.1 hh).1
    · cases hp
  obtain ⟨t, f, hr⟩ : ∃ t f, W.heap[0]? = some (.cells cs t f) := by
    unfold World.var? at hv
    rw [gKi] at hv
    simp only [Option.bind_some] at hv
    split at hv
    · rename_i cs' t f hh
      exact ⟨t, f, by rw [hh, Option.some.inj hv]⟩
    · cases hv
  exact ⟨⟨by omega, A16, A32⟩, ⟨by omega, by simp [World.cell?, hr, k2], by simp [World.cell?, hr, k3], by simp [World.cell?, hr, k4], by simp [World.cell?, hr, k5], by simp [World.cell?, hr, k6], by simp [World.cell?, hr, k7], by simp [World.cell?, hr, k8], by simp [World.cell?, hr, k9]⟩⟩
/-- A block's cells, laid anew. -/
def laidC (l : List Value) : Obj → Obj
  | .cells _ t frozen => .cells l.toArray t frozen
  | o => o
def kindsC : List Value := [.string ⟨#[]⟩, .int .i64 0, .string ⟨#[116, 101, 120, 116]⟩, .int .i64 1, .string ⟨#[115, 111, 117, 114, 99, 101]⟩, .int .i64 3, .string ⟨#[111, 117, 116, 112, 117, 116]⟩, .int .i64 4, .string ⟨#[109, 101, 109, 98, 101, 114]⟩, .int .i64 8]
def db32 : List Int := [0, 1, 28, 2, 29, 14, 24, 3, 30, 22, 20, 15, 25, 17, 4, 8, 31, 27, 13, 23, 21, 19, 16, 7, 26, 12, 18, 6, 11, 5, 10, 9]
def db64 : List Int := [0, 1, 56, 2, 57, 49, 28, 3, 61, 58, 42, 50, 38, 29, 17, 4, 62, 47, 59, 36, 45, 43, 51, 22, 53, 39, 33, 30, 24, 18, 12, 5, 63, 55, 48, 27, 60, 41, 37, 16, 46, 35, 44, 21, 52, 32, 23, 11, 54, 26, 40, 15, 34, 20, 31, 10, 25, 14, 19, 9, 13, 8, 7, 6]
def p10 : List Int := [1, 10, 100, 1000, 10000, 100000, 1000000, 10000000, 100000000, 1000000000, 10000000000, 100000000000, 1000000000000, 10000000000000, 100000000000000, 1000000000000000, 10000000000000000, 100000000000000000, 1000000000000000000, 10000000000000000000]
/-- A world for the witness. -/
def erR : ByteArray := ⟨#[118, 97, 108, 117, 101, 32, 111, 117, 116, 32, 111, 102, 32, 114, 97, 110, 103, 101]⟩
def erS : ByteArray := ⟨#[105, 110, 118, 97, 108, 105, 100, 32, 115, 121, 110, 116, 97, 120]⟩
noncomputable def low : Nat := (World.holding Tryd.prog default ⟨#[], #[], []⟩).heap.size
noncomputable def laidWorld (os : Go.Os) : World :=
  { World.holding Tryd.prog os ⟨#[.cells #[.string erR] 143, .cells #[.string erS] 143], #[], []⟩ with heap := ((((((((World.holding Tryd.prog os ⟨#[.cells #[.string erR] 143, .cells #[.string erS] 143], #[], []⟩).heap.modify 0 (laidC kindsC)).modify 1 (laidC ((zs D16).map (Value.int .u8)))).modify 2 (laidC ((zs D32).map (Value.int .u8)))).modify 6 (laidC [.iface 141 (.pointer (some ⟨low, 0, none⟩))])).modify 5 (laidC [.iface 141 (.pointer (some ⟨low + 1, 0, none⟩))])).modify 4 (laidC (p10.map (Value.int .u64)))).modify 7 (laidC (db32.map (Value.int .u8)))).modify 8 (laidC (db64.map (Value.int .u8))) }
section
variable {H : Type} {enc : TypeId × Value → H} {P : Program} {W : World} {base fuel n : Nat} {sp : Nat → Bool} {held : Bool} {t e : TypeId} {cs : List Value} {x : DataW H × List MemPlace}
theorem open_row (ht : P.underlying t = some (.array n e)) (he : P.underlying e = some (.int .u8)) (hce : P.cellsOf e = 1) (hcl : cs.length = n) (h : DataW.trod enc P W base sp held fuel t cs = some x) :
    ∃ l : List Nat, l.length = n ∧ Byt l ∧ cs = (bs l).toList ∧ x = (.agg (dlits l), []) := by
  obtain ⟨xs, m, rfl, rfl, hlen, hxl, hel⟩ := DataW.trod_array ht h
  have key : ∀ i (hi : i < n), ∃ z : Nat, z < 256 ∧ cs[i]? = some (.int .u8 (z : Int)) ∧ xs[i]? = some (.lit (.int .u8 (z : Int)), []) := by
    intro i hi
    have h2 := hel i hi
    rw [hce, Nat.mul_one, List.getElem?_eq_getElem (by omega)] at h2
    obtain ⟨z, h3, h4, h5⟩ := DataW.trod_int he h2
    obtain ⟨hz0, hz1⟩ := wf_byte h5
    obtain ⟨y, rfl⟩ : ∃ y : Nat, z = y := ⟨z.toNat, by omega⟩
    refine ⟨y, by omega, ?_, ?_⟩
    · have := congrArg (·[0]?) h3
      simpa [List.getElem?_take, List.getElem?_drop] using this
    · rw [List.getElem?_eq_getElem (by omega), h4]
  refine ⟨xs.map fun x => (match x.1 with | .lit (.int _ z) => z.toNat | _ => 0), by simpa using hxl, ?_, ?_, ?_⟩
  · intro b hb
    obtain ⟨x, hx, rfl⟩ := List.mem_map.1 hb
    obtain ⟨i, hi, rfl⟩ := List.getElem_of_mem hx
    obtain ⟨z, hz, _, h4⟩ := key i (by omega)
    rw [List.getElem?_eq_getElem hi] at h4
    rw [Option.some.inj h4]
    simpa using hz
  · apply List.ext_getElem?
    intro i
    by_cases hi : i < n
    · obtain ⟨z, hz, h3, h4⟩ := key i hi
      rw [h3]
      simp [bs, h4]
    · rw [List.getElem?_eq_none (by omega), List.getElem?_eq_none (by simp [bs]; omega)]
  · congr 1
    · congr 1
      apply List.ext_getElem?
      intro i
      by_cases hi : i < n
      · obtain ⟨z, hz, h3, h4⟩ := key i hi
        simp [dlits, h4]
      · rw [List.getElem?_eq_none (by simp; omega), List.getElem?_eq_none (by simp [dlits]; omega)]
    · rw [List.flatMap_eq_nil_iff]
      intro x hx
      obtain ⟨i, hi, rfl⟩ := List.getElem_of_mem hx
      obtain ⟨z, hz, _, h4⟩ := key i (by omega)
      rw [List.getElem?_eq_getElem hi] at h4
      rw [Option.some.inj h4]
end
theorem open_one {H : Type} {enc' : TypeId × Value → H} {W : World} {base fuel : Nat} {sp : Nat → Bool} {held : Bool} {cs : List Value} {x : DataW H × List MemPlace} (h : DataW.trod enc' Tryd.prog W base sp held fuel 60 cs = some x) : ∃ l : Lb, cs = enc l ∧ Byt l.h := by
  obtain ⟨y0, y1, n, hx, hl, h0, h1⟩ := trod_struct2 Tryd.underlying60 h
  simp only at h0 h1
  rw [cHash] at h0
  rw [cells9] at h1
  rw [cLabel] at hl
  obtain ⟨l, l1, l2, l3, -⟩ := open_row Tryd.underlying58 Tryd.underlying5 cells5 (by rw [List.length_take, List.length_drop]; omega) h0
  obtain ⟨s, s1, -, -⟩ := DataW.trod_string Tryd.underlying9 h1
  refine ⟨⟨l, s, l1⟩, ?_, l2⟩
  rw [← List.take_append_drop 20 cs]
  have e1 : cs.take 20 = (bs l).toList := by simpa using l3
  have e2 : cs.drop 20 = [.string s] := by
    have : (cs.drop 20).take 1 = [.string s] := by simpa using s1
    rw [List.take_of_length_le (by rw [List.length_drop]; omega)] at this
    exact this
  rw [e1, e2]
  simp [enc, lab]
set_option maxRecDepth 100000 in
theorem open_ls {H : Type} {enc' : TypeId × Value → H} {W : World} {base : Nat} {v : Value} {D : DataW H} {p : List MemPlace} (hv : Value.okWide Tryd.prog W .any base 22 v) (h : DataW.Trod enc' Tryd.prog W 0 (fun _ => true) true 22 v D p) :
    ∃ L : List Lb, Ls v L W ∧ (∀ x ∈ L, Byt x.h) ∧ ((D = .nil ∧ L = []) ∨ ∃ es sp, D = .slice es sp ∧ es.length = L.length) := by
  obtain ⟨a0, len, cap, rfl⟩ := okWide_slice Tryd.underlying22 hv
  obtain ⟨fuel, hf⟩ := h
  rcases DataW.trod_slice Tryd.underlying22 hf with ⟨hcs, hx⟩ | ⟨a, len', cap', elems, rest, n, -, hcs, hx, -, hlc, hcm, hel, hat, -, -⟩
  · simp [Value.cells] at hcs
    obtain ⟨rfl, rfl, rfl⟩ := hcs
    exact ⟨[], .inl ⟨rfl, none, 0, rfl, Nat.zero_le _, fun _ => rfl⟩, (fun x hx => by simp at hx), .inl ⟨by simp only [Prod.mk.injEq] at hx; exact hx.1, rfl⟩⟩
  · simp [Value.cells] at hcs
    obtain ⟨rfl, rfl, rfl⟩ := hcs
    simp only [Value.okWide, Tryd.underlying22, Cell.okWide, Cell.ok] at hv
    obtain ⟨_, _, _, hspot, row, cells', hsh, _⟩ := hv
    have hblk : a.block < W.heap.size := by
      rcases Nat.lt_or_ge a.block W.heap.size with h | h
      · exact h
      · simp [World.shape?, Array.getElem?_eq_none h] at hsh
    obtain ⟨b, off, spot⟩ := a
    simp only at hspot hblk
    subst hspot
    have each : ∀ i, i < len → ∃ x : Lb, W.rangeAt b (off + i * 21) (enc x) ∧ Byt x.h := by
      intro i hi
      have h1 := hat i hi
      rw [List.getElem?_eq_getElem (by omega), cLabel] at h1
      obtain ⟨cs, hc, ht⟩ := Option.bind_eq_some_iff.1 h1
      obtain ⟨x, rfl, hxb⟩ := open_one ht
      refine ⟨x, fun j u hu => ?_, hxb⟩
      have hj : j < 21 := by have := (List.getElem?_eq_some_iff.1 hu).1; rwa [enc_len] at this
      have h2 := World.cells?_some hc
      have h3 := h2.2.2 j hj
      rw [Addr.add_mid, Addr.add_mid] at h3
      rw [h3]
      exact hu
    have pick : ∃ f : Nat → Lb, ∀ i, i < len → W.rangeAt b (off + i * 21) (enc (f i)) ∧ Byt (f i).h := by
      refine ⟨fun i => if h : i < len then (each i h).choose else default, fun i hi => ?_⟩
      simp only [dif_pos hi]
      exact (each i hi).choose_spec
    obtain ⟨f, hf'⟩ := pick
    have hll : ((List.range len).map f).length = len := by simp
    refine ⟨(List.range len).map f, .inr ⟨b, off, cap, by rw [hll], by omega, hcm, hblk, fun i x hx => ?_⟩, fun x hx => ?_, ?_⟩
    · have hi : i < len := by have := (List.getElem?_eq_some_iff.1 hx).1; rwa [hll] at this
      have : x = f i := by simp [hi] at hx; exact hx.symm
      rw [this]
      exact (hf' i hi).1
    · obtain ⟨i, hi, rfl⟩ := List.mem_map.1 hx
      exact (hf' i (by simpa using hi)).2
    · simp only [Prod.mk.injEq] at hx
      exact .inr ⟨_, _, hx.1, by rw [List.length_map, hel, hll]⟩
theorem cts : Tryd.prog.cellTypes Tryd.prog.depth 26 = some [3, 22, 4, 9, 3, 5, 5, 5, 5, 5, 5, 5, 5, 5, 5, 5, 5, 5, 5, 5, 5, 5, 5, 5, 5, 5, 5, 5, 5, 5, 5, 5, 5, 5, 5, 5, 5, 9] := by kernel_rfl
theorem bytesL : Tryd.prog.bytesOf 60 = 40 := by kernel_rfl
theorem wf_i64 {z : Int} (h : (Lit.int .i64 z).wf = true) : -9223372036854775808 ≤ z ∧ z ≤ 9223372036854775807 := by
  simp [Lit.wf, IntKind.min, IntKind.max, IntKind.signed, IntKind.bits] at h
  omega
/-- The fields of a struct of seven. -/
theorem trod7 {H : Type} {enc : TypeId × Value → H} {W : World} {base : Nat} {sp : Nat → Bool} {held : Bool} {t : TypeId} {f0 f1 f2 f3 f4 f5 f6 : Field} {fuel : Nat} {cs : List Value} {x : DataW H × List MemPlace} (ht : Tryd.prog.underlying t = some (.struct #[f0, f1, f2, f3, f4, f5, f6])) (h : DataW.trod enc Tryd.prog W base sp held fuel t cs = some x) :
    ∃ y0 y1 y2 y3 y4 y5 y6 n, x.1 = .agg [y0.1, y1.1, y2.1, y3.1, y4.1, y5.1, y6.1] ∧ cs.length = Tryd.prog.cellsOf t ∧ DataW.trod enc Tryd.prog W base sp held n f0.type ((cs.drop f0.offset).take (Tryd.prog.cellsOf f0.type)) = some y0 ∧ DataW.trod enc Tryd.prog W base sp held n f1.type ((cs.drop f1.offset).take (Tryd.prog.cellsOf f1.type)) = some y1 ∧ DataW.trod enc Tryd.prog W base sp held n f2.type ((cs.drop f2.offset).take (Tryd.prog.cellsOf f2.type)) = some y2 ∧ DataW.trod enc Tryd.prog W base sp held n f3.type ((cs.drop f3.offset).take (Tryd.prog.cellsOf f3.type)) = some y3 ∧ DataW.trod enc Tryd.prog W base sp held n f4.type ((cs.drop f4.offset).take (Tryd.prog.cellsOf f4.type)) = some y4 ∧ DataW.trod enc Tryd.prog W base sp held n f5.type ((cs.drop f5.offset).take (Tryd.prog.cellsOf f5.type)) = some y5 ∧ DataW.trod enc Tryd.prog W base sp held n f6.type ((cs.drop f6.offset).take (Tryd.prog.cellsOf f6.type)) = some y6 := by
  obtain ⟨xs, n, _, rfl, hl, hlen, hf⟩ := DataW.trod_struct ht h
  match xs, hlen with
  | [y0, y1, y2, y3, y4, y5, y6], _ => exact ⟨y0, y1, y2, y3, y4, y5, y6, n, by simp, hl, by simpa using hf 0 f0 rfl, by simpa using hf 1 f1 rfl, by simpa using hf 2 f2 rfl, by simpa using hf 3 f3 rfl, by simpa using hf 4 f4 rfl, by simpa using hf 5 f5 rfl, by simpa using hf 6 f6 rfl⟩
/-- A finger that is handed in. -/
theorem open_fing {H : Type} {enc : TypeId × Value → H} {W : World} {base : Nat} {v : Value} {D : DataW H} {p : List MemPlace} (hv : Value.okWide Tryd.prog W .any base 26 v) (h : DataW.Trod enc Tryd.prog W 0 (fun _ => true) true 26 v D p)
    (hw : (DataW.weights Tryd.prog 26 D).all (· ≤ reachBytes) = true) : ∃ f : Fg, v = .agg (fing f) ∧ Ls f.v f.L W := by
  obtain ⟨fuel, h⟩ := h
  obtain ⟨cs, rfl, hcs, ts, ht1, -, ht3⟩ : ∃ cs, v = .agg cs ∧ cs.size = Tryd.prog.cellsOf 26 ∧ Row.okWide Tryd.prog W .any base 26 cs := by
    unfold Value.okWide at hv
    rw [Tryd.underlying26] at hv
    exact hv
  obtain ⟨y0, y1, y2, y3, y4, y5, y6, n, hx, hl, h0, h1, h2, h3, h4, h5, h6⟩ := trod7 Tryd.underlying26 h
  simp only [Value.cells] at h0 h1 h2 h3 h4 h5 h6 hl
  rw [cells3] at h0 h4
  rw [cLabels] at h1
  rw [cells4] at h2
  rw [cells9] at h3 h6
  rw [cSum] at h5
  rw [cFinger] at hl
  obtain ⟨k, k1, -, k3⟩ := DataW.trod_int Tryd.underlying3 h0
  obtain ⟨sf, s1, -⟩ := DataW.trod_bool Tryd.underlying4 h2
  obtain ⟨ou, o1, -, -⟩ := DataW.trod_string Tryd.underlying9 h3
  obtain ⟨ix, i1, -, i3⟩ := DataW.trod_int Tryd.underlying3 h4
  obtain ⟨sm, m1, m2, m3, -⟩ := open_row Tryd.underlying24 Tryd.underlying5 cells5 (by rw [List.length_take, List.length_drop]; omega) h5
  obtain ⟨nm, n1, -, -⟩ := DataW.trod_string Tryd.underlying9 h6
  obtain ⟨v1, hv1⟩ : ∃ v1, cs[1]? = some v1 := ⟨_, Array.getElem?_eq_getElem (by rw [hcs, cFinger]; omega)⟩
  have hv1' : (cs.toList.drop 1).take 1 = [v1] := by
    have : cs.toList[1]? = some v1 := by simpa using hv1
    apply List.ext_getElem?
    intro i
    match i with
    | 0 => simpa [List.getElem?_take, List.getElem?_drop] using this
    | i + 1 => simp [List.getElem?_take]
  obtain ⟨u, hu1, hu2⟩ := ht3 1 v1 hv1
  have hts : ts = [3, 22, 4, 9, 3, 5, 5, 5, 5, 5, 5, 5, 5, 5, 5, 5, 5, 5, 5, 5, 5, 5, 5, 5, 5, 5, 5, 5, 5, 5, 5, 5, 5, 5, 5, 5, 5, 9] := Option.some.inj (ht1.symm.trans cts)
  rw [hts] at hu1
  obtain rfl : 22 = u := Option.some.inj hu1
  have hok : Value.okWide Tryd.prog W .any base 22 v1 := by
    unfold Value.okWide
    rw [Tryd.underlying22]
    exact hu2
  rw [hv1'] at h1
  obtain ⟨a0, len, cap, rfl⟩ := okWide_slice Tryd.underlying22 hok
  obtain ⟨L, y1', yb, l1⟩ := open_ls hok ⟨n, h1⟩
  have hwl : L.length ≤ 4398046511104 := by
    rcases l1 with ⟨_, rfl⟩ | ⟨es, sp, he, hlen⟩
    · simp
    · have hx' : D = _ := hx
      rw [hx'] at hw
      simp only [DataW.weights, Tryd.underlying26] at hw
      have hs := sized_slice (P := Tryd.prog) hw (j := 1) (t := 22) (elems := es) (spare := sp) rfl (by rw [← he]; rfl) Tryd.underlying22
      have h2 : reachBytes = 140737488351232 := by decide
      rw [bytesL] at hs
      omega
  refine ⟨⟨k, .slice a0 len cap, L, sf, ou, ix, sm, nm, m1, m2, wf_i64 k3, wf_i64 i3, hwl, yb⟩, ?_, y1'⟩
  congr 1
  apply Array.ext'
  have e0 : cs.toList = cs.toList.take 1 ++ ((cs.toList.drop 1).take 1 ++ ((cs.toList.drop 2).take 1 ++ ((cs.toList.drop 3).take 1 ++ ((cs.toList.drop 4).take 1 ++ ((cs.toList.drop 5).take 32 ++ (cs.toList.drop 37).take 1))))) := by
    have s : ∀ (l : List Value) (a b : Nat), (l.drop a).take b ++ l.drop (a + b) = l.drop a := fun l a b => by rw [← List.drop_drop]; exact List.take_append_drop b _
    have e6 : (cs.toList.drop 37).take 1 = cs.toList.drop 37 := List.take_of_length_le (by rw [List.length_drop]; omega)
    rw [e6, s cs.toList 5 32, s cs.toList 4 1, s cs.toList 3 1, s cs.toList 2 1, s cs.toList 1 1]
    exact (List.take_append_drop 1 _).symm
  rw [e0]
  have k1' : cs.toList.take 1 = [.int .i64 k] := by simpa using k1
  rw [k1', hv1', s1, o1, i1, m3, n1]
  simp [fing]
theorem len_le {H : Type} {ts : List TypeId} {ds : List (DataW H)} (h : (DataW.weightsEach Tryd.prog ts ds).all (· ≤ reachBytes) = true) {j : Nat} {d : DataW H} {l : List Nat} (ht : ts[j]? = some 38) (hd : ds[j]? = some d) (hl : (d = .nil ∧ l = []) ∨ ∃ es sp, d = .slice es sp ∧ es.length = l.length) : l.length ≤ 140737488351232 := by
  rcases hl with ⟨_, rfl⟩ | ⟨es, sp, rfl, hlen⟩
  · simp
  · have h1 := sized_slice h ht hd Tryd.underlying38
    have h2 : reachBytes = 140737488351232 := by decide
    rw [show Tryd.prog.bytesOf 5 = 1 by kernel_rfl] at h1
    omega
theorem open_byl {H : Type} {enc : TypeId × Value → H} {W : World} {base : Nat} {v : Value} {d : DataW H} {p : List MemPlace} (hv : Value.okWide Tryd.prog W .any base 38 v) (h : DataW.Trod enc Tryd.prog W 0 (fun _ => true) true 38 v d p) :
    ∃ l : List Nat, Byl v l W ∧ Byt l ∧ ((d = .nil ∧ l = []) ∨ ∃ es sp, d = .slice es sp ∧ es.length = l.length) := by
  obtain ⟨a0, len, cap, rfl⟩ := okWide_slice Tryd.underlying38 hv
  obtain ⟨fuel, hf⟩ := h
  rcases open_ints Tryd.underlying38 Tryd.underlying5 cells5 hf with ⟨hcs, hx⟩ | ⟨a, len', cap', zs, hcs, _, hl, hm, hz, hx, hcell, hwz⟩
  · simp [Value.cells] at hcs
    obtain ⟨rfl, rfl, rfl⟩ := hcs
    simp only [Prod.mk.injEq] at hx
    exact ⟨[], .inl ⟨rfl, rfl⟩, (fun x hx => by cases hx), .inl ⟨hx.1, rfl⟩⟩
  · simp [Value.cells] at hcs
    obtain ⟨rfl, rfl, rfl⟩ := hcs
    simp only [Value.okWide, Tryd.underlying38, Cell.okWide, Cell.ok] at hv
    obtain ⟨_, _, _, hspot, row, cells, hsh, _⟩ := hv
    have hblk : a.block < W.heap.size := by
      rcases Nat.lt_or_ge a.block W.heap.size with h | h
      · exact h
      · simp [World.shape?, Array.getElem?_eq_none h] at hsh
    obtain ⟨b, off, spot⟩ := a
    simp only at hspot hblk
    subst hspot
    simp only [if_true] at hz
    have hw : ∀ z ∈ zs, 0 ≤ z ∧ z < 256 := fun z hz => wf_byte (hwz z hz)
    have hll : ((zs.take len).map Int.toNat).length = len := by rw [List.length_map, List.length_take]; omega
    refine ⟨(zs.take len).map Int.toNat, .inr ⟨b, off, cap, by rw [hll], by omega, hm, hblk, fun j hj => ?_⟩, ?_, .inr ?_⟩
    · rw [hll] at hj
      have hj2 : j < zs.length := by omega
      have h1 := hcell j hj2
      rw [Go.WideShapes.add_plain] at h1
      rw [h1]
      have h2 : zs.getD j 0 = zs[j] := by simp [List.getD, hj2]
      have h3 : ((zs.take len).map Int.toNat).getD j 0 = zs[j].toNat := by
        simp [List.getD, hj, hj2]
      rw [h2, h3, Int.toNat_of_nonneg (hw _ (List.getElem_mem hj2)).1]
    · intro x hx
      obtain ⟨z, hz, rfl⟩ := List.mem_map.1 hx
      have := hw z (List.mem_of_mem_take hz)
      omega
    · simp only [Prod.mk.injEq] at hx
      refine ⟨_, _, hx.1, ?_⟩
      rw [hll]
      simp [lits]
      omega
end Go.Proofs.YtffghlbgbfhfdaaDoor.DLn
