/- Several texts in one: LmT, LmU. -/
import Derived.Test.YteajpimonenopaaGreatDoorLm5
import Derived.Test.YteajpimonenopaaGreatDoorCards
import Derived.Test.YteajpimonenopaaGreatDoorTie
import Derived.Deep.DeepHandedRow
import Derived.Lib.LaidTab
import Derived.SliceStrings
import Derived.OpenShut
import Derived.Carry
import Derived.JoinedCond
import Derived.Deep.Slices
/- Fingers that are handed in; the tables. -/
namespace Go.Proofs.YteajpimonenopaaGreatDoor.DLm
open Go.ChangeShapes Go.WideShapes Go.ChangeAt Go.RowKit
open Go.ChangeMaps (open_string shut_string)
set_option maxRecDepth 100000
theorem own : ownKnob Tryz.prog.godebug = none := by kernel_rfl
def zs (l : List Nat) : List Int := l.map (fun (x : Nat) => (x : Int))
theorem gD16 : Tryz.prog.globalNamed "graft/digest.digits16" = some 2 := by kernel_rfl
theorem tD16 : (Tryz.prog.globals[2]?).map (·.type) = some 58 := by kernel_rfl
theorem gD32 : Tryz.prog.globalNamed "graft/digest.digits32" = some 6 := by kernel_rfl
theorem tD32 : (Tryz.prog.globals[6]?).map (·.type) = some 23 := by kernel_rfl
theorem gSt : Tryz.prog.globalNamed "graft/digest.startState" = some 4 := by kernel_rfl
theorem tSt : (Tryz.prog.globals[4]?).map (·.type) = some 53 := by kernel_rfl
theorem gRc : Tryz.prog.globalNamed "graft/digest.roundConstants" = some 5 := by kernel_rfl
theorem tRc : (Tryz.prog.globals[5]?).map (·.type) = some 56 := by kernel_rfl
theorem gKi : Tryz.prog.globalNamed "graft/label.kinds" = some 3 := by kernel_rfl
theorem tKi : (Tryz.prog.globals[3]?).map (·.type) = some 76 := by kernel_rfl
theorem cA16 : Tryz.prog.cellsOf 58 = 16 := by kernel_rfl
theorem cA32 : Tryz.prog.cellsOf 23 = 32 := by kernel_rfl
theorem cu32 : Tryz.prog.cellsOf 52 = 1 := by kernel_rfl
theorem cW8 : Tryz.prog.cellsOf 53 = 8 := by kernel_rfl
theorem cW64 : Tryz.prog.cellsOf 56 = 64 := by kernel_rfl
theorem ckind : Tryz.prog.cellsOf 75 = 2 := by kernel_rfl
theorem cK5 : Tryz.prog.cellsOf 76 = 10 := by kernel_rfl
theorem cells9 : Tryz.prog.cellsOf 9 = 1 := by kernel_rfl
theorem cells3 : Tryz.prog.cellsOf 3 = 1 := by kernel_rfl
theorem cells4 : Tryz.prog.cellsOf 4 = 1 := by kernel_rfl
theorem cHash : Tryz.prog.cellsOf 28 = 20 := by kernel_rfl
theorem cLabel : Tryz.prog.cellsOf 30 = 21 := by kernel_rfl
theorem cSum : Tryz.prog.cellsOf 24 = 32 := by kernel_rfl
theorem cLabels : Tryz.prog.cellsOf 25 = 1 := by kernel_rfl
theorem cFinger : Tryz.prog.cellsOf 44 = 38 := by kernel_rfl
/-- A kind's cells. -/
theorem kind_at {H : Type} {enc : TypeId × Value → H} {w : World} {base : Nat} {sp : Nat → Bool} {held : Bool} {fuel : Nat} {cs : List Value} {p : List MemPlace}
    (h : DataW.trod enc Tryz.prog w base sp held fuel 76 cs = some (Rows.laid_graft_label_kinds, p)) (j : Nat) (hj : j < 5) (s : List UInt8) (u : Int)
    (hd : (match (Rows.laid_graft_label_kinds : DataW H) with | .agg l => l | _ => [])[j]? = some (.agg [.lit (.string s), .lit (.int .i64 u)])) : cs[2 * j]? = some (.string ⟨s.toArray⟩) ∧ cs[2 * j + 1]? = some (.int .i64 u) := by
  cases fuel with
  | zero => simp [DataW.trod] at h
  | succ fuel =>
    simp only [DataW.trod, Tryz.underlying76, ckind, cK5] at h
    split at h
    · rename_i hl
      obtain ⟨xs, hm, hx⟩ := Option.map_eq_some_iff.1 h
      have hxs := congrArg Prod.fst hx
      simp only at hxs
      obtain ⟨b, hb, hf⟩ := Lib.mapM_at hm j j (by simp [hj])
      have h3 : (xs.map (·.1))[j]? = some b.1 := by simp [hb]
      rw [← hxs] at hd
      simp only at hd
      rw [hd] at h3
      obtain ⟨y0, y1, k, hy, hyl, h0, h1⟩ := trod_struct2 Tryz.underlying75 hf
      simp only [] at h0 h1
      rw [cells9] at h0
      rw [cells3] at h1
      obtain ⟨s', s1, s2, s3⟩ := DataW.trod_string Tryz.underlying9 h0
      obtain ⟨m, m1, m2, m3⟩ := DataW.trod_int Tryz.underlying3 h1
      have h3 := Option.some.inj h3
      rw [hy, s2, m2] at h3
      simp only [DataW.agg.injEq, List.cons.injEq, DataW.lit.injEq, Lit.string.injEq, Lit.int.injEq, true_and, and_true] at h3
      obtain ⟨q1, q2⟩ := h3
      have e6 : cs[2 * j]? = some (.string s') := by
        have := congrArg (·[0]?) s1
        simp only [List.getElem?_take, List.getElem?_drop, List.getElem?_cons_zero] at this
        simp at this
        rw [← this]
        congr 1
        omega
      have e7 : cs[2 * j + 1]? = some (.int .i64 m) := by
        have := congrArg (·[0]?) m1
        simp only [List.getElem?_take, List.getElem?_drop, List.getElem?_cons_zero] at this
        simp at this
        rw [← this]
        congr 1
        omega
      refine ⟨e6.trans ?_, e7.trans ?_⟩
      · congr 2
        apply ByteArray.ext
        apply Array.toList_inj.1
        simpa using q1.symm
      · rw [← q2]
    · cases h
end Go.Proofs.YteajpimonenopaaGreatDoor.DLm

/- Labels and bytes that are handed in. -/
namespace Go.Proofs.YteajpimonenopaaGreatDoor.DLm
open Go.ChangeShapes Go.WideShapes Go.ChangeAt Go.RowKit
open Go.ChangeMaps (open_string shut_string)
set_option maxRecDepth 100000
theorem zs_getD (l : List Nat) (j : Nat) : (zs l).getD j 0 = ((l.getD j 0 : Nat) : Int) := by
  by_cases h : j < l.length
  · simp [zs, List.getD, h]
  · simp [zs, List.getD, h]
/-- A block's cells, laid anew. -/
def laidC (l : List Value) : Obj → Obj
  | .cells _ t frozen => .cells l.toArray t frozen
  | o => o
def kindsC : List Value := [.string ⟨#[]⟩, .int .i64 0, .string ⟨#[116, 101, 120, 116]⟩, .int .i64 1, .string ⟨#[115, 111, 117, 114, 99, 101]⟩, .int .i64 3, .string ⟨#[111, 117, 116, 112, 117, 116]⟩, .int .i64 4, .string ⟨#[109, 101, 109, 98, 101, 114]⟩, .int .i64 8]
def db32 : List Int := [0, 1, 28, 2, 29, 14, 24, 3, 30, 22, 20, 15, 25, 17, 4, 8, 31, 27, 13, 23, 21, 19, 16, 7, 26, 12, 18, 6, 11, 5, 10, 9]
def db64 : List Int := [0, 1, 56, 2, 57, 49, 28, 3, 61, 58, 42, 50, 38, 29, 17, 4, 62, 47, 59, 36, 45, 43, 51, 22, 53, 39, 33, 30, 24, 18, 12, 5, 63, 55, 48, 27, 60, 41, 37, 16, 46, 35, 44, 21, 52, 32, 23, 11, 54, 26, 40, 15, 34, 20, 31, 10, 25, 14, 19, 9, 13, 8, 7, 6]
def p10 : List Int := [1, 10, 100, 1000, 10000, 100000, 1000000, 10000000, 100000000, 1000000000, 10000000000, 100000000000, 1000000000000, 10000000000000, 100000000000000, 1000000000000000, 10000000000000000, 100000000000000000, 1000000000000000000, 10000000000000000000]
section
variable {H : Type} {enc : TypeId × Value → H} {P : Program} {W : World} {base fuel n : Nat} {sp : Nat → Bool} {held : Bool} {t e : TypeId} {cs : List Value} {x : DataW H × List MemPlace}
theorem open_row (ht : P.underlying t = some (.array n e)) (he : P.underlying e = some (.int .u8)) (hce : P.cellsOf e = 1) (hcl : cs.length = n) (h : DataW.trod enc P W base sp held fuel t cs = some x) :
    ∃ l : List Nat, l.length = n ∧ Byt l ∧ cs = (bs l).toList ∧ x = (.agg (dlits l), []) := by
  obtain ⟨xs, m, rfl, rfl, hlen, hxl, hel⟩ := DataW.trod_array ht h
  have key : ∀ i (hi : i < n), ∃ z : Nat, z < 256 ∧ cs[i]? = some (.int .u8 (z : Int)) ∧ xs[i]? = some (.lit (.int .u8 (z : Int)), []) := by
    intro i hi
    have h2 := hel i hi
    rw [hce, Nat.mul_one, List.getElem?_eq_getElem (by omega)] at h2
    obtain ⟨z, h3, h4, h5⟩ := DataW.trod_int he h2
    obtain ⟨hz0, hz1⟩ := wf_byte h5
    obtain ⟨y, rfl⟩ : ∃ y : Nat, z = y := ⟨z.toNat, by omega⟩
    refine ⟨y, by omega, ?_, ?_⟩
    · have := congrArg (·[0]?) h3
      simpa [List.getElem?_take, List.getElem?_drop] using this
    · rw [List.getElem?_eq_getElem (by omega), h4]
  refine ⟨xs.map fun x => (match x.1 with | .lit (.int _ z) => z.toNat | _ => 0), by simpa using hxl, ?_, ?_, ?_⟩
  · intro b hb
    obtain ⟨x, hx, rfl⟩ := List.mem_map.1 hb
    obtain ⟨i, hi, rfl⟩ := List.getElem_of_mem hx
    obtain ⟨z, hz, _, h4⟩ := key i (by omega)
    rw [List.getElem?_eq_getElem hi] at h4
    rw [Option.some.inj h4]
    simpa using hz
  · apply List.ext_getElem?
    intro i
    by_cases hi : i < n
    · obtain ⟨z, hz, h3, h4⟩ := key i hi
      rw [h3]
      simp [bs, h4]
    · rw [List.getElem?_eq_none (by omega), List.getElem?_eq_none (by simp [bs]; omega)]
  · congr 1
    · congr 1
      apply List.ext_getElem?
      intro i
      by_cases hi : i < n
      · obtain ⟨z, hz, h3, h4⟩ := key i hi
        simp [dlits, h4]
      · rw [List.getElem?_eq_none (by simp; omega), List.getElem?_eq_none (by simp [dlits]; omega)]
    · rw [List.flatMap_eq_nil_iff]
      intro x hx
      obtain ⟨i, hi, rfl⟩ := List.getElem_of_mem hx
      obtain ⟨z, hz, _, h4⟩ := key i (by omega)
      rw [List.getElem?_eq_getElem hi] at h4
      rw [Option.some.inj h4]
end
theorem open_one {H : Type} {enc' : TypeId × Value → H} {W : World} {base fuel : Nat} {sp : Nat → Bool} {held : Bool} {cs : List Value} {x : DataW H × List MemPlace} (h : DataW.trod enc' Tryz.prog W base sp held fuel 30 cs = some x) : ∃ l : Lb, cs = enc l ∧ Byt l.h := by
  obtain ⟨y0, y1, n, hx, hl, h0, h1⟩ := trod_struct2 Tryz.underlying30 h
  simp only at h0 h1
  rw [cHash] at h0
  rw [cells9] at h1
  rw [cLabel] at hl
  obtain ⟨l, l1, l2, l3, -⟩ := open_row Tryz.underlying28 Tryz.underlying5 cells5 (by rw [List.length_take, List.length_drop]; omega) h0
  obtain ⟨s, s1, -, -⟩ := DataW.trod_string Tryz.underlying9 h1
  refine ⟨⟨l, s, l1⟩, ?_, l2⟩
  rw [← List.take_append_drop 20 cs]
  have e1 : cs.take 20 = (bs l).toList := by simpa using l3
  have e2 : cs.drop 20 = [.string s] := by
    have : (cs.drop 20).take 1 = [.string s] := by simpa using s1
    rw [List.take_of_length_le (by rw [List.length_drop]; omega)] at this
    exact this
  rw [e1, e2]
  simp [enc, lab]
set_option maxRecDepth 100000 in
theorem open_ls {H : Type} {enc' : TypeId × Value → H} {W : World} {base : Nat} {v : Value} {D : DataW H} {p : List MemPlace} (hv : Value.okWide Tryz.prog W .any base 25 v) (h : DataW.Trod enc' Tryz.prog W 0 (fun _ => true) true 25 v D p) :
    ∃ L : List Lb, Ls v L W ∧ (∀ x ∈ L, Byt x.h) ∧ ((D = .nil ∧ L = []) ∨ ∃ es sp, D = .slice es sp ∧ es.length = L.length) := by
  obtain ⟨a0, len, cap, rfl⟩ := okWide_slice Tryz.underlying25 hv
  obtain ⟨fuel, hf⟩ := h
  rcases DataW.trod_slice Tryz.underlying25 hf with ⟨hcs, hx⟩ | ⟨a, len', cap', elems, rest, n, -, hcs, hx, -, hlc, hcm, hel, hat, -, -⟩
  · simp [Value.cells] at hcs
    obtain ⟨rfl, rfl, rfl⟩ := hcs
    exact ⟨[], .inl ⟨rfl, none, 0, rfl, Nat.zero_le _, fun _ => rfl⟩, (fun x hx => by simp at hx), .inl ⟨by simp only [Prod.mk.injEq] at hx; exact hx.1, rfl⟩⟩
  · simp [Value.cells] at hcs
    obtain ⟨rfl, rfl, rfl⟩ := hcs
    simp only [Value.okWide, Tryz.underlying25, Cell.okWide, Cell.ok] at hv
    obtain ⟨_, _, _, hspot, row, cells', hsh, _⟩ := hv
    have hblk : a.block < W.heap.size := by
      rcases Nat.lt_or_ge a.block W.heap.size with h | h
      · exact h
      · simp [World.shape?, Array.getElem?_eq_none h] at hsh
    obtain ⟨b, off, spot⟩ := a
    simp only at hspot hblk
    subst hspot
    have each : ∀ i, i < len → ∃ x : Lb, W.rangeAt b (off + i * 21) (enc x) ∧ Byt x.h := by
      intro i hi
      have h1 := hat i hi
      rw [List.getElem?_eq_getElem (by omega), cLabel] at h1
      obtain ⟨cs, hc, ht⟩ := Option.bind_eq_some_iff.1 h1
      obtain ⟨x, rfl, hxb⟩ := open_one ht
      refine ⟨x, fun j u hu => ?_, hxb⟩
      have hj : j < 21 := by have := (List.getElem?_eq_some_iff.1 hu).1; rwa [enc_len] at this
      have h2 := World.cells?_some hc
      have h3 := h2.2.2 j hj
      rw [Addr.add_mid, Addr.add_mid] at h3
      rw [h3]
      exact hu
    have pick : ∃ f : Nat → Lb, ∀ i, i < len → W.rangeAt b (off + i * 21) (enc (f i)) ∧ Byt (f i).h := by
      refine ⟨fun i => if h : i < len then (each i h).choose else default, fun i hi => ?_⟩
      simp only [dif_pos hi]
      exact (each i hi).choose_spec
    obtain ⟨f, hf'⟩ := pick
    have hll : ((List.range len).map f).length = len := by simp
    refine ⟨(List.range len).map f, .inr ⟨b, off, cap, by rw [hll], by omega, hcm, hblk, fun i x hx => ?_⟩, fun x hx => ?_, ?_⟩
    · have hi : i < len := by have := (List.getElem?_eq_some_iff.1 hx).1; rwa [hll] at this
      have : x = f i := by simp [hi] at hx; exact hx.symm
      rw [this]
      exact (hf' i hi).1
    · obtain ⟨i, hi, rfl⟩ := List.mem_map.1 hx
      exact (hf' i (by simpa using hi)).2
    · simp only [Prod.mk.injEq] at hx
      exact .inr ⟨_, _, hx.1, by rw [List.length_map, hel, hll]⟩
theorem bytesL : Tryz.prog.bytesOf 30 = 40 := by kernel_rfl
theorem wf_i64 {z : Int} (h : (Lit.int .i64 z).wf = true) : -9223372036854775808 ≤ z ∧ z ≤ 9223372036854775807 := by
  simp [Lit.wf, IntKind.min, IntKind.max, IntKind.signed, IntKind.bits] at h
  omega
theorem len_le {H : Type} {ts : List TypeId} {ds : List (DataW H)} (h : (DataW.weightsEach Tryz.prog ts ds).all (· ≤ reachBytes) = true) {j : Nat} {d : DataW H} {l : List Nat} (ht : ts[j]? = some 22) (hd : ds[j]? = some d) (hl : (d = .nil ∧ l = []) ∨ ∃ es sp, d = .slice es sp ∧ es.length = l.length) : l.length ≤ 140737488351232 := by
  rcases hl with ⟨_, rfl⟩ | ⟨es, sp, rfl, hlen⟩
  · simp
  · have h1 := sized_slice h ht hd Tryz.underlying22
    have h2 : reachBytes = 140737488351232 := by decide
    rw [show Tryz.prog.bytesOf 5 = 1 by kernel_rfl] at h1
    omega
theorem open_byl {H : Type} {enc : TypeId × Value → H} {W : World} {base : Nat} {v : Value} {d : DataW H} {p : List MemPlace} (hv : Value.okWide Tryz.prog W .any base 22 v) (h : DataW.Trod enc Tryz.prog W 0 (fun _ => true) true 22 v d p) :
    ∃ l : List Nat, Byl v l W ∧ Byt l ∧ ((d = .nil ∧ l = []) ∨ ∃ es sp, d = .slice es sp ∧ es.length = l.length) := by
  obtain ⟨a0, len, cap, rfl⟩ := okWide_slice Tryz.underlying22 hv
  obtain ⟨fuel, hf⟩ := h
  rcases open_ints Tryz.underlying22 Tryz.underlying5 cells5 hf with ⟨hcs, hx⟩ | ⟨a, len', cap', zs, hcs, _, hl, hm, hz, hx, hcell, hwz⟩
  · simp [Value.cells] at hcs
    obtain ⟨rfl, rfl, rfl⟩ := hcs
    simp only [Prod.mk.injEq] at hx
    exact ⟨[], .inl ⟨rfl, rfl⟩, (fun x hx => by cases hx), .inl ⟨hx.1, rfl⟩⟩
  · simp [Value.cells] at hcs
    obtain ⟨rfl, rfl, rfl⟩ := hcs
    simp only [Value.okWide, Tryz.underlying22, Cell.okWide, Cell.ok] at hv
    obtain ⟨_, _, _, hspot, row, cells, hsh, _⟩ := hv
    have hblk : a.block < W.heap.size := by
      rcases Nat.lt_or_ge a.block W.heap.size with h | h
      · exact h
      · simp [World.shape?, Array.getElem?_eq_none h] at hsh
    obtain ⟨b, off, spot⟩ := a
    simp only at hspot hblk
    subst hspot
    simp only [if_true] at hz
    have hw : ∀ z ∈ zs, 0 ≤ z ∧ z < 256 := fun z hz => wf_byte (hwz z hz)
    have hll : ((zs.take len).map Int.toNat).length = len := by rw [List.length_map, List.length_take]; omega
    refine ⟨(zs.take len).map Int.toNat, .inr ⟨b, off, cap, by rw [hll], by omega, hm, hblk, fun j hj => ?_⟩, ?_, .inr ?_⟩
    · rw [hll] at hj
      have hj2 : j < zs.length := by omega
      have h1 := hcell j hj2
      rw [Go.WideShapes.add_plain] at h1
      rw [h1]
      have h2 : zs.getD j 0 = zs[j] := by simp [List.getD, hj2]
      have h3 : ((zs.take len).map Int.toNat).getD j 0 = zs[j].toNat := by
        simp [List.getD, hj, hj2]
      rw [h2, h3, Int.toNat_of_nonneg (hw _ (List.getElem_mem hj2)).1]
    · intro x hx
      obtain ⟨z, hz, rfl⟩ := List.mem_map.1 hx
      have := hw z (List.mem_of_mem_take hz)
      omega
    · simp only [Prod.mk.injEq] at hx
      refine ⟨_, _, hx.1, ?_⟩
      rw [hll]
      simp [lits]
      omega
theorem gTH : Tryz.prog.globalNamed "graft/graftref1.tableH" = some 0 := by kernel_rfl
theorem tTH : (Tryz.prog.globals[0]?).map (·.type) = some 53 := by kernel_rfl
theorem gTK : Tryz.prog.globalNamed "graft/graftref1.tableK" = some 1 := by kernel_rfl
theorem tTK : (Tryz.prog.globals[1]?).map (·.type) = some 56 := by kernel_rfl
def laid10 : List (String × DataW Unit) := [("graft/graftref1.tableK", Rows.laid_graft_graftref1_tableK), ("graft/graftref1.tableH", Rows.laid_graft_graftref1_tableH), ("math/bits.deBruijn32tab", Rows.laid_math_bits_deBruijn32tab), ("math/bits.deBruijn64tab", Rows.laid_math_bits_deBruijn64tab), ("internal/strconv.uint64pow10", Rows.laid_internal_strconv_uint64pow10), ("graft/digest.digits16", Rows.laid_graft_digest_digits16), ("graft/digest.digits32", Rows.laid_graft_digest_digits32), ("graft/digest.startState", Rows.laid_graft_digest_startState), ("graft/digest.roundConstants", Rows.laid_graft_digest_roundConstants), ("graft/label.kinds", Rows.laid_graft_label_kinds)]
theorem tabs10 {W : World} (h : laidMetH Tryz.prog laid10 W) : (Lib.TabIs Tryz.prog W "graft/graftref1.tableK" .u32 (zs Sha.roundN) ∧ Lib.TabIs Tryz.prog W "graft/graftref1.tableH" .u32 (zs Sha.startN)) ∧ (Lib.TabIs Tryz.prog W "graft/digest.digits16" .u8 (zs D16) ∧ Lib.TabIs Tryz.prog W "graft/digest.digits32" .u8 (zs D32)) ∧ (Lib.TabIs Tryz.prog W "graft/digest.startState" .u32 (zs Sha.startN) ∧ Lib.TabIs Tryz.prog W "graft/digest.roundConstants" .u32 (zs Sha.roundN)) ∧ ∃ cs : Array Value, W.var? Tryz.prog "graft/label.kinds" = some cs ∧
    (cs[2]? = some (.string ⟨#[116, 101, 120, 116]⟩) ∧ cs[3]? = some (.int .i64 1)) ∧ (cs[4]? = some (.string ⟨#[115, 111, 117, 114, 99, 101]⟩) ∧ cs[5]? = some (.int .i64 3)) ∧ (cs[6]? = some (.string ⟨#[111, 117, 116, 112, 117, 116]⟩) ∧ cs[7]? = some (.int .i64 4)) ∧ (cs[8]? = some (.string ⟨#[109, 101, 109, 98, 101, 114]⟩) ∧ cs[9]? = some (.int .i64 8)) := by
  rw [MakeChecks.laidMetH_plain _ _ _ (by kernel_rfl)] at h
  obtain ⟨ps, ⟨a0, b0, cs0, f0, p0, q0, hg0, ht0, hv0, hd0, ⟨a1, b1, cs1, f1, p1, q1, hg1, ht1, hv1, hd1, ⟨a2, b2, cs2, f2, p2, q2, hg2, ht2, hv2, hd2, ⟨a3, b3, cs3, f3, p3, q3, hg3, ht3, hv3, hd3, ⟨a4, b4, cs4, f4, p4, q4, hg4, ht4, hv4, hd4, ⟨a5, b5, cs5, f5, p5, q5, hg5, ht5, hv5, hd5, ⟨a6, b6, cs6, f6, p6, q6, hg6, ht6, hv6, hd6, ⟨a7, b7, cs7, f7, p7, q7, hg7, ht7, hv7, hd7, ⟨a8, b8, cs8, f8, p8, q8, hg8, ht8, hv8, hd8, ⟨a9, b9, cs9, f9, p9, q9, hg9, ht9, hv9, hd9, _, _⟩, _⟩, _⟩, _⟩, _⟩, _⟩, _⟩, _⟩, _⟩, _⟩, _⟩ := h
  obtain rfl := Option.some.inj (gTK.symm.trans hg0)
  obtain rfl := Option.some.inj (tTK.symm.trans ht0)
  obtain rfl := Option.some.inj (gTH.symm.trans hg1)
  obtain rfl := Option.some.inj (tTH.symm.trans ht1)
  obtain rfl := Option.some.inj (gD16.symm.trans hg5)
  obtain rfl := Option.some.inj (tD16.symm.trans ht5)
  obtain rfl := Option.some.inj (gD32.symm.trans hg6)
  obtain rfl := Option.some.inj (tD32.symm.trans ht6)
  obtain rfl := Option.some.inj (gSt.symm.trans hg7)
  obtain rfl := Option.some.inj (tSt.symm.trans ht7)
  obtain rfl := Option.some.inj (gRc.symm.trans hg8)
  obtain rfl := Option.some.inj (tRc.symm.trans ht8)
  obtain rfl := Option.some.inj (gKi.symm.trans hg9)
  obtain rfl := Option.some.inj (tKi.symm.trans ht9)
  refine ⟨⟨?_, ?_⟩, ⟨?_, ?_⟩, ⟨?_, ?_⟩, ?_⟩
  · unfold Lib.TabIs
    rw [hv0, ← Lib.cells_of_tab Tryz.underlying56 Tryz.underlying52 cu32 cW64 hd0]
  · unfold Lib.TabIs
    rw [hv1, ← Lib.cells_of_tab Tryz.underlying53 Tryz.underlying52 cu32 cW8 hd1]
  · unfold Lib.TabIs
    rw [hv5, ← Lib.cells_of_tab Tryz.underlying58 Tryz.underlying5 cells5 cA16 hd5]
  · unfold Lib.TabIs
    rw [hv6, ← Lib.cells_of_tab Tryz.underlying23 Tryz.underlying5 cells5 cA32 hd6]
  · unfold Lib.TabIs
    rw [hv7, ← Lib.cells_of_tab Tryz.underlying53 Tryz.underlying52 cu32 cW8 hd7]
  · unfold Lib.TabIs
    rw [hv8, ← Lib.cells_of_tab Tryz.underlying56 Tryz.underlying52 cu32 cW64 hd8]
  · have k1 := kind_at hd9 1 (by omega) [116, 101, 120, 116] 1 rfl
    have k2 := kind_at hd9 2 (by omega) [115, 111, 117, 114, 99, 101] 3 rfl
    have k3 := kind_at hd9 3 (by omega) [111, 117, 116, 112, 117, 116] 4 rfl
    have k4 := kind_at hd9 4 (by omega) [109, 101, 109, 98, 101, 114] 8 rfl
    exact ⟨_, hv9, by simpa using k1, by simpa using k2, by simpa using k3, by simpa using k4⟩
theorem row_of_tab {W : World} {name : String} {g : Nat} {l : List Nat} (hg : Tryz.prog.globalNamed name = some g) (h : Lib.TabIs Tryz.prog W name .u32 (zs l)) : ∃ t f, W.heap[g]? = some (.cells (Sha.ws l) t f) := by
  unfold Lib.TabIs World.var? at h
  rw [hg] at h
  simp only [Option.bind_some] at h
  split at h
  · rename_i cs t f hh
    refine ⟨t, f, hh.trans ?_⟩
    rw [Option.some.inj h]
    simp [zs, Sha.ws]
  · cases h
theorem tb_of_laid {W : World} (h : laidMetH Tryz.prog laid10 W) : (Tx W ∧ Sha.Tb W ∧ Tk W) ∧ Sha.Tr W := by
  obtain ⟨⟨ha, hb⟩, ⟨h16, h32⟩, ⟨hc, hd⟩, cs, hv, ⟨k2, k3⟩, ⟨k4, k5⟩, ⟨k6, k7⟩, ⟨k8, k9⟩⟩ := tabs10 h
  have A16 : ∀ j, j < 16 → W.cell? ⟨2, j, none⟩ = some (.int .u8 ((g16 j : Nat) : Int)) := fun j hj => by have := h16.cell gD16 j hj; rw [zs_getD] at this; exact this
  have A32 : ∀ j, j < 32 → W.cell? ⟨6, j, none⟩ = some (.int .u8 ((g32 j : Nat) : Int)) := fun j hj => by have := h32.cell gD32 j hj; rw [zs_getD] at this; exact this
  have B : ∀ j, j < 8 → W.cell? ⟨4, j, none⟩ = some (.int .u32 ((Sha.startN.getD j 0 : Nat) : Int)) := fun j hj => by have := hc.cell gSt j hj; rw [zs_getD] at this; exact this
  have C : ∀ j, j < 64 → W.cell? ⟨5, j, none⟩ = some (.int .u32 ((Sha.roundN.getD j 0 : Nat) : Int)) := fun j hj => by have := hd.cell gRc j hj; rw [zs_getD] at this; exact this
  have hz : 6 < W.heap.size := by
    have h2 := A32 0 (by decide)
    rcases Nat.lt_or_ge 6 W.heap.size with h | h
    · exact h
    · simp [World.cell?, Array.getElem?_eq_none h] at h2
  obtain ⟨t, f, hr⟩ : ∃ t f, W.heap[3]? = some (.cells cs t f) := by
    unfold World.var? at hv
    rw [gKi] at hv
    simp only [Option.bind_some] at hv
    split at hv
    · rename_i cs' t f hh
      exact ⟨t, f, by rw [hh, Option.some.inj hv]⟩
    · cases hv
  exact ⟨⟨⟨by omega, A16, A32⟩, ⟨hz, B, C⟩, ⟨by omega, by simp [World.cell?, hr, k2], by simp [World.cell?, hr, k3], by simp [World.cell?, hr, k4], by simp [World.cell?, hr, k5], by simp [World.cell?, hr, k6], by simp [World.cell?, hr, k7], by simp [World.cell?, hr, k8], by simp [World.cell?, hr, k9]⟩⟩, row_of_tab gTH hb, row_of_tab gTK ha⟩
/-- A world for the witness. -/
noncomputable def laidWorld (os : Go.Os) : World :=
  { World.holding Tryz.prog os ⟨#[], #[], []⟩ with heap := ((((((((((World.holding Tryz.prog os ⟨#[], #[], []⟩).heap.modify 0 (laidC ((zs Sha.startN).map (Value.int .u32)))).modify 1 (laidC ((zs Sha.roundN).map (Value.int .u32)))).modify 3 (laidC kindsC)).modify 2 (laidC ((zs D16).map (Value.int .u8)))).modify 6 (laidC ((zs D32).map (Value.int .u8)))).modify 4 (laidC ((zs Sha.startN).map (Value.int .u32)))).modify 5 (laidC ((zs Sha.roundN).map (Value.int .u32)))).modify 8 (laidC (p10.map (Value.int .u64)))).modify 9 (laidC (db32.map (Value.int .u8)))).modify 10 (laidC (db64.map (Value.int .u8))) }
theorem one_le {H : Type} (d : DataW H) : 1 ≤ Rows.uptoBulk d := by
  cases d with
  | lit l => cases l <;> simp [Rows.uptoBulk]
  | _ => simp [Rows.uptoBulk]
theorem length_le {H : Type} : ∀ l : List (DataW H), l.length ≤ Rows.uptoBulkAll l
  | [] => by simp [Rows.uptoBulkAll]
  | x :: r => by have h1 := one_le x; have h2 := length_le r; simp only [Rows.uptoBulkAll, List.length_cons]; omega
theorem part_le {H : Type} {d : DataW H} : ∀ {l : List (DataW H)}, d ∈ l → Rows.uptoBulk d ≤ Rows.uptoBulkAll l
  | x :: r, h => by
    simp only [Rows.uptoBulkAll]
    rcases List.mem_cons.1 h with e | e
    · subst e; omega
    · have := part_le e; omega
section
variable {H : Type} {enc : TypeId × Value → H} {P : Program} {w : World} {base : Nat} {spare : Nat → Bool} {held : Bool}
theorem trodAll_seven {t0 t1 t2 t3 t4 t5 t6 : TypeId} {args : Array Value} {ds : List (DataW H)} {ps : List MemPlace} (h : DataW.TrodAll enc P w base spare held [t0, t1, t2, t3, t4, t5, t6] args.toList ds ps) :
    ∃ v0 v1 v2 v3 v4 v5 v6 d0 d1 d2 d3 d4 d5 d6 p0 p1 p2 p3 p4 p5 p6, args = #[v0, v1, v2, v3, v4, v5, v6] ∧ ds = [d0, d1, d2, d3, d4, d5, d6] ∧ ps = p0 ++ (p1 ++ (p2 ++ (p3 ++ (p4 ++ (p5 ++ p6))))) ∧ DataW.Trod enc P w base spare held t0 v0 d0 p0 ∧ DataW.Trod enc P w base spare held t1 v1 d1 p1 ∧ DataW.Trod enc P w base spare held t2 v2 d2 p2 ∧ DataW.Trod enc P w base spare held t3 v3 d3 p3 ∧ DataW.Trod enc P w base spare held t4 v4 d4 p4 ∧ DataW.Trod enc P w base spare held t5 v5 d5 p5 ∧ DataW.Trod enc P w base spare held t6 v6 d6 p6 := by
  obtain ⟨v0, r0, d0, e0, p0, q0, hargs, rfl, rfl, h0, k0⟩ := trodAll_cons h
  obtain ⟨v1, r1, d1, e1, p1, q1, rfl, rfl, rfl, h1, k1⟩ := trodAll_cons k0
  obtain ⟨v2, r2, d2, e2, p2, q2, rfl, rfl, rfl, h2, k2⟩ := trodAll_cons k1
  obtain ⟨v3, r3, d3, e3, p3, q3, rfl, rfl, rfl, h3, k3⟩ := trodAll_cons k2
  obtain ⟨v4, r4, d4, e4, p4, q4, rfl, rfl, rfl, h4, k4⟩ := trodAll_cons k3
  obtain ⟨v5, r5, d5, e5, p5, q5, rfl, rfl, rfl, h5, k5⟩ := trodAll_cons k4
  obtain ⟨v6, r6, d6, e6, p6, q6, rfl, rfl, rfl, h6, k6⟩ := trodAll_cons k5
  obtain ⟨rfl, rfl, rfl⟩ := trodAll_nil k6
  exact ⟨v0, v1, v2, v3, v4, v5, v6, d0, d1, d2, d3, d4, d5, d6, p0, p1, p2, p3, p4, p5, p6, by cases args; simp_all, rfl, by simp, h0, h1, h2, h3, h4, h5, h6⟩
end
end Go.Proofs.YteajpimonenopaaGreatDoor.DLm
