/- Several texts in one: LhT, LhV. -/
import Derived.Test.YtffghlbgbfhfdaaGreatDoorLhX
import Derived.Test.YtffghlbgbfhfdaaGreatDoorCards
import Derived.Test.YtffghlbgbfhfdaaGreatDoorTie
import Derived.Deep.DeepHandedRow
import Derived.Lib.LaidTab
import Derived.SliceStrings
import Derived.OpenShut
import Derived.Carry
import Derived.JoinedCond
import Derived.Deep.Slices
/- Fingers that are handed in; the tables. -/
namespace Go.Proofs.YtffghlbgbfhfdaaGreatDoor.DLh
open Go.ChangeShapes Go.WideShapes Go.ChangeAt Go.RowKit
open Go.ChangeMaps (open_string shut_string)
set_option maxRecDepth 100000
theorem own : ownKnob Tryz.prog.godebug = none := by kernel_rfl
def zs (l : List Nat) : List Int := l.map (fun (x : Nat) => (x : Int))
theorem gD16 : Tryz.prog.globalNamed "graft/digest.digits16" = some 1 := by kernel_rfl
theorem tD16 : (Tryz.prog.globals[1]?).map (·.type) = some 83 := by kernel_rfl
theorem gD32 : Tryz.prog.globalNamed "graft/digest.digits32" = some 3 := by kernel_rfl
theorem tD32 : (Tryz.prog.globals[3]?).map (·.type) = some 23 := by kernel_rfl
theorem gPw : Tryz.prog.globalNamed "internal/strconv.uint64pow10" = some 6 := by kernel_rfl
theorem gKi : Tryz.prog.globalNamed "graft/label.kinds" = some 0 := by kernel_rfl
theorem gEr : Tryz.prog.globalNamed "strconv.ErrRange" = some 5 := by kernel_rfl
theorem tEr : (Tryz.prog.globals[5]?).map (·.type) = some 71 := by kernel_rfl
theorem gEs : Tryz.prog.globalNamed "strconv.ErrSyntax" = some 4 := by kernel_rfl
theorem tEs : (Tryz.prog.globals[4]?).map (·.type) = some 71 := by kernel_rfl
theorem gB6 : Tryz.prog.globalNamed "math/bits.deBruijn64tab" = some 8 := by kernel_rfl
theorem tKi : (Tryz.prog.globals[0]?).map (·.type) = some 68 := by kernel_rfl
theorem cA16 : Tryz.prog.cellsOf 83 = 16 := by kernel_rfl
theorem cA32 : Tryz.prog.cellsOf 23 = 32 := by kernel_rfl
theorem ckind : Tryz.prog.cellsOf 67 = 2 := by kernel_rfl
theorem cK5 : Tryz.prog.cellsOf 68 = 10 := by kernel_rfl
theorem cells9 : Tryz.prog.cellsOf 9 = 1 := by kernel_rfl
theorem cells3 : Tryz.prog.cellsOf 3 = 1 := by kernel_rfl
theorem cells4 : Tryz.prog.cellsOf 4 = 1 := by kernel_rfl
theorem cHash : Tryz.prog.cellsOf 49 = 20 := by kernel_rfl
theorem cLabel : Tryz.prog.cellsOf 51 = 21 := by kernel_rfl
theorem cSum : Tryz.prog.cellsOf 24 = 32 := by kernel_rfl
theorem cLabels : Tryz.prog.cellsOf 22 = 1 := by kernel_rfl
theorem cFinger : Tryz.prog.cellsOf 26 = 38 := by kernel_rfl
/-- A kind's cells. -/
theorem kind_at {H : Type} {enc : TypeId × Value → H} {w : World} {base : Nat} {sp : Nat → Bool} {held : Bool} {fuel : Nat} {cs : List Value} {p : List MemPlace}
    (h : DataW.trod enc Tryz.prog w base sp held fuel 68 cs = some (Rows.laid_graft_label_kinds, p)) (j : Nat) (hj : j < 5) (s : List UInt8) (u : Int)
    (hd : (match (Rows.laid_graft_label_kinds : DataW H) with | .agg l => l | _ => [])[j]? = some (.agg [.lit (.string s), .lit (.int .i64 u)])) : cs[2 * j]? = some (.string ⟨s.toArray⟩) ∧ cs[2 * j + 1]? = some (.int .i64 u) := by
  cases fuel with
  | zero => simp [DataW.trod] at h
  | succ fuel =>
    simp only [DataW.trod, Tryz.underlying68, ckind, cK5] at h
    split at h
    · rename_i hl
      obtain ⟨xs, hm, hx⟩ := Option.map_eq_some_iff.1 h
      have hxs := congrArg Prod.fst hx
      simp only at hxs
      obtain ⟨b, hb, hf⟩ := Lib.mapM_at hm j j (by simp [hj])
      have h3 : (xs.map (·.1))[j]? = some b.1 := by simp [hb]
      rw [← hxs] at hd
      simp only at hd
      rw [hd] at h3
      obtain ⟨y0, y1, k, hy, hyl, h0, h1⟩ := trod_struct2 Tryz.underlying67 hf
      simp only [] at h0 h1
      rw [cells9] at h0
      rw [cells3] at h1
      obtain ⟨s', s1, s2, s3⟩ := DataW.trod_string Tryz.underlying9 h0
      obtain ⟨m, m1, m2, m3⟩ := DataW.trod_int Tryz.underlying3 h1
      have h3 := Option.some.inj h3
      rw [hy, s2, m2] at h3
      simp only [DataW.agg.injEq, List.cons.injEq, DataW.lit.injEq, Lit.string.injEq, Lit.int.injEq, true_and, and_true] at h3
      obtain ⟨q1, q2⟩ := h3
      have e6 : cs[2 * j]? = some (.string s') := by
        have := congrArg (·[0]?) s1
        simp only [List.getElem?_take, List.getElem?_drop, List.getElem?_cons_zero] at this
        simp at this
        rw [← this]
        congr 1
        omega
      have e7 : cs[2 * j + 1]? = some (.int .i64 m) := by
        have := congrArg (·[0]?) m1
        simp only [List.getElem?_take, List.getElem?_drop, List.getElem?_cons_zero] at this
        simp at this
        rw [← this]
        congr 1
        omega
      refine ⟨e6.trans ?_, e7.trans ?_⟩
      · congr 2
        apply ByteArray.ext
        apply Array.toList_inj.1
        simpa using q1.symm
      · rw [← q2]
    · cases h
end Go.Proofs.YtffghlbgbfhfdaaGreatDoor.DLh

/- LabelHears: the tables. -/
namespace Go.Proofs.YtffghlbgbfhfdaaGreatDoor.DLh
open Go.ChangeShapes Go.WideShapes Go.ChangeAt Go.RowKit
open Go.ChangeMaps (open_string shut_string)
set_option maxRecDepth 100000
theorem zs_getD (l : List Nat) (j : Nat) : (zs l).getD j 0 = ((l.getD j 0 : Nat) : Int) := by
  by_cases h : j < l.length
  · simp [zs, List.getD, h]
  · simp [zs, List.getD, h]
def laid8 : List (String × DataW Unit) := [("math/bits.deBruijn32tab", Rows.laid_math_bits_deBruijn32tab), ("math/bits.deBruijn64tab", Rows.laid_math_bits_deBruijn64tab), ("internal/strconv.uint64pow10", Rows.laid_internal_strconv_uint64pow10), ("strconv.ErrRange", Rows.laid_strconv_ErrRange), ("strconv.ErrSyntax", Rows.laid_strconv_ErrSyntax), ("graft/digest.digits16", Rows.laid_graft_digest_digits16), ("graft/digest.digits32", Rows.laid_graft_digest_digits32), ("graft/label.kinds", Rows.laid_graft_label_kinds)]
theorem open_err {H : Type} {enc : TypeId × Value → H} {w : World} {base : Nat} {sp : Nat → Bool} {held : Bool} {fuel : Nat} {cs : List Value} {nm : String} {d : DataW H} {p : List MemPlace} (h : DataW.trod enc Tryz.prog w base sp held fuel 71 cs = some (.iface nm d, p)) : ∃ u v, cs = [.iface u v] := by
  cases fuel with
  | zero => simp [DataW.trod] at h
  | succ fuel =>
    simp only [DataW.trod, Tryz.underlying71] at h
    split at h
    all_goals first
      | (exfalso; simp_all; done)
      | exact ⟨_, _, rfl⟩
theorem tabs8 {W : World} (h : laidMetH Tryz.prog laid8 W) : (Lib.TabIs Tryz.prog W "graft/digest.digits16" .u8 (zs D16) ∧ Lib.TabIs Tryz.prog W "graft/digest.digits32" .u8 (zs D32)) ∧ ((∃ cs : Array Value, W.var? Tryz.prog "internal/strconv.uint64pow10" = some cs) ∧ (∃ cs : Array Value, W.var? Tryz.prog "math/bits.deBruijn64tab" = some cs) ∧ (∃ (cs : Array Value) (u : TypeId) (x : Value), W.var? Tryz.prog "strconv.ErrRange" = some cs ∧ cs.toList = [.iface u x]) ∧ (∃ (cs : Array Value) (u : TypeId) (x : Value), W.var? Tryz.prog "strconv.ErrSyntax" = some cs ∧ cs.toList = [.iface u x])) ∧ ∃ cs : Array Value, W.var? Tryz.prog "graft/label.kinds" = some cs ∧
    (cs[2]? = some (.string ⟨#[116, 101, 120, 116]⟩) ∧ cs[3]? = some (.int .i64 1)) ∧ (cs[4]? = some (.string ⟨#[115, 111, 117, 114, 99, 101]⟩) ∧ cs[5]? = some (.int .i64 3)) ∧ (cs[6]? = some (.string ⟨#[111, 117, 116, 112, 117, 116]⟩) ∧ cs[7]? = some (.int .i64 4)) ∧ (cs[8]? = some (.string ⟨#[109, 101, 109, 98, 101, 114]⟩) ∧ cs[9]? = some (.int .i64 8)) := by
  rw [MakeChecks.laidMetH_plain _ _ _ (by kernel_rfl)] at h
  obtain ⟨ps, ⟨a0, b0, cs0, f0, p0, q0, hg0, ht0, hv0, hd0, ⟨a1, b1, cs1, f1, p1, q1, hg1, ht1, hv1, hd1, ⟨a2, b2, cs2, f2, p2, q2, hg2, ht2, hv2, hd2, ⟨a3, b3, cs3, f3, p3, q3, hg3, ht3, hv3, hd3, ⟨a4, b4, cs4, f4, p4, q4, hg4, ht4, hv4, hd4, ⟨a5, b5, cs5, f5, p5, q5, hg5, ht5, hv5, hd5, ⟨a6, b6, cs6, f6, p6, q6, hg6, ht6, hv6, hd6, ⟨a7, b7, cs7, f7, p7, q7, hg7, ht7, hv7, hd7, _, _⟩, _⟩, _⟩, _⟩, _⟩, _⟩, _⟩, _⟩, _⟩ := h
  obtain rfl := Option.some.inj (gD16.symm.trans hg5)
  obtain rfl := Option.some.inj (tD16.symm.trans ht5)
  obtain rfl := Option.some.inj (gD32.symm.trans hg6)
  obtain rfl := Option.some.inj (tD32.symm.trans ht6)
  obtain rfl := Option.some.inj (gKi.symm.trans hg7)
  obtain rfl := Option.some.inj (tKi.symm.trans ht7)
  obtain rfl := Option.some.inj (gEr.symm.trans hg3)
  obtain rfl := Option.some.inj (tEr.symm.trans ht3)
  obtain rfl := Option.some.inj (gEs.symm.trans hg4)
  obtain rfl := Option.some.inj (tEs.symm.trans ht4)
  obtain ⟨u3, x3, e3⟩ := open_err hd3
  obtain ⟨u4, x4, e4⟩ := open_err hd4
  refine ⟨⟨?_, ?_⟩, ⟨⟨_, hv2⟩, ⟨_, hv1⟩, ⟨_, u3, x3, hv3, e3⟩, ⟨_, u4, x4, hv4, e4⟩⟩, ?_⟩
  · unfold Lib.TabIs
    rw [hv5, ← Lib.cells_of_tab Tryz.underlying83 Tryz.underlying5 cells5 cA16 hd5]
  · unfold Lib.TabIs
    rw [hv6, ← Lib.cells_of_tab Tryz.underlying23 Tryz.underlying5 cells5 cA32 hd6]
  · have k1 := kind_at hd7 1 (by omega) [116, 101, 120, 116] 1 rfl
    have k2 := kind_at hd7 2 (by omega) [115, 111, 117, 114, 99, 101] 3 rfl
    have k3 := kind_at hd7 3 (by omega) [111, 117, 116, 112, 117, 116] 4 rfl
    have k4 := kind_at hd7 4 (by omega) [109, 101, 109, 98, 101, 114] 8 rfl
    exact ⟨_, hv7, by simpa using k1, by simpa using k2, by simpa using k3, by simpa using k4⟩
theorem var_row {W : World} {n : String} {g : Nat} {cs : Array Value} (hg : Tryz.prog.globalNamed n = some g) (hv : W.var? Tryz.prog n = some cs) : ∃ t f, W.heap[g]? = some (.cells cs t f) := by
  unfold World.var? at hv
  rw [hg] at hv
  simp only [Option.bind_some] at hv
  split at hv
  · rename_i cs' t f hh
    exact ⟨t, f, by rw [hh, Option.some.inj hv]⟩
  · cases hv
theorem err_at {W : World} {n : String} {g : Nat} {cs : Array Value} {u : TypeId} {x : Value} (hg : Tryz.prog.globalNamed n = some g) (hv : W.var? Tryz.prog n = some cs) (hc : cs.toList = [.iface u x]) : ∃ te pe, W.cell? ⟨g, 0, none⟩ = some (.iface te pe) := by
  obtain ⟨t, f, hr⟩ := var_row hg hv
  refine ⟨u, x, ?_⟩
  have h0 : cs[0]? = some (.iface u x) := by rw [← Array.getElem?_toList, hc]; rfl
  simp [World.cell?, hr, h0]
theorem tb_of_laid {W : World} (h : laidMetH Tryz.prog laid8 W) : Tx W ∧ Tk W ∧ Te W ∧ 8 < W.heap.size := by
  obtain ⟨⟨h16, h32⟩, ⟨⟨cp, hp⟩, ⟨cb, hb6⟩, ⟨c3, u3, x3, hv3, e3⟩, ⟨c4, u4, x4, hv4, e4⟩⟩, cs, hv, ⟨k2, k3⟩, ⟨k4, k5⟩, ⟨k6, k7⟩, ⟨k8, k9⟩⟩ := tabs8 h
  have A16 : ∀ j, j < 16 → W.cell? ⟨1, j, none⟩ = some (.int .u8 ((g16 j : Nat) : Int)) := fun j hj => by have := h16.cell gD16 j hj; rw [zs_getD] at this; exact this
  have A32 : ∀ j, j < 32 → W.cell? ⟨3, j, none⟩ = some (.int .u8 ((g32 j : Nat) : Int)) := fun j hj => by have := h32.cell gD32 j hj; rw [zs_getD] at this; exact this
  have hz : 6 < W.heap.size := by
    unfold World.var? at hp
    rw [gPw] at hp
    simp only [Option.bind_some] at hp
    split at hp
    · rename_i cs' t f hh
      exact (Array.getElem?_eq_some_iff.1 hh).1
    · cases hp
  obtain ⟨t, f, hr⟩ : ∃ t f, W.heap[0]? = some (.cells cs t f) := by
    unfold World.var? at hv
    rw [gKi] at hv
    simp only [Option.bind_some] at hv
    split at hv
    · rename_i cs' t f hh
      exact ⟨t, f, by rw [hh, Option.some.inj hv]⟩
    · cases hv
  obtain ⟨t6, f6, hr6⟩ := var_row gB6 hb6
  have hz8 : 8 < W.heap.size := (Array.getElem?_eq_some_iff.1 hr6).1
  refine ⟨⟨by omega, A16, A32⟩, ?_, ⟨err_at gEs hv4 e4, err_at gEr hv3 e3⟩, hz8⟩
  exact ⟨by omega, by simp [World.cell?, hr, k2], by simp [World.cell?, hr, k3], by simp [World.cell?, hr, k4], by simp [World.cell?, hr, k5], by simp [World.cell?, hr, k6], by simp [World.cell?, hr, k7], by simp [World.cell?, hr, k8], by simp [World.cell?, hr, k9]⟩
/-- A block's cells, laid anew. -/
def laidC (l : List Value) : Obj → Obj
  | .cells _ t frozen => .cells l.toArray t frozen
  | o => o
def kindsC : List Value := [.string ⟨#[]⟩, .int .i64 0, .string ⟨#[116, 101, 120, 116]⟩, .int .i64 1, .string ⟨#[115, 111, 117, 114, 99, 101]⟩, .int .i64 3, .string ⟨#[111, 117, 116, 112, 117, 116]⟩, .int .i64 4, .string ⟨#[109, 101, 109, 98, 101, 114]⟩, .int .i64 8]
def db32 : List Int := [0, 1, 28, 2, 29, 14, 24, 3, 30, 22, 20, 15, 25, 17, 4, 8, 31, 27, 13, 23, 21, 19, 16, 7, 26, 12, 18, 6, 11, 5, 10, 9]
def db64 : List Int := [0, 1, 56, 2, 57, 49, 28, 3, 61, 58, 42, 50, 38, 29, 17, 4, 62, 47, 59, 36, 45, 43, 51, 22, 53, 39, 33, 30, 24, 18, 12, 5, 63, 55, 48, 27, 60, 41, 37, 16, 46, 35, 44, 21, 52, 32, 23, 11, 54, 26, 40, 15, 34, 20, 31, 10, 25, 14, 19, 9, 13, 8, 7, 6]
def p10 : List Int := [1, 10, 100, 1000, 10000, 100000, 1000000, 10000000, 100000000, 1000000000, 10000000000, 100000000000, 1000000000000, 10000000000000, 100000000000000, 1000000000000000, 10000000000000000, 100000000000000000, 1000000000000000000, 10000000000000000000]
/-- A world for the witness. -/
def erR : ByteArray := ⟨#[118, 97, 108, 117, 101, 32, 111, 117, 116, 32, 111, 102, 32, 114, 97, 110, 103, 101]⟩
def erS : ByteArray := ⟨#[105, 110, 118, 97, 108, 105, 100, 32, 115, 121, 110, 116, 97, 120]⟩
noncomputable def low : Nat := (World.holding Tryz.prog default ⟨#[], #[], []⟩).heap.size
noncomputable def laidWorld (os : Go.Os) : World :=
  { World.holding Tryz.prog os ⟨#[.cells #[.string erR] 134, .cells #[.string erS] 134], #[], []⟩ with heap := ((((((((World.holding Tryz.prog os ⟨#[.cells #[.string erR] 134, .cells #[.string erS] 134], #[], []⟩).heap.modify 0 (laidC kindsC)).modify 1 (laidC ((zs D16).map (Value.int .u8)))).modify 3 (laidC ((zs D32).map (Value.int .u8)))).modify 5 (laidC [.iface 132 (.pointer (some ⟨low, 0, none⟩))])).modify 4 (laidC [.iface 132 (.pointer (some ⟨low + 1, 0, none⟩))])).modify 6 (laidC (p10.map (Value.int .u64)))).modify 7 (laidC (db32.map (Value.int .u8)))).modify 8 (laidC (db64.map (Value.int .u8))) }
end Go.Proofs.YtffghlbgbfhfdaaGreatDoor.DLh
