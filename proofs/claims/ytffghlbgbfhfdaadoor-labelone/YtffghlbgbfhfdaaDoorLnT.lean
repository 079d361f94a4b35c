/- Fingers that are handed in; the tables. -/
import Derived.Test.YtffghlbgbfhfdaaDoorLnX
import Derived.Test.YtffghlbgbfhfdaaDoorCards
import Derived.Test.YtffghlbgbfhfdaaDoorTie
import Derived.Deep.DeepHandedRow
import Derived.Lib.LaidTab
import Derived.SliceStrings
import Derived.OpenShut
import Derived.Carry
import Derived.JoinedCond
import Derived.Deep.Slices
namespace Go.Proofs.YtffghlbgbfhfdaaDoor.DLn
open Go.ChangeShapes Go.WideShapes Go.ChangeAt Go.RowKit
open Go.ChangeMaps (open_string shut_string)
set_option maxRecDepth 100000
theorem own : ownKnob Tryd.prog.godebug = none := by kernel_rfl
def zs (l : List Nat) : List Int := l.map (fun (x : Nat) => (x : Int))
theorem gD16 : Tryd.prog.globalNamed "graft/digest.digits16" = some 1 := by kernel_rfl
theorem tD16 : (Tryd.prog.globals[1]?).map (·.type) = some 64 := by kernel_rfl
theorem gD32 : Tryd.prog.globalNamed "graft/digest.digits32" = some 2 := by kernel_rfl
theorem tD32 : (Tryd.prog.globals[2]?).map (·.type) = some 23 := by kernel_rfl
theorem gPw : Tryd.prog.globalNamed "internal/strconv.uint64pow10" = some 4 := by kernel_rfl
theorem gKi : Tryd.prog.globalNamed "graft/label.kinds" = some 0 := by kernel_rfl
theorem tKi : (Tryd.prog.globals[0]?).map (·.type) = some 48 := by kernel_rfl
theorem cA16 : Tryd.prog.cellsOf 64 = 16 := by kernel_rfl
theorem cA32 : Tryd.prog.cellsOf 23 = 32 := by kernel_rfl
theorem ckind : Tryd.prog.cellsOf 47 = 2 := by kernel_rfl
theorem cK5 : Tryd.prog.cellsOf 48 = 10 := by kernel_rfl
theorem cells9 : Tryd.prog.cellsOf 9 = 1 := by kernel_rfl
theorem cells3 : Tryd.prog.cellsOf 3 = 1 := by kernel_rfl
theorem cells4 : Tryd.prog.cellsOf 4 = 1 := by kernel_rfl
theorem cHash : Tryd.prog.cellsOf 58 = 20 := by kernel_rfl
theorem cLabel : Tryd.prog.cellsOf 60 = 21 := by kernel_rfl
theorem cSum : Tryd.prog.cellsOf 24 = 32 := by kernel_rfl
theorem cLabels : Tryd.prog.cellsOf 22 = 1 := by kernel_rfl
theorem cFinger : Tryd.prog.cellsOf 26 = 38 := by kernel_rfl
/-- A kind's cells. -/
theorem kind_at {H : Type} {enc : TypeId × Value → H} {w : World} {base : Nat} {sp : Nat → Bool} {held : Bool} {fuel : Nat} {cs : List Value} {p : List MemPlace}
    (h : DataW.trod enc Tryd.prog w base sp held fuel 48 cs = some (Rows.laid_graft_label_kinds, p)) (j : Nat) (hj : j < 5) (s : List UInt8) (u : Int)
    (hd : (match (Rows.laid_graft_label_kinds : DataW H) with | .agg l => l | _ => [])[j]? = some (.agg [.lit (.string s), .lit (.int .i64 u)])) : cs[2 * j]? = some (.string ⟨s.toArray⟩) ∧ cs[2 * j + 1]? = some (.int .i64 u) := by
  cases fuel with
  | zero => simp [DataW.trod] at h
  | succ fuel =>
    simp only [DataW.trod, Tryd.underlying48, ckind, cK5] at h
    split at h
    · rename_i hl
      obtain ⟨xs, hm, hx⟩ := Option.map_eq_some_iff.1 h
      have hxs := congrArg Prod.fst hx
      simp only at hxs
      obtain ⟨b, hb, hf⟩ := Lib.mapM_at hm j j (by simp [hj])
      have h3 : (xs.map (·.1))[j]? = some b.1 := by simp [hb]
      rw [← hxs] at hd
      simp only at hd
      rw [hd] at h3
      obtain ⟨y0, y1, k, hy, hyl, h0, h1⟩ := trod_struct2 Tryd.underlying47 hf
      simp only [] at h0 h1
      rw [cells9] at h0
      rw [cells3] at h1
      obtain ⟨s', s1, s2, s3⟩ := DataW.trod_string Tryd.underlying9 h0
      obtain ⟨m, m1, m2, m3⟩ := DataW.trod_int Tryd.underlying3 h1
      have h3 := Option.some.inj h3
      rw [hy, s2, m2] at h3
      simp only [DataW.agg.injEq, List.cons.injEq, DataW.lit.injEq, Lit.string.injEq, Lit.int.injEq, true_and, and_true] at h3
      obtain ⟨q1, q2⟩ := h3
      have e6 : cs[2 * j]? = some (.string s') := by
        have := congrArg (·[0]?) s1
        simp only [List.getElem?_take, List.getElem?_drop, List.getElem?_cons_zero] at this
        simp at this
        rw [← this]
        congr 1
        omega
      have e7 : cs[2 * j + 1]? = some (.int .i64 m) := by
        have := congrArg (·[0]?) m1
        simp only [List.getElem?_take, List.getElem?_drop, List.getElem?_cons_zero] at this
        simp at this
        rw [← this]
        congr 1
        omega
      refine ⟨e6.trans ?_, e7.trans ?_⟩
      · congr 2
        apply ByteArray.ext
        apply Array.toList_inj.1
        simpa using q1.symm
      · rw [← q2]
    · cases h
end Go.Proofs.YtffghlbgbfhfdaaDoor.DLn
