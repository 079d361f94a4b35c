/- Compare: the code's and the document's. -/
import Derived.Test.YtceclpabdfncoaaDoorLab
import Derived.Laws.Externs
namespace Go.Proofs.YtceclpabdfncoaaDoor
open Go.RowKit
set_option maxRecDepth 100000 in
theorem cmp_zero : ∀ a b : List UInt8, Lib.compareBytes a b = 0 → a = b
  | [], [], _ => rfl
  | [], _ :: _, h => by simp [Lib.compareBytes] at h
  | _ :: _, [], h => by simp [Lib.compareBytes] at h
  | x :: a, y :: b, h => by
    unfold Lib.compareBytes at h
    by_cases h1 : x < y
    · simp [h1] at h
    · by_cases h2 : y < x
      · simp [h1, h2] at h
      · have he : x = y := UInt8.le_antisymm (UInt8.not_lt.1 h2) (UInt8.not_lt.1 h1)
        subst he
        simp only [h1, if_false] at h
        rw [cmp_zero a b h]
/-- Two labels' equality, kept shut. -/
def eqR (x y : Value) : Sem Bool := Op.equalIn 10000 64 x y
set_option maxRecDepth 100000 in
theorem toEq (x y : Value) : Op.equalIn 10000 64 x y = eqR x y := rfl
set_option maxRecDepth 100000 in
theorem run_eqR (w : World) (h k : List Nat) (s t : ByteArray) (hl : h.length = 20) (kl : k.length = 20) : (eqR (.agg (lab h s)) (.agg (lab k t))).run Tryd.prog w = .ok (decide (h = k ∧ s = t)) w := run_eq25 w h k s t hl kl
/-- Loads of whole rows, kept shut. -/
def loadR (ty : Nat) (v : Value) : Sem Value := Instr.loadAt ty v
set_option maxRecDepth 100000 in
theorem to25l (v : Value) : Instr.loadAt 64 v = loadR 64 v := rfl
set_option maxRecDepth 100000 in
theorem to23l (v : Value) : Instr.loadAt 27 v = loadR 27 v := rfl
set_option maxRecDepth 100000 in
theorem run_loadR25 (w : World) (g : Nat) (h : List Nat) (s : ByteArray) (hg : w.heap[g]? = some (.cells (lab h s) 64 (0, 0))) (hl : h.length = 20) : (loadR 64 (.pointer (some ⟨g, 0, none⟩))).run Tryd.prog w = .ok (.agg (lab h s)) w := by
  unfold loadR
  simp only [Instr.loadAt, Instr.sureAddr, Sem.run_bind, Sem.run_pure, Result.andThen_ok, run_loadVar_row w g 64 64 (lab h s) (0, 0) _ hg under25 rfl (by rw [size25, lab_size h s hl])]
set_option maxRecDepth 100000 in
theorem run_loadR23 (w : World) (g : Nat) (h : List Nat) (s : ByteArray) (hg : w.heap[g]? = some (.cells (lab h s) 64 (0, 0))) (hl : h.length = 20) : (loadR 27 (.pointer (some ⟨g, 0, none⟩))).run Tryd.prog w = .ok (.agg (bs h)) w :=
  run_loadAt_mid w g 0 27 (h.map fun (b : Nat) => Value.int .u8 (b : Int)) _ (fun j v hv => by
    have hj : j < h.length := by have := (List.getElem?_eq_some_iff.1 hv).1; simpa using this
    rw [Nat.zero_add, cell_of_row w _ _ _ _ _ hg, lab_get h s hl j (by omega)]
    simp [hj] at hv
    rw [← hv]
    simp [List.getD, hj]) Tryd.underlying27 rfl (by rw [size23, List.length_map, hl])
set_option maxRecDepth 100000 in
set_option maxHeartbeats 1000000 in
theorem cmpS_any (s t : ByteArray) (w : World) :
    Calls Tryd.prog 36 #[.string s, .string t] w fun e w' => e = .returned (.int .i64 (Lib.compareBytes s.data.toList t.data.toList)) ∧ w' = w := by
  go_enter Tryd.func36, Tryd.ntmps36
  go_wp2
  rw [run_callFunc_extern Tryd.func53 (by kernel_rfl) (by kernel_rfl) (by kernel_rfl) (e := Extern.BytealgCompare.compare) (by kernel_rfl), Lib.run_compareString]
  simp only [Result.andThen]
  rw [Oper.upon_value]
  go_wp2
  go_ret
  exact ⟨rfl, rfl⟩
set_option maxRecDepth 100000 in
theorem cmpT_any (s t : ByteArray) (w : World) :
    Calls Tryd.prog 22 #[.string s, .string t] w fun e w' => e = .returned (.int .i64 (Lib.compareBytes s.data.toList t.data.toList)) ∧ w' = w := by
  go_enter Tryd.func22, Tryd.ntmps22
  go_wp2_with (go_at_call 36; refine (cmpS_any _ _ _).mono ?_; rintro e w' ⟨rfl, rfl⟩)
  go_ret
  exact ⟨rfl, rfl⟩
attribute [local go_sem ↓] to25l to23l toEq
end Go.Proofs.YtceclpabdfncoaaDoor
