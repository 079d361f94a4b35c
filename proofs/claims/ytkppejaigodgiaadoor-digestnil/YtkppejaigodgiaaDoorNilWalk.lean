import Derived.Test.YtkppejaigodgiaaDoorRows
import Derived.Test.YtkppejaigodgiaaDoorBytes
import Derived.Deep.QuietTactic
import Derived.BigQuiet
namespace Go.Proofs.YtkppejaigodgiaaDoor
open Go.RowKit
theorem size5 : (Tryd.prog.info? 5).map (·.size) = some 1 := by kernel_rfl
def z32 : List Nat := List.replicate 32 0
theorem eq28 (w : World) (a b : List Nat) (ha : a.length = 32) (hb : b.length = 32) : (Op.equalIn 10000 28 (.agg (bs a)) (.agg (bs b))).run Tryd.prog w = .ok (decide (a = b)) w :=
  run_equalIn_bs w 9998 Tryd.underlying28 Tryd.underlying5 size5 a b ha hb
def z43 : Array Value := (List.replicate 8 (Value.int .u32 0) ++ (List.replicate 64 (Value.int .u8 0) ++ [Value.int .i64 0])).toArray
theorem zero43 (w : World) : Sem.run Tryd.prog (zeroValue 43) w = .ok (.agg z43) w := by kernel_rfl
theorem zero28 (w : World) : Sem.run Tryd.prog (zeroValue 28) w = .ok (.agg (bs z32)) w := by kernel_rfl
attribute [local go_sem] zero43 zero28 eq28
theorem new_any (w : World) : Calls Tryd.prog 8 #[] w fun e w' => e = .returned (.pointer (some ⟨w.heap.size, 0, none⟩)) ∧ w' = w.alloc (.cells z43 43) := by
  go_enter Tryd.func8, Tryd.ntmps8
  go_wp2
  go_ret
  exact ⟨rfl, rfl⟩
theorem reset_nil (w : World) : Calls Tryd.prog 9 #[.pointer none] w fun e w' => e = .returned (.tuple #[]) ∧ w' = w := by
  go_enter Tryd.func9, Tryd.ntmps9
  go_wp2
  exact bodyPost_ret (results_none rfl _ _ _) rfl ⟨rfl, rfl⟩
theorem write_nil (v : Value) (w : World) : Calls Tryd.prog 10 #[.pointer none, v] w fun e w' => e = .returned (.int .i64 0) ∧ w' = w := by
  go_enter Tryd.func10, Tryd.ntmps10
  go_wp2
  go_ret
  exact ⟨rfl, rfl⟩
theorem len_nil (w : World) : Calls Tryd.prog 12 #[.pointer none] w fun e w' => e = .returned (.int .i64 0) ∧ w' = w := by
  go_enter Tryd.func12, Tryd.ntmps12
  go_wp2
  go_ret
  exact ⟨rfl, rfl⟩
theorem clone_nil (w : World) : Calls Tryd.prog 13 #[.pointer none] w fun e w' => e = .returned (.pointer none) ∧ w' = w := by
  go_enter Tryd.func13, Tryd.ntmps13
  go_wp2
  go_ret
  exact ⟨rfl, rfl⟩
theorem size28 : (Tryd.prog.info? 28).map (·.size) = some 32 := by kernel_rfl
theorem sum_nil (w : World) : Calls Tryd.prog 11 #[.pointer none] w fun e w' => e = .returned (.agg (bs z32)) ∧ Below w.heap.size w w' := by
  go_enter Tryd.func11, Tryd.ntmps11
  go_wp2_with (refine wpList_store_row rfl 28 _ _ rfl _ (bs z32) rfl rfl 28 _ (by exact heap_alloc_new _ _) (by rw [size28]; rfl) rfl (bs_one _) ?_)
  have hres : (((w.alloc (.cells (bs z32) 28))).setRow w.heap.size (bs z32)).heap[w.heap.size]? = some (.cells (bs z32) 28 (0, 0)) := setRow_heap _ _ _ _ _ _ (heap_alloc_new _ _)
  refine bodyPost_ret (v := .agg (bs z32)) (results_cell_row rfl _ _ w.heap.size 28 _ (0, 0) _ rfl hres Tryd.underlying28 rfl (by rw [size28]; rfl)) rfl ⟨rfl, ?_⟩
  have h := (Below.refl w.heap.size w).alloc (Nat.le_refl _) (.cells (bs z32) 28)
  exact ⟨h.os, h.tape, h.output, by simp, fun j hj => (setRow_other _ _ _ _ (by omega)).trans (h.block j hj)⟩
set_option maxHeartbeats 400000 in
theorem nil_any (w : World) : Calls Tryd.prog 3 #[] w fun e w' => e = .returned (.bool true) ∧ Below w.heap.size w w' := by
  have eqz : ∀ w : World, Sem.run Tryd.prog (Op.equalIn 10000 28 (.agg (bs z32)) (.agg #[Value.int IntKind.u8 0, Value.int IntKind.u8 0, Value.int IntKind.u8 0, Value.int IntKind.u8 0, Value.int IntKind.u8 0, Value.int IntKind.u8 0, Value.int IntKind.u8 0, Value.int IntKind.u8 0, Value.int IntKind.u8 0, Value.int IntKind.u8 0, Value.int IntKind.u8 0, Value.int IntKind.u8 0, Value.int IntKind.u8 0, Value.int IntKind.u8 0, Value.int IntKind.u8 0, Value.int IntKind.u8 0, Value.int IntKind.u8 0, Value.int IntKind.u8 0, Value.int IntKind.u8 0, Value.int IntKind.u8 0, Value.int IntKind.u8 0, Value.int IntKind.u8 0, Value.int IntKind.u8 0, Value.int IntKind.u8 0, Value.int IntKind.u8 0, Value.int IntKind.u8 0, Value.int IntKind.u8 0, Value.int IntKind.u8 0, Value.int IntKind.u8 0, Value.int IntKind.u8 0, Value.int IntKind.u8 0, Value.int IntKind.u8 0])) w = .ok true w := fun w => (eq28 w z32 z32 rfl rfl).trans (by simp)
  go_enter Tryd.func3, Tryd.ntmps3
  go_wp2_with (first
    | (go_at_call 8; refine (new_any _).mono ?_; rintro e w' ⟨rfl, rfl⟩)
    | (go_at_call 9; refine (reset_nil _).mono ?_; rintro e w' ⟨rfl, rfl⟩)
    | (go_at_call 10; refine (write_nil _ _).mono ?_; rintro e w' ⟨rfl, rfl⟩)
    | (go_at_call 11; refine (sum_nil _).mono ?_; rintro e w2 ⟨rfl, hb⟩)
    | (go_at_call 12; refine (len_nil _).mono ?_; rintro e w' ⟨rfl, rfl⟩)
    | (go_at_call 13; refine (clone_nil _).mono ?_; rintro e w' ⟨rfl, rfl⟩))
  go_ret
  exact ⟨rfl, (((Below.refl _ _).alloc (Nat.le_refl _) _).alloc (by simp) _).trans (hb.mono (by simp; omega))⟩
end Go.Proofs.YtkppejaigodgiaaDoor
