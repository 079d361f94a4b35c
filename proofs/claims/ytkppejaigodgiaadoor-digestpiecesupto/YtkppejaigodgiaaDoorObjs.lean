import Derived.Test.YtkppejaigodgiaaDoorBegin
namespace Go.Proofs.YtkppejaigodgiaaDoor
open Go.RowKit
theorem size43 : (Tryd.prog.info? 43).map (·.size) = some 73 := by kernel_rfl
theorem hs_one (st rest : List Nat) (n : Nat) : (hs st rest n).all (·.oneCell') = true := by
  simp [hs, Value.oneCell']
def hz : Array Value := hs (List.replicate 8 0) (List.replicate 64 0) 0
theorem zero43 (w : World) : Sem.run Tryd.prog (zeroValue 43) w = .ok (.agg hz) w := by kernel_rfl
attribute [local go_sem] zero43
theorem new_any (w : World) : Calls Tryd.prog 8 #[] w fun e w' => e = .returned (.pointer (some ⟨w.heap.size, 0, none⟩)) ∧ w' = w.alloc (.cells hz 43) := by
  go_enter Tryd.func8, Tryd.ntmps8
  go_wp2
  go_ret
  exact ⟨rfl, rfl⟩
theorem len_any (g : Nat) (st rest : List Nat) (n : Nat) (hst : st.length = 8) (hrs : rest.length = 64) (w : World) (hh : Hid (w.heap[g]? = some (.cells (hs st rest n) 43 (0, 0)))) :
    Calls Tryd.prog 12 #[.pointer (some ⟨g, 0, none⟩)] w fun e w' => e = .returned (.int .i64 (n : Int)) ∧ w' = w := by
  have cn : w.cell? ⟨g, 72, none⟩ = some (.int .i64 (n : Int)) := by rw [cell_of_row w _ _ _ _ _ hh.out, hs_len _ _ _ hst hrs]
  go_enter Tryd.func12, Tryd.ntmps12
  go_wp2
  go_ret
  exact ⟨rfl, rfl⟩
set_option maxHeartbeats 400000 in
theorem clone_any (g : Nat) (st rest : List Nat) (n : Nat) (hst : st.length = 8) (hrs : rest.length = 64) (w : World) (hh : Hid (w.heap[g]? = some (.cells (hs st rest n) 43 (0, 0)))) :
    Calls Tryd.prog 13 #[.pointer (some ⟨g, 0, none⟩)] w fun e w' => e = .returned (.pointer (some ⟨w.heap.size, 0, none⟩)) ∧ w'.heap[w.heap.size]? = some (.cells (hs st rest n) 43 (0, 0)) ∧ Below w.heap.size w w' := by
  have hz' : (hs st rest n).size = 73 := hs_size _ _ _ hst hrs
  go_enter Tryd.func13, Tryd.ntmps13
  go_wp2_with (first
    | refine wpList_load_row rfl 43 _ rfl _ rfl 43 _ (0, 0) _ (by exact hh.out) Tryd.underlying43 rfl (by rw [size43, hz']) ?_
    | refine wpList_store_row rfl 43 _ _ rfl _ _ rfl rfl 43 _ (by exact heap_alloc_new _ _) (by rw [size43, hz']) (by rw [hz']; rfl) (hs_one _ _ _) ?_)
  go_ret
  refine ⟨rfl, setRow_heap _ _ _ _ _ _ (heap_alloc_new _ _), ?_⟩
  exact below_setRow ((Below.refl _ _).alloc (Nat.le_refl _) _) (Nat.le_refl _) _
set_option maxHeartbeats 400000 in
theorem reset_any (g : Nat) (st rest : List Nat) (n : Nat) (hst : st.length = 8) (hrs : rest.length = 64) (w : World) (hh : Hid (w.heap[g]? = some (.cells (hs st rest n) 43 (0, 0)))) :
    Calls Tryd.prog 9 #[.pointer (some ⟨g, 0, none⟩)] w fun e w' => e = .returned (.tuple #[]) ∧ w'.heap[g]? = some (.cells hz 43 (0, 0)) ∧ Touch g w w' := by
  have hz' : (hs st rest n).size = 73 := hs_size _ _ _ hst hrs
  go_enter Tryd.func9, Tryd.ntmps9
  go_wp2_with (refine wpList_store_row rfl 43 _ _ rfl _ hz rfl rfl 43 _ (by exact hh.out) (by rw [size43]; rfl) (by rw [hz']; rfl) (hs_one _ _ _) ?_)
  go_end0
  exact ⟨rfl, setRow_heap _ _ _ _ _ _ hh.out, (Touch.refl _ _).setRow _⟩
end Go.Proofs.YtkppejaigodgiaaDoor
