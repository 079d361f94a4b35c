/- JournalNil: calls of objects that there aren't. -/
import Derived.Test.YtfimaflglnemdaaDoorJqE
namespace Go.Proofs.YtfimaflglnemdaaDoor
open Go.RowKit
open JM
set_option maxRecDepth 20000
namespace Nl
theorem AtN (W : World) : Calls Tryd.prog 25 #[.pointer none, .int .i64 3, .agg #[.int .i64 1, .int .i64 2]] W fun e w' => e = .returned (.tuple #[.agg #[.slice none 0 0, .slice none 0 0], .int .i64 0]) ∧ Below W.heap.size W w' := by
  go_enter Tryd.func25, Tryd.ntmps25
  go_wp2_with fail
  refine bodyPost_ret (Dev.results_Dt rfl _ _ (W.heap.size + 1) _ rfl rfl (row2n _ _ _)) rfl ?_
  exact ⟨rfl, below2 _ _ _⟩
theorem DoN (u f : Value) (W : World) : Calls Tryd.prog 58 #[.pointer none, u, f] W fun e w' => e = .returned (.int .i64 0) ∧ w' = W := by
  go_enter Tryd.func58, Tryd.ntmps58
  go_wp2_with fail
  go_ret
  exact ⟨rfl, rfl⟩
theorem CountN (W : World) : Calls Tryd.prog 9 #[.pointer none] W fun e w' => e = .returned (.int .i64 0) ∧ w' = W := by
  go_enter Tryd.func9, Tryd.ntmps9
  go_wp2_with fail
  go_ret
  exact ⟨rfl, rfl⟩
theorem LastN (W : World) : Calls Tryd.prog 17 #[.pointer none] W fun e w' => e = .returned (.int .i64 0) ∧ w' = W := by
  go_enter Tryd.func17, Tryd.ntmps17
  go_wp2_with fail
  go_ret
  exact ⟨rfl, rfl⟩
theorem RoomN (W : World) : Calls Tryd.prog 21 #[.pointer none] W fun e w' => e = .returned (.int .i64 0) ∧ w' = W := by
  go_enter Tryd.func21, Tryd.ntmps21
  go_wp2_with fail
  go_ret
  exact ⟨rfl, rfl⟩
theorem CommitN (u : Value) (W : World) : Calls Tryd.prog 16 #[.pointer none, u] W fun e w' => e = .returned (.tuple #[.int .i64 0, .int .i64 0]) ∧ w' = W := by
  go_enter Tryd.func16, Tryd.ntmps16
  go_wp2_with fail
  go_ret2
  exact ⟨rfl, rfl⟩
theorem CompactN (u : Value) (W : World) : Calls Tryd.prog 23 #[.pointer none, u] W fun e w' => e = .returned (.int .i64 0) ∧ w' = W := by
  go_enter Tryd.func23, Tryd.ntmps23
  go_wp2_with fail
  go_ret
  exact ⟨rfl, rfl⟩
theorem DiskN (W : World) : Calls Tryd.prog 27 #[.pointer none] W fun e w' => e = .returned (.agg #[.slice none 0 0, .slice none 0 0]) ∧ Below W.heap.size W w' := by
  go_enter Tryd.func27, Tryd.ntmps27
  go_wp2_with fail
  refine bodyPost_ret (Dev.results_D rfl _ _ W.heap.size _ rfl rfl (heap_alloc_new _ _)) rfl ?_
  exact ⟨rfl, (Below.refl _ W).alloc (Nat.le_refl _) _⟩
theorem StoryN (W : World) : Calls Tryd.prog 20 #[.pointer none] W fun e w' => e = .returned (.agg #[.int .i64 0, .int .i64 0, .int .i64 0, .int .i64 0, .slice none 0 0, .slice none 0 0]) ∧ Below W.heap.size W w' := by
  go_enter Tryd.func20, Tryd.ntmps20
  go_wp2_with fail
  refine bodyPost_ret (results_S rfl _ _ W.heap.size _ rfl rfl (heap_alloc_new _ _)) rfl ?_
  exact ⟨rfl, (Below.refl _ W).alloc (Nat.le_refl _) _⟩
theorem OpenN (W : World) : Calls Tryd.prog 13 #[.pointer none, .int .i64 1000] W fun e w' => e = .returned (.tuple #[.pointer none, .int .i64 2, .int .i64 0, .int .i64 0]) ∧ w' = W := by
  go_enter Tryd.func13, Tryd.ntmps13
  go_wp2_with fail
  refine bodyPost_ret (Dev.results_tmp4 rfl _ _ _) rfl ?_
  exact ⟨rfl, rfl⟩
theorem EachN (W : World) : Calls Tryd.prog 14 #[.pointer none] W fun e w' => e = .returned (.func (.func 43) #[] #[.pointer (some ⟨W.heap.size, 0, none⟩)]) ∧ w' = W.alloc (.cells #[.pointer none] 51) := by
  go_enter Tryd.func14, Tryd.ntmps14
  go_wp2_with fail
  go_ret
  exact ⟨rfl, rfl⟩
theorem AppendN (a : Option Addr) (n c : Nat) (W : World) : Calls Tryd.prog 29 #[.pointer none, .int .i64 0, .slice a n c] W fun e w' => e = .returned (.int .i64 0) ∧ Below W.heap.size W w' := by
  go_enter Tryd.func29, Tryd.ntmps29
  go_wp2_with fail
  refine (DoN _ _ _).mono ?_
  rintro e w ⟨rfl, rfl⟩
  go_wp2_with fail
  go_ret
  exact ⟨rfl, (Below.refl _ W).alloc (Nat.le_refl _) _⟩
theorem SyncN (W : World) : Calls Tryd.prog 30 #[.pointer none, .int .i64 9] W fun e w' => e = .returned (.int .i64 0) ∧ Below W.heap.size W w' := by
  go_enter Tryd.func30, Tryd.ntmps30
  go_wp2_with fail
  refine (DoN _ _ _).mono ?_
  rintro e w ⟨rfl, rfl⟩
  go_wp2_with fail
  go_ret
  exact ⟨rfl, Below.refl _ _⟩
theorem CutN (W : World) : Calls Tryd.prog 31 #[.pointer none, .int .i64 0, .int .i64 5] W fun e w' => e = .returned (.int .i64 0) ∧ Below W.heap.size W w' := by
  go_enter Tryd.func31, Tryd.ntmps31
  go_wp2_with fail
  refine (DoN _ _ _).mono ?_
  rintro e w ⟨rfl, rfl⟩
  go_wp2_with fail
  go_ret
  exact ⟨rfl, (Below.refl _ W).alloc (Nat.le_refl _) _⟩
end Nl
end Go.Proofs.YtfimaflglnemdaaDoor
