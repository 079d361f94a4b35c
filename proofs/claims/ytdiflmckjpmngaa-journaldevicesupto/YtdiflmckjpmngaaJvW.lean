/- JournalDevices: copied, known, Count of the document's device. -/
import Derived.Test.YtdiflmckjpmngaaJvD
import Derived.Deep.WholeRow
namespace Go.Proofs.Ytdiflmckjpmngaa
open Go.RowKit
theorem run_cpN (W : World) (u : Value) (l : List Nat) (hl : Bl W u l) : (cpB 3 #[.slice (some ⟨W.heap.size, 0, none⟩) l.length l.length, u]).run Try.prog (W.alloc (.cells (madeCells #[.int .u8 0] l.length) 5)) = .ok (goInt l.length) (W.alloc (.cells (bs l).toArray 5)) := by
  have hms : (madeCells #[.int .u8 0] l.length).size = l.length := by simp [madeCells]
  obtain ⟨oa, cap, rfl, h1, h2, h3, h4⟩ := hl
  by_cases h0 : l.length = 0
  · have := run_copy_none (P := Try.prog) (W.alloc (.cells (madeCells #[.int .u8 0] l.length) 5)) 25 25 3 5 (some ⟨W.heap.size, 0, none⟩) oa l.length l.length l.length cap Try.underlying25 size5 (by rw [h0]; rfl)
    unfold cpB
    rw [this]
    obtain rfl : l = [] := List.length_eq_zero_iff.1 h0
    have e : madeCells #[Value.int .u8 0] ([] : List Nat).length = #[] := Array.size_eq_zero_iff.1 hms
    rw [e]
    rfl
  · obtain ⟨u0, hu0⟩ : ∃ u0, (bs l)[0]? = some u0 := ⟨_, List.getElem?_eq_getElem (by rw [bs_len]; omega)⟩
    obtain ⟨g, o, rfl, -, -⟩ := h4 0 u0 hu0
    have := run_copy_row (P := Try.prog) (W.alloc (.cells (madeCells #[.int .u8 0] l.length) 5)) 25 25 3 5 W.heap.size 0 l.length l.length ⟨g, o, none⟩ l.length cap _ 5 (bs l) Try.underlying25 size5 (heap_alloc_new _ _) (by rw [bs_len]; exact (Nat.min_self _).symm) (fun j v hv => by
      obtain ⟨g', o', e1, e2, e3⟩ := h4 j v hv
      cases e1
      rw [Addr.add_mid]
      exact below_cell ((Below.refl _ W).alloc (Nat.le_refl _) _) e3) (by rw [bs_len, hms]; omega) (bs_one l)
    unfold cpB
    rw [this, World.setRow_alloc_new, bs_len, Nat.zero_add, List.take_zero, List.nil_append, List.drop_of_length_le (by rw [Array.length_toList, hms]; exact Nat.le_refl _), List.append_nil]
section
attribute [local go_sem ↓] toCpB
set_option maxRecDepth 100000 in
theorem copR_any (W : World) (u : Value) (l : List Nat) (hl : Bl W u l) (hlim : l.length ≤ LIM) : Calls Try.prog 32 #[u] W fun e w' => e = .returned (.slice (some ⟨W.heap.size, 0, none⟩) l.length l.length) ∧ w' = W.alloc (.cells (bs l).toArray 5) := by
  have hmk := run_make_row' (P := Try.prog) 25 5 (.int .u8 0) 1 Try.underlying25 info5 rfl .i64 .i64 l.length (by unfold LIM at hlim; omega) (by unfold LIM at hlim; omega)
  have hcp := run_cpN W u l hl
  obtain ⟨oa, cap, hu, -⟩ := hl
  subst hu
  clear hlim
  go_enter Try.func32, Try.ntmps32
  go_wp2
  go_ret
  exact ⟨rfl, rfl⟩
set_option maxRecDepth 100000 in
theorem copL_any (W : World) (u : Value) (l : List Nat) (hl : Bl W u l) (hlim : l.length ≤ LIM) : Calls Try.prog 15 #[u] W fun e w' => e = .returned (.slice (some ⟨W.heap.size, 0, none⟩) l.length l.length) ∧ w' = W.alloc (.cells (bs l).toArray 5) := by
  have hmk := run_make_row' (P := Try.prog) 25 5 (.int .u8 0) 1 Try.underlying25 info5 rfl .i64 .i64 l.length (by unfold LIM at hlim; omega) (by unfold LIM at hlim; omega)
  have hcp := run_cpN W u l hl
  obtain ⟨oa, cap, hu, -⟩ := hl
  subst hu
  clear hlim
  go_enter Try.func15, Try.ntmps15
  go_wp2
  go_ret
  exact ⟨rfl, rfl⟩
end
set_option maxRecDepth 100000 in
theorem known_any (W : World) (n : Int) : Calls Try.prog 33 #[.int .i64 n] W fun e w' => e = .returned (.bool (decide (n = 0 ∨ n = 1))) ∧ w' = W := by
  by_cases h0 : n = 0
  · subst h0
    go_enter Try.func33, Try.ntmps33
    go_wp2
    go_ret
    exact ⟨rfl, rfl⟩
  · by_cases h1 : n = 1
    · subst h1
      go_enter Try.func33, Try.ntmps33
      go_wp2
      go_ret
      exact ⟨rfl, rfl⟩
    · have e : decide (n = 0 ∨ n = 1) = false := by simp [h0, h1]
      rw [e]
      have b0 : (n == 0) = false := by simpa using h0
      have b1 : (n == 1) = false := by simpa using h1
      go_enter Try.func33, Try.ntmps33
      go_wp2
      go_ret
      exact ⟨rfl, rfl⟩
end Go.Proofs.Ytdiflmckjpmngaa
