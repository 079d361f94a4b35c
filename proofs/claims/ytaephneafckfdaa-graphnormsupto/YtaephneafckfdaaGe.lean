/- Graphs: kept; two graphs that are alike. -/
import Derived.Test.YtaephneafckfdaaGd
namespace Go.Proofs.Ytaephneafckfdaa
open Go.RowKit
attribute [local go_sem ↓] toApE toSlE toEqA
set_option maxRecDepth 100000 in
set_option maxHeartbeats 1000000 in
theorem kept_any (N : Int) (E : List (Int × Int)) (hn : E.length ≤ 1073741824) (g cap : Nat) (hcap : E.length + 1 ≤ cap) (v : Value) (w : World) (hf : El (.slice (some ⟨g, 0, none⟩) (E.length + 1) cap) (E ++ [(-77, 77)]) w) (hv : El v E w) :
    Calls Try.prog 17 #[.slice (some ⟨g, 0, none⟩) (E.length + 1) cap, grV N v] w fun e w' => e = .returned (.bool true) ∧ Below w.heap.size w w' := by
  obtain ⟨o, c, rfl, hl, -⟩ := hv.form
  unfold grV
  obtain ⟨W0, hW0⟩ : ∃ W0, w.alloc (.cells #[.int .i64 N, .slice o E.length c] 24) = W0 := ⟨_, rfl⟩
  have b0 : Below w.heap.size w W0 := by rw [← hW0]; exact (Below.refl _ w).alloc (Nat.le_refl _) _
  have r0 : W0.heap[w.heap.size]? = some (.cells #[.int .i64 N, .slice o E.length c] 24 (0, 0)) := by rw [← hW0]; exact heap_alloc_new _ _
  have hcut : El (.slice (some ⟨g, 0, none⟩) E.length cap) E w ∧ w.cell? ⟨g, E.length * 2, none⟩ = some (.int .i64 (-77)) ∧ w.cell? ⟨g, E.length * 2 + 1, none⟩ = some (.int .i64 77) := by
    rcases hf with ⟨h, -⟩ | ⟨b, off, cap', h1, h2, h3, h4, h5⟩
    · cases h
    · simp only [Value.slice.injEq, Option.some.injEq, Addr.mk.injEq] at h1
      obtain ⟨⟨rfl, rfl, -⟩, -, rfl⟩ := h1
      rw [List.length_append, List.length_singleton] at h5
      refine ⟨.inr ⟨g, 0, cap, rfl, by omega, h3, h4, fun j hj => ?_⟩, ?_, ?_⟩
      · have := h5 j (by omega)
        have e : (E ++ [((-77 : Int), (77 : Int))]).getD j (0, 0) = E.getD j (0, 0) := by simp [List.getD, List.getElem?_append_left hj]
        rw [e] at this
        exact this
      · have := (h5 E.length (by omega)).1
        simpa [List.getD] using this
      · have := (h5 E.length (by omega)).2
        simpa [List.getD] using this
  have HE : Hid (∀ k, Calls Try.prog 37 #[.slice (some ⟨g, 0, none⟩) E.length cap, .slice o E.length c] (W0.drewN k) fun e w' => e = .returned (.bool true) ∧ ∃ q, w' = (W0.drewN k).drewN q) := fun k => sameE_any E _ _ _ (hcut.1.below (b0.trans ⟨rfl, rfl, rfl, Nat.le_refl _, fun _ _ => rfl⟩)) (hv.below (b0.trans ⟨rfl, rfl, rfl, Nat.le_refl _, fun _ _ => rfl⟩))
  have gz : g < w.heap.size := by
    rcases hf with ⟨h, -⟩ | ⟨b, off, cap', h1, h2, h3, h4, h5⟩
    · cases h
    · simp only [Value.slice.injEq, Option.some.injEq, Addr.mk.injEq] at h1
      obtain ⟨⟨rfl, rfl, -⟩, -, rfl⟩ := h1
      exact h4
  have c1 : W0.cell? ⟨g, E.length * 2, none⟩ = some (.int .i64 (-77)) := (World.cell?_of_block (w := w) (b0.block g gz)).trans hcut.2.1
  have c2 : W0.cell? ⟨g, E.length * 2 + 1, none⟩ = some (.int .i64 77) := (World.cell?_of_block (w := w) (b0.block g gz)).trans hcut.2.2
  have r1 : W0.cell? ⟨w.heap.size, 1, none⟩ = some (.slice o E.length c) := (cell_of_row _ _ _ _ _ _ r0).trans rfl
  have ch := fun X : World => run_cutE X g 0 (E.length + 1) cap E.length (by omega)
  have he := fun X : World => run_eqA X (-77) 77 (-77) 77
  rw [decide_eq_true ⟨rfl, rfl⟩] at he
  have i0 : (0 : Int) ≤ (E.length : Int) := by omega
  have i1 : (E.length : Int) < ((E.length + 1 : Nat) : Int) := by omega
  have i2 : (E.length : Int) < (E.length : Int) + 1 := by omega
  have HW0 : Hid (w.alloc (.cells #[.int .i64 N, .slice o E.length c] 24) = W0) := hW0
  have HB0 : Hid (Below w.heap.size w W0) := b0
  clear hcut gz hf hv hl hn r0 b0 hW0 hcap
  go_enter Try.func17, Try.ntmps17
  go_wp2_with fail
  rw [HW0.out]
  go_quiet ((go_at_call 37; exact Calls.quiet_of (HE.out _)))
  go_wp2
  go_ret
  exact ⟨rfl, Below.drewN' HB0.out _⟩
set_option maxRecDepth 100000 in
theorem sameG_any (N : Int) (E : List (Int × Int)) (v u : Value) (w : World) (hv : El v E w) (hu : El u E w) :
    Calls Try.prog 14 #[grV N v, grV N u] w fun e w' => e = .returned (.bool true) ∧ Below w.heap.size w w' := by
  unfold grV
  obtain ⟨W0, hW0⟩ : ∃ W0, (w.alloc (.cells #[.int .i64 N, v] 24)).alloc (.cells #[.int .i64 N, u] 24) = W0 := ⟨_, rfl⟩
  have b0 : Below w.heap.size w W0 := by rw [← hW0]; exact ((Below.refl _ w).alloc (Nat.le_refl _) _).alloc (by simp) _
  have HC : Hid (Calls Try.prog 37 #[v, u] W0 fun e w' => e = .returned (.bool true) ∧ ∃ q, w' = W0.drewN q) := sameE_any E v u W0 (hv.below b0) (hu.below b0)
  have HW0 : Hid ((w.alloc (.cells #[.int .i64 N, v] 24)).alloc (.cells #[.int .i64 N, u] 24) = W0) := hW0
  have HB0 : Hid (Below w.heap.size w W0) := b0
  clear hW0 b0 hv hu
  go_enter Try.func14, Try.ntmps14
  go_wp2_with fail
  rw [HW0.out]
  refine Calls.mono HC.out ?_
  rintro e W1 ⟨rfl, q, rfl⟩
  go_wp2
  go_ret
  exact ⟨rfl, Below.drewN' HB0.out _⟩
end Go.Proofs.Ytaephneafckfdaa
