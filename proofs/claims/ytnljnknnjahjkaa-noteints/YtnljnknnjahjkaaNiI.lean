/- NoteInts: Int, both. -/
import Derived.Test.YtnljnknnjahjkaaNiF
namespace Go.Proofs.Ytnljnknnjahjkaa
open Go.RowKit
/-- What both Int answer. -/
noncomputable def intV (k : Int) (x : Nat) : Value := open Classical in
  if k = 3 ∧ (ordF x loB = some .gt ∨ ordF x loB = some .eq) ∧ (ordF x hiB = some .lt ∨ ordF x hiB = some .eq) ∧ ordF (floatOfInt .f64 ((floatToIntVal .f64 x .i64).getD 0)) x = some .eq then .tuple #[.int .i64 ((floatToIntVal .f64 x .i64).getD 0), .bool true] else .tuple #[.int .i64 0, .bool false]
attribute [local go_sem] toOrd
theorem cvI (w : World) (x : Nat) (n : Int) (h : floatToIntVal .f64 x .i64 = some n) : (convert 22 3 (.float .f64 x)).run Try.prog w = .ok (.int .i64 n) w := run_convert_float_int w 22 3 .f64 .i64 x n (by rw [Try.underlying22]; rfl) Try.underlying3 h
theorem ge_b (o : Option Ordering) : (o == some .gt || o == some .eq) = true ↔ (o = some .gt ∨ o = some .eq) := by simp
theorem le_b (o : Option Ordering) : (o == some .lt || o == some .eq) = true ↔ (o = some .lt ∨ o = some .eq) := by simp
set_option maxRecDepth 100000 in
set_option maxHeartbeats 1600000 in
theorem intC_any (k : Int) (b : Bool) (x : Nat) (s : ByteArray) (L F : Value) (w : World) : Calls Try.prog 5 #[.agg (noteA k b x s L F)] w fun e w' => e = .returned (intV k x) ∧ Below w.heap.size w w' := by
  obtain ⟨W0, hW0⟩ : ∃ W0, w.alloc (.cells (noteA k b x s L F) 26) = W0 := ⟨_, rfl⟩
  have b0 : Below w.heap.size w W0 := by rw [← hW0]; exact (Below.refl _ w).alloc (Nat.le_refl _) _
  have r0 : W0.heap[w.heap.size]? = some (.cells (noteA k b x s L F) 26 (0, 0)) := by rw [← hW0]; exact heap_alloc_new _ _
  have q0 : W0.cell? ⟨w.heap.size, 0, none⟩ = some (.int .i64 k) := by rw [cell_of_row _ _ _ _ _ _ r0]; rfl
  have q2 : W0.cell? ⟨w.heap.size, 2, none⟩ = some (.float .f64 x) := by rw [cell_of_row _ _ _ _ _ _ r0]; rfl
  rw [← hW0] at q0 q2
  have HB : Hid (Below w.heap.size w W0) := b0
  have HW0 : Hid _ := hW0
  clear hW0 b0 r0
  by_cases hk : k = 3
  · subst hk
    cases h1 : (ordF x 14069245235905429503 == some .gt || ordF x 14069245235905429503 == some .eq) with
    | false =>
      have HV : Hid (intV 3 x = .tuple #[.int .i64 0, .bool false]) := by
        show _ = _
        unfold intV
        rw [if_neg (fun h => by have := (ge_b _).2 h.2.1; rw [show loB = 14069245235905429503 from rfl, h1] at this; cases this)]
      unfold noteA at *
      go_enter Try.func5, Try.ntmps5
      go_wp2
      all_goals
        go_ret2
        rw [HW0.out]
        exact ⟨by rw [HV.out]; rfl, HB.out⟩
    | true =>
      cases h2 : (ordF x 4845873199050653695 == some .lt || ordF x 4845873199050653695 == some .eq) with
      | false =>
        have HV : Hid (intV 3 x = .tuple #[.int .i64 0, .bool false]) := by
          show _ = _
          unfold intV
          rw [if_neg (fun h => by have := (le_b _).2 h.2.2.1; rw [show hiB = 4845873199050653695 from rfl, h2] at this; cases this)]
        unfold noteA at *
        go_enter Try.func5, Try.ntmps5
        go_wp2
        all_goals
          go_ret2
          rw [HW0.out]
          exact ⟨by rw [HV.out]; rfl, HB.out⟩
      | true =>
        obtain ⟨n, hn⟩ := rng (x := x) ((ge_b _).1 h1) ((le_b _).1 h2)
        have cv := fun W => cvI W x n hn
        cases h3 : (ordF (floatOfInt .f64 n) x != some .eq) with
        | true =>
          have HV : Hid (intV 3 x = .tuple #[.int .i64 0, .bool false]) := by
            show _ = _
            unfold intV
            rw [if_neg (fun h => by have h4 := h.2.2.2; rw [hn, Option.getD_some] at h4; rw [h4] at h3; simp at h3)]
          clear hn
          unfold noteA at *
          go_enter Try.func5, Try.ntmps5
          go_wp2
          all_goals
            go_ret2
            rw [HW0.out]
            exact ⟨by rw [HV.out]; rfl, HB.out⟩
        | false =>
          have HV : Hid (intV 3 x = .tuple #[.int .i64 n, .bool true]) := by
            show _ = _
            unfold intV
            rw [if_pos ⟨rfl, (ge_b _).1 h1, (le_b _).1 h2, by rw [hn, Option.getD_some]; simpa using h3⟩, hn, Option.getD_some]
          clear hn
          unfold noteA at *
          go_enter Try.func5, Try.ntmps5
          go_wp2
          all_goals
            go_ret2
            rw [HW0.out]
            exact ⟨by rw [HV.out]; rfl, HB.out⟩
  · have HV : Hid (intV k x = .tuple #[.int .i64 0, .bool false]) := by
      show _ = _
      unfold intV
      rw [if_neg (fun h => hk h.1)]
    unfold noteA at *
    go_enter Try.func5, Try.ntmps5
    go_wp2
    all_goals
      go_ret2
      rw [HW0.out]
      exact ⟨by rw [HV.out]; rfl, HB.out⟩
set_option maxRecDepth 100000 in
set_option maxHeartbeats 1600000 in
theorem intR_any (k : Int) (b : Bool) (x : Nat) (s : ByteArray) (L F : Value) (w : World) : Calls Try.prog 6 #[.agg (noteA k b x s L F)] w fun e w' => e = .returned (intV k x) ∧ Below w.heap.size w w' := by
  obtain ⟨W0, hW0⟩ : ∃ W0, w.alloc (.cells (noteA k b x s L F) 26) = W0 := ⟨_, rfl⟩
  have b0 : Below w.heap.size w W0 := by rw [← hW0]; exact (Below.refl _ w).alloc (Nat.le_refl _) _
  have r0 : W0.heap[w.heap.size]? = some (.cells (noteA k b x s L F) 26 (0, 0)) := by rw [← hW0]; exact heap_alloc_new _ _
  have q0 : W0.cell? ⟨w.heap.size, 0, none⟩ = some (.int .i64 k) := by rw [cell_of_row _ _ _ _ _ _ r0]; rfl
  have q2 : W0.cell? ⟨w.heap.size, 2, none⟩ = some (.float .f64 x) := by rw [cell_of_row _ _ _ _ _ _ r0]; rfl
  rw [← hW0] at q0 q2
  have HB : Hid (Below w.heap.size w W0) := b0
  have HW0 : Hid _ := hW0
  clear hW0 b0 r0
  by_cases hk : k = 3
  · subst hk
    cases h1 : (ordF x 14069245235905429503 == some .gt || ordF x 14069245235905429503 == some .eq) with
    | false =>
      have HV : Hid (intV 3 x = .tuple #[.int .i64 0, .bool false]) := by
        show _ = _
        unfold intV
        rw [if_neg (fun h => by have := (ge_b _).2 h.2.1; rw [show loB = 14069245235905429503 from rfl, h1] at this; cases this)]
      unfold noteA at *
      go_enter Try.func6, Try.ntmps6
      go_wp2
      all_goals
        go_ret2
        rw [HW0.out]
        exact ⟨by rw [HV.out]; rfl, HB.out⟩
    | true =>
      cases h2 : (ordF x 4845873199050653695 == some .lt || ordF x 4845873199050653695 == some .eq) with
      | false =>
        have HV : Hid (intV 3 x = .tuple #[.int .i64 0, .bool false]) := by
          show _ = _
          unfold intV
          rw [if_neg (fun h => by have := (le_b _).2 h.2.2.1; rw [show hiB = 4845873199050653695 from rfl, h2] at this; cases this)]
        unfold noteA at *
        go_enter Try.func6, Try.ntmps6
        go_wp2
        all_goals
          go_ret2
          rw [HW0.out]
          exact ⟨by rw [HV.out]; rfl, HB.out⟩
      | true =>
        obtain ⟨n, hn⟩ := rng (x := x) ((ge_b _).1 h1) ((le_b _).1 h2)
        have cv := fun W => cvI W x n hn
        cases h3 : (ordF (floatOfInt .f64 n) x != some .eq) with
        | true =>
          have HV : Hid (intV 3 x = .tuple #[.int .i64 0, .bool false]) := by
            show _ = _
            unfold intV
            rw [if_neg (fun h => by have h4 := h.2.2.2; rw [hn, Option.getD_some] at h4; rw [h4] at h3; simp at h3)]
          clear hn
          unfold noteA at *
          go_enter Try.func6, Try.ntmps6
          go_wp2
          all_goals
            go_ret2
            rw [HW0.out]
            exact ⟨by rw [HV.out]; rfl, HB.out⟩
        | false =>
          have HV : Hid (intV 3 x = .tuple #[.int .i64 n, .bool true]) := by
            show _ = _
            unfold intV
            rw [if_pos ⟨rfl, (ge_b _).1 h1, (le_b _).1 h2, by rw [hn, Option.getD_some]; simpa using h3⟩, hn, Option.getD_some]
          clear hn
          unfold noteA at *
          go_enter Try.func6, Try.ntmps6
          go_wp2
          all_goals
            go_ret2
            rw [HW0.out]
            exact ⟨by rw [HV.out]; rfl, HB.out⟩
  · have HV : Hid (intV k x = .tuple #[.int .i64 0, .bool false]) := by
      show _ = _
      unfold intV
      rw [if_neg (fun h => hk h.1)]
    unfold noteA at *
    go_enter Try.func6, Try.ntmps6
    go_wp2
    all_goals
      go_ret2
      rw [HW0.out]
      exact ⟨by rw [HV.out]; rfl, HB.out⟩
end Go.Proofs.Ytnljnknnjahjkaa
