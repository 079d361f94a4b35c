/- Graphs: the document's Check; edges that are alike; kept. -/
import Derived.Test.YtgedmfcfhdfoeaaGi
namespace Go.Proofs.Ytgedmfcfhdfoeaa
open Go.RowKit GM
attribute [local go_sem ↓] toApE toSlE toEqA
set_option maxRecDepth 100000 in
set_option maxHeartbeats 1000000 in
theorem checkR_any (N : Int) (E : List (Int × Int)) (v : Value) (w : World) (hv : El v E w) :
    Calls Try.prog 33 #[grV N v] w fun e w' => e = .returned (.tuple #[.int .i64 ((chk N E).1 : Int), .int .i64 ((chk N E).2 : Int)]) ∧ Below w.heap.size w w' := by
  obtain ⟨o, c, rfl, hl, ho⟩ := hv.form
  have hb : Below w.heap.size w (w.alloc (.cells #[.int .i64 N, .slice o E.length c] 24)) := (Below.refl _ w).alloc (Nat.le_refl _) _
  unfold grV
  clear hv
  by_cases h1 : N < 0
  · have e1 : chk N E = (2, 0) := by unfold chk; rw [if_pos (.inl h1)]
    rw [e1]
    go_enter Try.func33, Try.ntmps33
    go_wp2
    go_ret2
    exact ⟨rfl, hb⟩
  by_cases h2 : 8192 < N
  · have e1 : chk N E = (2, 0) := by unfold chk; rw [if_pos (.inr h2)]
    rw [e1]
    go_enter Try.func33, Try.ntmps33
    go_wp2
    go_ret2
    exact ⟨rfl, hb⟩
  by_cases h3 : 1048576 < E.length
  · have e1 : chk N E = (1, 0) := by unfold chk; rw [if_neg (by omega), if_pos h3]
    rw [e1]
    have h3' : (1048576 : Int) < (E.length : Int) := by omega
    go_enter Try.func33, Try.ntmps33
    go_wp2
    go_ret2
    exact ⟨rfl, hb⟩
  have HC : Hid (chk N E = edgV (badF N E 0)) := by show chk N E = _; unfold chk; rw [if_neg (by omega), if_neg h3]
  have h3' : ¬ (1048576 : Int) < (E.length : Int) := by omega
  have HB : Hid (Below w.heap.size w (w.alloc (.cells #[.int .i64 N, .slice o E.length c] 24)) ∧ (w.alloc (.cells #[.int .i64 N, .slice o E.length c] 24)).heap[w.heap.size]? = some (.cells #[.int .i64 N, .slice o E.length c] 24 (0, 0))) := ⟨hb, heap_alloc_new _ _⟩
  clear hb
  go_enter Try.func33, Try.ntmps33
  go_wp2_with fail
  go_loopw [4] (fun i wr => ∃ k : Nat, i = .int .i64 (k : Int) ∧ k ≤ E.length ∧ Hid (badF N E 0 = badF N (E.drop k) k) ∧ Hid (Below w.heap.size w wr ∧ wr.heap[w.heap.size]? = some (.cells #[.int .i64 N, .slice o E.length c] 24 (0, 0)))) (fun i _ => E.length - (intOf i).toNat)
  case atStart => exact ⟨0, rfl, Nat.zero_le _, rfl, HB⟩
  case round =>
    clear HB
    obtain ⟨k, rfl, hk, HO, HR⟩ := hrel
    have r0 : wr.cell? ⟨w.heap.size, 0, none⟩ = some (.int .i64 N) := (cell_of_row _ _ _ _ _ _ HR.out.2).trans rfl
    by_cases hlt : k < E.length
    · obtain ⟨b, off, rfl, hbb, hc⟩ := ho (by omega)
      have r1 : wr.cell? ⟨w.heap.size, 1, none⟩ = some (.slice (some ⟨b, off, none⟩) E.length c) := (cell_of_row _ _ _ _ _ _ HR.out.2).trans rfl
      have hk1 : (k : Int) < (E.length : Int) := by omega
      have hk0 : (0 : Int) ≤ (k : Int) := by omega
      have hk2 : (k : Int) + 1 < 9223372036854775808 := by omega
      have c1 := (World.cell?_of_block (w := w) (HR.out.1.block b hbb)).trans (hc k hlt).1
      have c2 := (World.cell?_of_block (w := w) (HR.out.1.block b hbb)).trans (hc k hlt).2
      have HS : Hid (badF N E 0 = if okE N (E.getD k (0, 0)) then badF N (E.drop (k + 1)) (k + 1) else some k) := by show _ = _; rw [HO.out, badF_drop N E k hlt]
      unfold okE at HS
      revert c1 c2 HS
      generalize (E.getD k (0, 0)).1 = x1, (E.getD k (0, 0)).2 = x2
      intro c1 c2 HS
      clear ho hc hl h3 h3' h1 h2 hbb HO hk
      by_cases p1 : 0 ≤ x1
      · by_cases p2 : x1 < N
        · by_cases p3 : 0 ≤ x2
          · by_cases p4 : x2 < N
            · have HS2 : Hid (badF N E 0 = badF N (E.drop (k + 1)) (k + 1)) := by show _ = _; rw [HS.out, if_pos (decide_eq_true ⟨p1, p2, p3, p4⟩)]
              have d1 : decide (x1 < 0) = false := decide_eq_false (by omega)
              have d2 : decide (N ≤ x1) = false := decide_eq_false (by omega)
              have d3 : decide (x2 < 0) = false := decide_eq_false (by omega)
              have d4 : decide (N ≤ x2) = false := decide_eq_false (by omega)
              clear HS p1 p2 p3 p4
              go_wp2
              go_roundw
              case rel => exact ⟨k + 1, rfl, hlt, HS2.out, HR⟩
              case measure => simp only [intOf]; omega
            · have HE : Hid (chk N E = (80, k)) := by show _ = _; rw [HC.out, HS.out, if_neg (by simp; omega)]; rfl
              have d1 : decide (x1 < 0) = false := decide_eq_false (by omega)
              have d2 : decide (N ≤ x1) = false := decide_eq_false (by omega)
              have d3 : decide (x2 < 0) = false := decide_eq_false (by omega)
              have d4 : decide (N ≤ x2) = true := decide_eq_true (by omega)
              clear HS HC p1 p2 p3 p4
              go_wp2
              go_ret2
              rw [HE.out]
              exact ⟨rfl, HR.out.1⟩
          · have HE : Hid (chk N E = (80, k)) := by show _ = _; rw [HC.out, HS.out, if_neg (by simp; omega)]; rfl
            clear HS HC
            go_wp2
            go_ret2
            rw [HE.out]
            exact ⟨rfl, HR.out.1⟩
        · have HE : Hid (chk N E = (80, k)) := by show _ = _; rw [HC.out, HS.out, if_neg (by simp; omega)]; rfl
          clear HS HC
          go_wp2
          go_ret2
          rw [HE.out]
          exact ⟨rfl, HR.out.1⟩
      · have HE : Hid (chk N E = (80, k)) := by show _ = _; rw [HC.out, HS.out, if_neg (by simp; omega)]; rfl
        clear HS HC
        go_wp2
        go_ret2
        rw [HE.out]
        exact ⟨rfl, HR.out.1⟩
    · have r1 : wr.cell? ⟨w.heap.size, 1, none⟩ = some (.slice o E.length c) := (cell_of_row _ _ _ _ _ _ HR.out.2).trans rfl
      have hk1 : ¬ ((k : Int) < (E.length : Int)) := by omega
      have HE : Hid (chk N E = (0, 0)) := by show _ = _; rw [HC.out, HO.out, show k = E.length by omega, List.drop_length]; rfl
      clear ho hl h3 h3' h1 h2 HO hk HC
      go_wp2
      go_ret2
      rw [HE.out]
      exact ⟨rfl, HR.out.1⟩
set_option maxRecDepth 100000 in
set_option maxHeartbeats 1000000 in
theorem sameE_any (l : List (Int × Int)) (v u : Value) (w : World) (hv : El v l w) (hu : El u l w) :
    Calls Try.prog 39 #[v, u] w fun e w' => e = .returned (.bool true) ∧ ∃ q, w' = w.drewN q := by
  obtain ⟨o, c, rfl, hl, ho⟩ := hv.form
  obtain ⟨o2, c2, rfl, _, ho2⟩ := hu.form
  clear hv hu
  go_enter Try.func39, Try.ntmps39
  go_wp2_with fail
  go_loopw [5] (fun i wr => ∃ k q : Nat, i = .int .i64 (k : Int) ∧ Hid (wr = w.drewN q)) (fun i _ => l.length - (intOf i).toNat)
  case atStart => exact ⟨0, 0, rfl, rfl⟩
  case round =>
    obtain ⟨k, q, rfl, HW⟩ := hrel
    by_cases hlt : k < l.length
    · obtain ⟨b, off, rfl, hb, hc⟩ := ho (by omega)
      obtain ⟨b2, off2, rfl, hb2, hc2⟩ := ho2 (by omega)
      have hk1 : (k : Int) < (l.length : Int) := by omega
      have hk0 : (0 : Int) ≤ (k : Int) := by omega
      have c1 : wr.cell? ⟨b, off + k * 2, none⟩ = some (.int .i64 (l.getD k (0, 0)).1) := by rw [HW.out]; exact (hc k hlt).1
      have c2 : wr.cell? ⟨b, off + k * 2 + 1, none⟩ = some (.int .i64 (l.getD k (0, 0)).2) := by rw [HW.out]; exact (hc k hlt).2
      have c3 : wr.cell? ⟨b2, off2 + k * 2, none⟩ = some (.int .i64 (l.getD k (0, 0)).1) := by rw [HW.out]; exact (hc2 k hlt).1
      have c4 : wr.cell? ⟨b2, off2 + k * 2 + 1, none⟩ = some (.int .i64 (l.getD k (0, 0)).2) := by rw [HW.out]; exact (hc2 k hlt).2
      revert c1 c2 c3 c4
      generalize (l.getD k (0, 0)).1 = x1, (l.getD k (0, 0)).2 = x2
      intro c1 c2 c3 c4
      have he := fun W => run_eqA W x1 x2 x1 x2
      rw [decide_eq_true ⟨rfl, rfl⟩] at he
      clear hc ho hc2 ho2
      go_wp2_with fail
      go_quiet (fail)
      go_wp2
      exact ⟨⟨k + 1, q + nq, by rfl, by show _ = _; rw [HW.out, World.drewN_drewN]⟩, by simp only [intOf]; omega⟩
    · have hk1 : ¬ ((k : Int) < (l.length : Int)) := by omega
      go_wp2
      go_ret
      exact ⟨rfl, q, HW.out⟩
set_option maxRecDepth 100000 in
set_option maxHeartbeats 1000000 in
theorem kept_any (N : Int) (E : List (Int × Int)) (hn : E.length ≤ 1073741824) (g cap : Nat) (hcap : E.length + 1 ≤ cap) (v : Value) (w : World) (hf : El (.slice (some ⟨g, 0, none⟩) (E.length + 1) cap) (E ++ [(-77, 77)]) w) (hv : El v E w) :
    Calls Try.prog 13 #[.slice (some ⟨g, 0, none⟩) (E.length + 1) cap, grV N v] w fun e w' => e = .returned (.bool true) ∧ Below w.heap.size w w' := by
  obtain ⟨o, c, rfl, hl, -⟩ := hv.form
  unfold grV
  obtain ⟨W0, hW0⟩ : ∃ W0, w.alloc (.cells #[.int .i64 N, .slice o E.length c] 24) = W0 := ⟨_, rfl⟩
  have b0 : Below w.heap.size w W0 := by rw [← hW0]; exact (Below.refl _ w).alloc (Nat.le_refl _) _
  have r0 : W0.heap[w.heap.size]? = some (.cells #[.int .i64 N, .slice o E.length c] 24 (0, 0)) := by rw [← hW0]; exact heap_alloc_new _ _
  have hcut : El (.slice (some ⟨g, 0, none⟩) E.length cap) E w ∧ w.cell? ⟨g, E.length * 2, none⟩ = some (.int .i64 (-77)) ∧ w.cell? ⟨g, E.length * 2 + 1, none⟩ = some (.int .i64 77) := by
    rcases hf with ⟨h, -⟩ | ⟨b, off, cap', h1, h2, h3, h4, h5⟩
    · cases h
    · simp only [Value.slice.injEq, Option.some.injEq, Addr.mk.injEq] at h1
      obtain ⟨⟨rfl, rfl, -⟩, -, rfl⟩ := h1
      rw [List.length_append, List.length_singleton] at h5
      refine ⟨.inr ⟨g, 0, cap, rfl, by omega, h3, h4, fun j hj => ?_⟩, ?_, ?_⟩
      · have := h5 j (by omega)
        have e : (E ++ [((-77 : Int), (77 : Int))]).getD j (0, 0) = E.getD j (0, 0) := by simp [List.getD, List.getElem?_append_left hj]
        rw [e] at this
        exact this
      · have := (h5 E.length (by omega)).1
        simpa [List.getD] using this
      · have := (h5 E.length (by omega)).2
        simpa [List.getD] using this
  have HE : Hid (∀ k, Calls Try.prog 39 #[.slice (some ⟨g, 0, none⟩) E.length cap, .slice o E.length c] (W0.drewN k) fun e w' => e = .returned (.bool true) ∧ ∃ q, w' = (W0.drewN k).drewN q) := fun k => sameE_any E _ _ _ (hcut.1.below (b0.trans ⟨rfl, rfl, rfl, Nat.le_refl _, fun _ _ => rfl⟩)) (hv.below (b0.trans ⟨rfl, rfl, rfl, Nat.le_refl _, fun _ _ => rfl⟩))
  have gz : g < w.heap.size := by
    rcases hf with ⟨h, -⟩ | ⟨b, off, cap', h1, h2, h3, h4, h5⟩
    · cases h
    · simp only [Value.slice.injEq, Option.some.injEq, Addr.mk.injEq] at h1
      obtain ⟨⟨rfl, rfl, -⟩, -, rfl⟩ := h1
      exact h4
  have c1 : W0.cell? ⟨g, E.length * 2, none⟩ = some (.int .i64 (-77)) := (World.cell?_of_block (w := w) (b0.block g gz)).trans hcut.2.1
  have c2 : W0.cell? ⟨g, E.length * 2 + 1, none⟩ = some (.int .i64 77) := (World.cell?_of_block (w := w) (b0.block g gz)).trans hcut.2.2
  have r1 : W0.cell? ⟨w.heap.size, 1, none⟩ = some (.slice o E.length c) := (cell_of_row _ _ _ _ _ _ r0).trans rfl
  have ch := fun X : World => run_cutE X g 0 (E.length + 1) cap E.length (by omega)
  have he := fun X : World => run_eqA X (-77) 77 (-77) 77
  rw [decide_eq_true ⟨rfl, rfl⟩] at he
  have i0 : (0 : Int) ≤ (E.length : Int) := by omega
  have i1 : (E.length : Int) < ((E.length + 1 : Nat) : Int) := by omega
  have i2 : (E.length : Int) < (E.length : Int) + 1 := by omega
  have HW0 : Hid (w.alloc (.cells #[.int .i64 N, .slice o E.length c] 24) = W0) := hW0
  have HB0 : Hid (Below w.heap.size w W0) := b0
  clear hcut gz hf hv hl hn r0 b0 hW0 hcap
  go_enter Try.func13, Try.ntmps13
  go_wp2_with fail
  rw [HW0.out]
  go_quiet ((go_at_call 39; exact Calls.quiet_of (HE.out _)))
  go_wp2
  go_ret
  exact ⟨rfl, Below.drewN' HB0.out _⟩
end Go.Proofs.Ytgedmfcfhdfoeaa
