/- Graphs reduced: the law's edge. -/
import Derived.Test.YtibhjkmbbfgnpaaGi
namespace Go.Proofs.Ytibhjkmbbfgnpaa
open Go.RowKit GM
theorem measE (N k : Nat) (h : k < N) : N + 1 - ((k : Int) + 1).toNat < N + 1 - (k : Int).toNat := by omega
section
attribute [local go_sem ↓] toEqA
set_option maxRecDepth 100000 in
set_option maxHeartbeats 1600000 in
theorem edge_any (N : Int) (E : List (Nat × Nat)) (hl : E.length ≤ 1000000) (v : Value) (w : World) (hv : El v (zE E) w) (a b : Nat) : Calls Try.prog 13 #[grV N v, .int .i64 (a : Int), .int .i64 (b : Int)] w fun e w' => e = .returned (.bool (decide ((a, b) ∈ E))) ∧ Below w.heap.size w w' := by
  obtain ⟨W0, hW0⟩ : ∃ W0, w.alloc (.cells #[.int .i64 N, v] 24) = W0 := ⟨_, rfl⟩
  have b0 : Below w.heap.size w W0 := by rw [← hW0]; exact (Below.refl _ w).alloc (Nat.le_refl _) _
  have r0 : W0.heap[w.heap.size]? = some (.cells #[.int .i64 N, v] 24 (0, 0)) := by rw [← hW0]; exact heap_alloc_new _ _
  obtain ⟨o', c', hvf, -, ho⟩ := hv.form
  rw [zE_len] at hvf ho
  subst hvf
  unfold grV
  have l1 : W0.cell? ⟨w.heap.size, 1, none⟩ = some (.slice o' E.length c') := (cell_of_row _ _ _ _ _ _ r0).trans rfl
  obtain ⟨m, hm⟩ : ∃ m, E.length = m := ⟨_, rfl⟩
  rw [hm] at l1 hW0 ho hl ⊢
  have HH : Hid (Below w.heap.size w W0 ∧ E.length = m ∧ m ≤ 1000000 ∧ (0 < m → ∃ b off, o' = some ⟨b, off, none⟩ ∧ b < w.heap.size ∧ ∀ j, j < m → w.cell? ⟨b, off + j * 2, none⟩ = some (.int .i64 ((zE E).getD j (0, 0)).1) ∧ w.cell? ⟨b, off + j * 2 + 1, none⟩ = some (.int .i64 ((zE E).getD j (0, 0)).2))) := ⟨b0, hm, hl, ho⟩
  clear b0 r0 hv ho hm hl
  go_enter Try.func13, Try.ntmps13
  go_wp2_with fail
  clear hW0
  go_loopw [7] (fun iv wr => ∃ (i : Nat), iv = .int .i64 (i : Int) ∧ wr = W0 ∧ Hid (i ≤ m ∧ (a, b) ∉ E.take i)) (fun iv _ => m + 1 - (intOf iv).toNat)
  case atStart => exact ⟨0, rfl, rfl, Nat.zero_le _, by simp⟩
  case round =>
    obtain ⟨i, rfl, rfl, HI⟩ := hrel
    by_cases hi : i < m
    · obtain ⟨h1, h2, h3, h4⟩ := HH.out
      obtain ⟨x, y, hxy⟩ : ∃ x y, E[i]? = some (x, y) := ⟨_, _, List.getElem?_eq_getElem (by omega)⟩
      obtain ⟨eb, eo, rfl, q2, q3⟩ := h4 (by omega)
      have c1 := (World.cell?_of_block (w := w) (h1.block eb q2)).trans (q3 i hi).1
      have c2 := (World.cell?_of_block (w := w) (h1.block eb q2)).trans (q3 i hi).2
      rw [zE_get E i x y hxy] at c1 c2
      have c1' : wr.cell? ⟨eb, eo + i * 2, none⟩ = some (.int .i64 (x : Int)) := c1
      have c2' : wr.cell? ⟨eb, eo + i * 2 + 1, none⟩ = some (.int .i64 (y : Int)) := c2
      have hr := run_eqA wr (x : Int) (y : Int) (a : Int) (b : Int)
      have i0 : (0 : Int) ≤ (i : Int) := by omega
      have i1 : (i : Int) < (m : Int) := by omega
      have wi : wrap64 ((i : Int) + 1) = (i : Int) + 1 := by unfold wrap64; omega
      have tk : E.take (i + 1) = E.take i ++ [(x, y)] := by rw [List.take_add_one, hxy]; rfl
      have HI1 : Hid (i < m) := hi
      by_cases he : x = a ∧ y = b
      · have HT : Hid ((a, b) ∈ E) := by
          have := List.mem_of_getElem? hxy
          rw [he.1, he.2] at this
          exact this
        have hd : decide ((x : Int) = (a : Int) ∧ (y : Int) = (b : Int)) = true := by simp; omega
        rw [hd] at hr
        clear h1 h2 h3 h4 hxy q2 q3 c1 c2 tk hi he HI hd
        go_wp2_with fail
        go_ret
        exact ⟨by rw [decide_eq_true HT.out]; rfl, HH.out.1⟩
      · have hd : decide ((x : Int) = (a : Int) ∧ (y : Int) = (b : Int)) = false := by simp; omega
        rw [hd] at hr
        have HN : Hid ((a, b) ∉ E.take (i + 1)) := by
          rw [tk]
          intro q
          rcases List.mem_append.1 q with r | r
          · exact HI.out.2 r
          · have r := List.mem_singleton.1 r
            injection r with r1 r2
            exact he ⟨r1.symm, r2.symm⟩
        clear h1 h2 h3 h4 hxy q2 q3 c1 c2 tk hi he HI hd
        go_wp2_with fail
        go_roundw
        · exact ⟨i + 1, by go_num, by first | rfl | trivial, HI1.out, HN.out⟩
        · first
            | exact measE m i HI1.out
            | (rw [wi]; exact measE m i HI1.out)
    · have i1 : ¬ ((i : Int) < (m : Int)) := by omega
      have HF : Hid ((a, b) ∉ E) := by
        have := HI.out.2
        rwa [List.take_of_length_le (by have := HH.out.2.1; omega)] at this
      clear hi HI
      go_wp2_with fail
      go_ret
      exact ⟨by rw [decide_eq_false HF.out]; rfl, HH.out.1⟩
end
end Go.Proofs.Ytibhjkmbbfgnpaa
