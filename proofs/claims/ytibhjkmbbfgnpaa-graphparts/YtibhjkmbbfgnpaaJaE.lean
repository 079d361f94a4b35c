/- Several texts in one: GlN, GlO. -/
import Derived.Test.YtibhjkmbbfgnpaaGi
import Derived.Test.YtibhjkmbbfgnpaaGlM
/- Graphs reduced: the law's edge. -/
namespace Go.Proofs.Ytibhjkmbbfgnpaa
open Go.RowKit GM
theorem measE (N k : Nat) (h : k < N) : N + 1 - ((k : Int) + 1).toNat < N + 1 - (k : Int).toNat := by omega
section
attribute [local go_sem ↓] toEqA
set_option maxRecDepth 100000 in
set_option maxHeartbeats 1600000 in
theorem edge_any (N : Int) (E : List (Nat × Nat)) (hl : E.length ≤ 1000000) (v : Value) (w : World) (hv : El v (zE E) w) (a b : Nat) : Calls Try.prog 13 #[grV N v, .int .i64 (a : Int), .int .i64 (b : Int)] w fun e w' => e = .returned (.bool (decide ((a, b) ∈ E))) ∧ Below w.heap.size w w' := by
  obtain ⟨W0, hW0⟩ : ∃ W0, w.alloc (.cells #[.int .i64 N, v] 24) = W0 := ⟨_, rfl⟩
  have b0 : Below w.heap.size w W0 := by rw [← hW0]; exact (Below.refl _ w).alloc (Nat.le_refl _) _
  have r0 : W0.heap[w.heap.size]? = some (.cells #[.int .i64 N, v] 24 (0, 0)) := by rw [← hW0]; exact heap_alloc_new _ _
  obtain ⟨o', c', hvf, -, ho⟩ := hv.form
  rw [zE_len] at hvf ho
  subst hvf
  unfold grV
  have l1 : W0.cell? ⟨w.heap.size, 1, none⟩ = some (.slice o' E.length c') := (cell_of_row _ _ _ _ _ _ r0).trans rfl
  obtain ⟨m, hm⟩ : ∃ m, E.length = m := ⟨_, rfl⟩
  rw [hm] at l1 hW0 ho hl ⊢
  have HH : Hid (Below w.heap.size w W0 ∧ E.length = m ∧ m ≤ 1000000 ∧ (0 < m → ∃ b off, o' = some ⟨b, off, none⟩ ∧ b < w.heap.size ∧ ∀ j, j < m → w.cell? ⟨b, off + j * 2, none⟩ = some (.int .i64 ((zE E).getD j (0, 0)).1) ∧ w.cell? ⟨b, off + j * 2 + 1, none⟩ = some (.int .i64 ((zE E).getD j (0, 0)).2))) := ⟨b0, hm, hl, ho⟩
  clear b0 r0 hv ho hm hl
  go_enter Try.func13, Try.ntmps13
  go_wp2_with fail
  clear hW0
  go_loopw [7] (fun iv wr => ∃ (i : Nat), iv = .int .i64 (i : Int) ∧ wr = W0 ∧ Hid (i ≤ m ∧ (a, b) ∉ E.take i)) (fun iv _ => m + 1 - (intOf iv).toNat)
  case atStart => exact ⟨0, rfl, rfl, Nat.zero_le _, by simp⟩
  case round =>
    obtain ⟨i, rfl, rfl, HI⟩ := hrel
    by_cases hi : i < m
    · obtain ⟨h1, h2, h3, h4⟩ := HH.out
      obtain ⟨x, y, hxy⟩ : ∃ x y, E[i]? = some (x, y) := ⟨_, _, List.getElem?_eq_getElem (by omega)⟩
      obtain ⟨eb, eo, rfl, q2, q3⟩ := h4 (by omega)
      have c1 := (World.cell?_of_block (w := w) (h1.block eb q2)).trans (q3 i hi).1
      have c2 := (World.cell?_of_block (w := w) (h1.block eb q2)).trans (q3 i hi).2
      rw [zE_get E i x y hxy] at c1 c2
      have c1' : wr.cell? ⟨eb, eo + i * 2, none⟩ = some (.int .i64 (x : Int)) := c1
      have c2' : wr.cell? ⟨eb, eo + i * 2 + 1, none⟩ = some (.int .i64 (y : Int)) := c2
      have hr := run_eqA wr (x : Int) (y : Int) (a : Int) (b : Int)
      have i0 : (0 : Int) ≤ (i : Int) := by omega
      have i1 : (i : Int) < (m : Int) := by omega
      have wi : wrap64 ((i : Int) + 1) = (i : Int) + 1 := by unfold wrap64; omega
      have tk : E.take (i + 1) = E.take i ++ [(x, y)] := by rw [List.take_add_one, hxy]; rfl
      have HI1 : Hid (i < m) := hi
      by_cases he : x = a ∧ y = b
      · have HT : Hid ((a, b) ∈ E) := by
          have := List.mem_of_getElem? hxy
          rw [he.1, he.2] at this
          exact this
        have hd : decide ((x : Int) = (a : Int) ∧ (y : Int) = (b : Int)) = true := by simp; omega
        rw [hd] at hr
        clear h1 h2 h3 h4 hxy q2 q3 c1 c2 tk hi he HI hd
        go_wp2_with fail
        go_ret
        exact ⟨by rw [decide_eq_true HT.out]; rfl, HH.out.1⟩
      · have hd : decide ((x : Int) = (a : Int) ∧ (y : Int) = (b : Int)) = false := by simp; omega
        rw [hd] at hr
        have HN : Hid ((a, b) ∉ E.take (i + 1)) := by
          rw [tk]
          intro q
          rcases List.mem_append.1 q with r | r
          · exact HI.out.2 r
          · have r := List.mem_singleton.1 r
            injection r with r1 r2
            exact he ⟨r1.symm, r2.symm⟩
        clear h1 h2 h3 h4 hxy q2 q3 c1 c2 tk hi he HI hd
        go_wp2_with fail
        go_roundw
        · exact ⟨i + 1, by go_num, by first | rfl | trivial, HI1.out, HN.out⟩
        · first
            | exact measE m i HI1.out
            | (rw [wi]; exact measE m i HI1.out)
    · have i1 : ¬ ((i : Int) < (m : Int)) := by omega
      have HF : Hid ((a, b) ∉ E) := by
        have := HI.out.2
        rwa [List.take_of_length_le (by have := HH.out.2.1; omega)] at this
      clear hi HI
      go_wp2_with fail
      go_ret
      exact ⟨by rw [decide_eq_false HF.out]; rfl, HH.out.1⟩
end
end Go.Proofs.Ytibhjkmbbfgnpaa

/- Graphs reduced: the law's leads. -/
namespace Go.Proofs.Ytibhjkmbbfgnpaa
open Go.RowKit GM Gl
set_option maxRecDepth 20000
/-- Truth values as they lie. -/
def bk (N : Nat) (f : Nat → Bool) : Array Value := ((List.range N).map fun j => Value.bool (f j)).toArray
theorem bk_get (N : Nat) (f : Nat → Bool) (j : Nat) (h : j < N) : (bk N f)[j]? = some (.bool (f j)) := by simp [bk, h]
theorem bk_size (N : Nat) (f : Nat → Bool) : (bk N f).size = N := by simp [bk]
theorem bk_congr {N : Nat} {f g : Nat → Bool} (h : ∀ j, j < N → f j = g j) : bk N f = bk N g := by
  unfold bk
  congr 1
  apply List.map_congr_left
  intro j hj
  rw [h j (List.mem_range.1 hj)]
theorem bk_set (N : Nat) (f : Nat → Bool) (j : Nat) (x : Bool) : (bk N f).setIfInBounds j (.bool x) = bk N (fun y => if y = j then x else f y) := by
  apply Array.ext_getElem?
  intro k
  rw [Array.getElem?_setIfInBounds]
  by_cases hk : k < N
  · rw [bk_get N (fun y => if y = j then x else f y) k hk, bk_get N f k hk]
    by_cases e : j = k
    · subst e
      rw [if_pos rfl, if_pos (by rw [bk_size]; exact hk), if_pos rfl]
    · rw [if_neg e, if_neg (fun q => e q.symm)]
  · have n1 : (bk N f)[k]? = none := Array.getElem?_eq_none (by rw [bk_size]; omega)
    have n2 : (bk N (fun y => if y = j then x else f y))[k]? = none := Array.getElem?_eq_none (by rw [bk_size]; omega)
    rw [n1, n2]
    by_cases e : j = k
    · rw [if_pos e, if_neg (by rw [bk_size]; omega)]
    · rw [if_neg e]
def oc (gM N k : Nat) : Array Value := ((List.range N).map fun i => if i < k then Value.slice (some ⟨gM + 1 + i, 0, none⟩) N N else .slice none 0 0).toArray
theorem oc_get (gM N k i : Nat) (h : i < N) : (oc gM N k)[i]? = some (if i < k then Value.slice (some ⟨gM + 1 + i, 0, none⟩) N N else .slice none 0 0) := by simp [oc, h]
theorem oc_size (gM N k : Nat) : (oc gM N k).size = N := by simp [oc]
theorem oc_set (gM N k : Nat) (hk : k < N) : (oc gM N k).setIfInBounds k (.slice (some ⟨gM + 1 + k, 0, none⟩) N N) = oc gM N (k + 1) := by
  apply Array.ext_getElem?
  intro j
  rw [Array.getElem?_setIfInBounds]
  by_cases hj : j < N
  · rw [oc_get gM N (k + 1) j hj, oc_get gM N k j hj]
    by_cases e : k = j
    · subst e
      rw [if_pos rfl, if_pos (by rw [oc_size]; exact hj), if_pos (by omega)]
    · rw [if_neg e]
      by_cases q : j < k
      · rw [if_pos q, if_pos (by omega)]
      · rw [if_neg q, if_neg (by omega)]
  · have n1 : (oc gM N k)[j]? = none := Array.getElem?_eq_none (by rw [oc_size]; omega)
    have n2 : (oc gM N (k + 1))[j]? = none := Array.getElem?_eq_none (by rw [oc_size]; omega)
    rw [n1, n2, if_neg (by omega)]
/-- The rows of a table of truth values, the first k of them. -/
structure Mx (w : World) (C : Array Value) (gM N k : Nat) (M : Nat → Nat → Bool) (X : World) : Prop where
  bel : Below w.heap.size w X
  box : X.heap[w.heap.size]? = some (.cells C 24 (0, 0))
  hg : w.heap.size < gM
  out : X.heap[gM]? = some (.cells (oc gM N k) 32 (0, 0))
  row : ∀ i, i < k → X.heap[gM + 1 + i]? = some (.cells (bk N (M i)) 4 (0, 0))
  size : X.heap.size = gM + 1 + k
theorem Mx.congr {w : World} {C : Array Value} {gM N k : Nat} {M M' : Nat → Nat → Bool} {X : World} (h : Mx w C gM N k M X) (he : ∀ i, i < k → ∀ j, j < N → M i j = M' i j) : Mx w C gM N k M' X := ⟨h.bel, h.box, h.hg, h.out, fun i hi => by rw [h.row i hi, bk_congr (he i hi)], h.size⟩
theorem Mx.drew {w : World} {C : Array Value} {gM N k : Nat} {M : Nat → Nat → Bool} {X : World} (h : Mx w C gM N k M X) : Mx w C gM N k M X.drew := ⟨⟨h.bel.os, h.bel.tape, h.bel.output, h.bel.size, h.bel.block⟩, h.box, h.hg, h.out, h.row, h.size⟩
theorem Mx.get {w : World} {C : Array Value} {gM N k : Nat} {M : Nat → Nat → Bool} {X : World} (h : Mx w C gM N k M X) (i j : Nat) (hi : i < k) (hj : j < N) : X.cell? ⟨gM + 1 + i, j, none⟩ = some (.bool (M i j)) ∧ X.frozen? ⟨gM + 1 + i, j, none⟩ = false := ⟨(cell_of_row _ _ _ _ _ _ (h.row i hi)).trans (bk_get _ _ j hj), frozen_of_row _ _ _ _ _ (h.row i hi)⟩
theorem Mx.at {w : World} {C : Array Value} {gM N k : Nat} {M : Nat → Nat → Bool} {X : World} (h : Mx w C gM N k M X) (i : Nat) (hi : i < k) (hk : k ≤ N) : X.cell? ⟨gM, i, none⟩ = some (.slice (some ⟨gM + 1 + i, 0, none⟩) N N) := by
  rw [cell_of_row _ _ _ _ _ _ h.out, oc_get _ _ _ i (by omega), if_pos hi]
theorem Mx.set {w : World} {C : Array Value} {gM N k : Nat} {M : Nat → Nat → Bool} {X : World} (h : Mx w C gM N k M X) (i j : Nat) (hi : i < k) : Mx w C gM N k (fun x y => if x = i ∧ y = j then true else M x y) (X.setCell ⟨gM + 1 + i, j, none⟩ (.bool true)) := by
  have hg := h.hg
  refine ⟨h.bel.setCell (by show w.heap.size ≤ gM + 1 + i; omega) _, (heap_setCell_other _ _ _ _ (by show w.heap.size ≠ gM + 1 + i; omega)).trans h.box, hg, (heap_setCell_other _ _ _ _ (by show gM ≠ gM + 1 + i; omega)).trans h.out, fun x hx => ?_, by simp [h.size]⟩
  by_cases e : x = i
  · subst e
    rw [heap_setCell_same _ _ _ _ _ _ (h.row x hx), bk_set]
    congr 2
    apply bk_congr
    intro y _
    by_cases q : y = j <;> simp [q]
  · rw [heap_setCell_other _ _ _ _ (by show gM + 1 + x ≠ gM + 1 + i; omega), h.row x hx]
    congr 2
    apply bk_congr
    intro y _
    simp [e]
set_option maxRecDepth 100000 in
theorem info32 : (Try.prog.info? 32).map (fun i => (i.zero, i.size, i.bytes)) = some (some (.slice none 0 0), 1, 24) := by kernel_rfl
set_option maxRecDepth 100000 in
theorem info4 : (Try.prog.info? 4).map (fun i => (i.zero, i.size, i.bytes)) = some (some (.bool false), 1, 1) := by kernel_rfl
def mkX (l c : Value) : Sem Value := Instr.makeSlice 26 l c
theorem toMkX (l c : Value) : Instr.makeSlice 26 l c = mkX l c := rfl
def mkB (l c : Value) : Sem Value := Instr.makeSlice 32 l c
theorem toMkB (l c : Value) : Instr.makeSlice 32 l c = mkB l c := rfl
set_option maxRecDepth 1000000 in
theorem run_mkX (w : World) (n : Nat) (hn : n ≤ 1048576) : ∃ w', (mkX (.int .i64 (n : Int)) (.int .i64 (n : Int))).run Try.prog w = .ok (.slice (some ⟨w.heap.size, 0, none⟩) n n) w' ∧ w'.heap[w.heap.size]? = some (.cells (oc w.heap.size n 0) 32 (0, 0)) ∧ Below w.heap.size w w' ∧ w'.heap.size = w.heap.size + 1 := by
  obtain ⟨i0, hi0, hz0, hz1, hz2⟩ := info_parts info32
  have hr := run_make (P := Try.prog) w 26 32 i0 _ (by kernel_rfl) hi0 hz0 .i64 .i64 n n (by omega) (Int.le_refl _) (by rw [hz2]; omega) (by omega)
  simp only [Int.toNat_natCast] at hr
  refine ⟨_, hr, ?_, (Below.refl _ w).alloc (Nat.le_refl _) _, by simp⟩
  rw [heap_alloc_new, hz1, Nat.mul_one]
  congr 2
  apply Array.ext'
  have : (Value.slice none 0 0).cells = #[Value.slice none 0 0] := rfl
  rw [this, toList_madeCells_one]
  apply List.ext_getElem?
  intro k
  by_cases hk : k < n
  · simp [oc, hk]
  · simp [oc, hk]
set_option maxRecDepth 1000000 in
theorem run_mkB (w : World) (n : Nat) (hn : n ≤ 1048576) : ∃ w', (mkB (.int .i64 (n : Int)) (.int .i64 (n : Int))).run Try.prog w = .ok (.slice (some ⟨w.heap.size, 0, none⟩) n n) w' ∧ w'.heap[w.heap.size]? = some (.cells (bk n (fun _ => false)) 4 (0, 0)) ∧ Below w.heap.size w w' ∧ w'.heap.size = w.heap.size + 1 := by
  obtain ⟨i0, hi0, hz0, hz1, hz2⟩ := info_parts info4
  have hr := run_make (P := Try.prog) w 32 4 i0 _ (by kernel_rfl) hi0 hz0 .i64 .i64 n n (by omega) (Int.le_refl _) (by rw [hz2]; omega) (by omega)
  simp only [Int.toNat_natCast] at hr
  refine ⟨_, hr, ?_, (Below.refl _ w).alloc (Nat.le_refl _) _, by simp⟩
  rw [heap_alloc_new, hz1, Nat.mul_one]
  congr 2
  apply Array.ext'
  have : (Value.bool false).cells = #[Value.bool false] := rfl
  rw [this, toList_madeCells_one]
  apply List.ext_getElem?
  intro k
  by_cases hk : k < n
  · simp [bk, hk]
  · simp [bk, hk]
/-- One row more. -/
theorem Mx.more {w : World} {C : Array Value} {gM N k : Nat} {M : Nat → Nat → Bool} {X : World} (h : Mx w C gM N k M X) (hk : k < N) (hN : N ≤ 1048576) :
    ∃ X1 X2, (mkB (.int .i64 (N : Int)) (.int .i64 (N : Int))).run Try.prog X = .ok (.slice (some ⟨gM + 1 + k, 0, none⟩) N N) X1 ∧ (∃ u, X1.cell? ⟨gM, k, none⟩ = some u) ∧ X1.frozen? ⟨gM, k, none⟩ = false ∧ X1.setCell ⟨gM, k, none⟩ (.slice (some ⟨gM + 1 + k, 0, none⟩) N N) = X2 ∧ X1.heap[w.heap.size]? = some (.cells C 24 (0, 0)) ∧ Mx w C gM N (k + 1) (fun x y => if x < k then M x y else false) X2 := by
  obtain ⟨X1, r, rw1, b1, s1⟩ := run_mkB X N hN
  have hs := h.size
  have hg := h.hg
  rw [hs] at r rw1
  have o1 : X1.heap[gM]? = _ := (b1.block gM (by omega)).trans h.out
  refine ⟨X1, _, r, ⟨_, (cell_of_row _ _ _ _ _ _ o1).trans (oc_get _ _ _ k hk)⟩, frozen_of_row _ _ _ _ _ o1, rfl, (b1.block _ (by omega)).trans h.box, ⟨(h.bel.trans (b1.mono h.bel.size)).setCell (by show w.heap.size ≤ gM; omega) _, ?_, hg, ?_, fun i hi => ?_, ?_⟩⟩
  · exact (heap_setCell_other _ _ _ _ (by show w.heap.size ≠ gM; omega)).trans ((b1.block _ (by omega)).trans h.box)
  · rw [heap_setCell_same _ _ _ _ _ _ o1, oc_set _ _ _ hk]
  · rw [heap_setCell_other _ _ _ _ (by show gM + 1 + i ≠ gM; omega)]
    by_cases q : i < k
    · rw [b1.block _ (by omega), h.row i q]
      congr 2
      apply bk_congr
      intro y _
      rw [if_pos q]
    · have e : i = k := by omega
      subst e
      rw [rw1]
      congr 2
      apply bk_congr
      intro y _
      rw [if_neg (by omega)]
  · simp [s1, hs]
    omega
/-- Warshall's way, half done. -/
def qb (E : List (Nat × Nat)) (k i j x y : Nat) : Bool := if x < i ∨ (x = i ∧ y < j) then pb E (k + 1) x y else pb E k x y
theorem qb_ik (E : List (Nat × Nat)) (k i j x : Nat) : qb E k i j x k = pb E k x k := by
  unfold qb
  split
  · exact pb_ik E k x
  · rfl
theorem qb_kj (E : List (Nat × Nat)) (k i j y : Nat) : qb E k i j k y = pb E k k y := by
  unfold qb
  split
  · exact pb_kj E k y
  · rfl
end Go.Proofs.Ytibhjkmbbfgnpaa
