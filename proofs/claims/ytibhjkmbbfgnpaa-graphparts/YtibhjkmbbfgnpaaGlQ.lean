/- Graphs reduced: the law's small. -/
import Derived.Test.YtibhjkmbbfgnpaaGlL
namespace Go.Proofs.Ytibhjkmbbfgnpaa
open Go.RowKit GM
section
attribute [local go_sem ↓] toApE
set_option maxRecDepth 100000 in
set_option maxHeartbeats 6400000 in
theorem small_any (n : Int) (D : List (Int × Int)) (v : Value) (w : World) (hv : El v D w) : Calls Try.prog 7 #[.int .i64 n, v] w fun e w' => ∃ (N : Nat) (E : List (Nat × Nat)) (u : Value), e = .returned (grV (N : Int) u) ∧ 1 ≤ N ∧ N ≤ 60 ∧ (∀ e ∈ E, e.1 < N ∧ e.2 < N) ∧ E.length ≤ 400 ∧ w'.ownsRow (w.heap.size + 2) 47 2 u E.length (ec (zE E)) ∧ Below w.heap.size w w' := by
  obtain ⟨r, hr, hr2⟩ := and_ex65535 n
  obtain ⟨N, hN⟩ : ∃ N, N = 1 + r % 60 := ⟨_, rfl⟩
  have q1 : wrap64 ((r : Int).tmod 60) = ((r % 60 : Nat) : Int) := tmod_n r 60 hr2
  have q2 : wrap64 (1 + ((r % 60 : Nat) : Int)) = (N : Int) := by unfold wrap64; omega
  obtain ⟨W0, hW0⟩ : ∃ W0, (w.alloc (.cells #[.int .i64 0, .slice none 0 0] 24)).alloc (.cells #[.int .i64 (N : Int), .slice none 0 0] 24) = W0 := ⟨_, rfl⟩
  have HG0 : Hid (Gst w N [] (.slice none 0 0) W0) := by
    refine ⟨by rw [← hW0]; exact ((Below.refl _ w).alloc (Nat.le_refl _) _).alloc (by simp) _, by rw [← hW0]; exact heap_alloc2_old _ _ _, by rw [← hW0]; exact heap_alloc2_new _ _ _, World.ownsRow_nil _ _ _ _⟩
  obtain ⟨o', c', hvf, -, ho⟩ := hv.form
  obtain ⟨m, hm⟩ : ∃ m, D.length = m := ⟨_, rfl⟩
  rw [hm] at hvf ho
  subst hvf
  have HH : Hid (1 ≤ N ∧ N ≤ 60 ∧ (0 < m → ∃ b off, o' = some ⟨b, off, none⟩ ∧ b < w.heap.size ∧ ∀ j, j < m → w.cell? ⟨b, off + j * 2, none⟩ = some (.int .i64 (D.getD j (0, 0)).1) ∧ w.cell? ⟨b, off + j * 2 + 1, none⟩ = some (.int .i64 (D.getD j (0, 0)).2))) := ⟨by omega, by omega, ho⟩
  have HW0 : Hid ((w.alloc (.cells #[.int .i64 0, .slice none 0 0] 24)).alloc (.cells #[.int .i64 (N : Int), .slice none 0 0] 24) = W0) := hW0
  have HNe : Hid ((1 + (r : Int) % 60) = (N : Int)) := by show (1 + (r : Int) % 60) = (N : Int); omega
  clear hv ho hm hr2 hN hW0
  unfold grV
  go_enter Try.func7, Try.ntmps7
  go_wp2_with fail
  rw [HNe.out, HW0.out]
  clear q1 q2 hr
  go_loopw [6] (fun iv wr => ∃ (i : Nat), iv = .int .i64 (i : Int) ∧ Hid (i ≤ 400 ∧ i ≤ m ∧ ∃ E ev, E.length ≤ i ∧ (∀ e ∈ E, e.1 < N ∧ e.2 < N) ∧ Gst w N E ev wr)) (fun iv _ => 400 + 1 - (intOf iv).toNat)
  case atStart => exact ⟨0, rfl, Nat.zero_le _, Nat.zero_le _, [], _, Nat.le_refl _, (fun e he => by cases he), HG0.out⟩
  case round =>
    obtain ⟨i, rfl, HI⟩ := hrel
    obtain ⟨h4, hm, E, ev, hE, hE2, gs⟩ := HI.out
    by_cases h1 : i < m
    · have i0 : (0 : Int) ≤ (i : Int) := by omega
      have i1 : (i : Int) < (m : Int) := by omega
      by_cases h2 : i < 400
      · have i2 : (i : Int) < 400 := by omega
        obtain ⟨g1, g2, g3⟩ := HH.out
        obtain ⟨eb, eo, rfl, q2, q3⟩ := g3 (by omega)
        obtain ⟨z1, z2⟩ := q3 i h1
        obtain ⟨a, ha⟩ : ∃ a, (D.getD i (0, 0)).1 = a := ⟨_, rfl⟩
        obtain ⟨b, hb⟩ : ∃ b, (D.getD i (0, 0)).2 = b := ⟨_, rfl⟩
        rw [ha] at z1
        rw [hb] at z2
        obtain ⟨ra, ea, la⟩ := and_ex65535 a
        obtain ⟨rb, eb', lb⟩ := and_ex65535 b
        have qa := tmod_n ra N la
        have qb := tmod_n rb N lb
        obtain ⟨x, hx⟩ : ∃ x, ra % N = x := ⟨_, rfl⟩
        obtain ⟨y, hy⟩ : ∃ y, rb % N = y := ⟨_, rfl⟩
        rw [hx] at qa
        rw [hy] at qb
        have qa2 : (ra : Int) % (N : Int) = (x : Int) := by rw [← hx]; simp
        have qb2 : (rb : Int) % (N : Int) = (y : Int) := by rw [← hy]; simp
        have nz : ¬ ((N : Int) = 0) := by omega
        have c1 := (World.cell?_of_block (w := w) (gs.bel.block eb q2)).trans z1
        have c2 := (World.cell?_of_block (w := w) (gs.bel.block eb q2)).trans z2
        have sz : eb < wr.heap.size := Nat.lt_of_lt_of_le q2 gs.bel.size
        have sl := (Array.getElem?_eq_some_iff.1 gs.loc).1
        have l0 : wr.cell? ⟨w.heap.size + 1, 0, none⟩ = some (.int .i64 (N : Int)) := (cell_of_row _ _ _ _ _ _ gs.loc).trans rfl
        obtain ⟨ov, cv, rfl⟩ := own_size gs.own
        obtain ⟨le, hle⟩ : ∃ k, E.length = k := ⟨_, rfl⟩
        have l1 : wr.cell? ⟨w.heap.size + 1, 1, none⟩ = some (.slice ov le cv) := (cell_of_row _ _ _ _ _ _ gs.loc).trans (by rw [hle]; rfl)
        have old : ∀ q k, q < wr.heap.size → (wr.alloc (.cells #[.int .i64 (x : Int), .int .i64 (y : Int)] 47)).cell? ⟨q, k, none⟩ = wr.cell? ⟨q, k, none⟩ := fun q k hq => World.cell?_of_block (w := wr) (heap_alloc_old wr _ (h := hq))
        have c1a := (old eb (eo + i * 2) sz).trans c1
        have c2a := (old eb (eo + i * 2 + 1) sz).trans c2
        have l0a := (old (w.heap.size + 1) 0 sl).trans l0
        have l1a := (old (w.heap.size + 1) 1 sl).trans l1
        obtain ⟨o3, c3, W2, sA, cA, fA, GA⟩ := gs.drew.add x y (by omega)
        rw [hle] at sA cA GA
        have sA' : (apE 22 #[.slice ov le cv, .slice (some ⟨wr.heap.size, 0, none⟩) 1 1]).run Try.prog (wr.alloc (.cells #[.int .i64 (x : Int), .int .i64 (y : Int)] 47)).drew = .ok (.slice o3 (le + 1) c3) W2 := sA
        obtain ⟨Z, hZ⟩ : ∃ Z, W2.setCell ⟨w.heap.size + 1, 1, none⟩ (.slice o3 (le + 1) c3) = Z := ⟨_, rfl⟩
        rw [hZ] at GA
        have HN : Hid (i < 400 ∧ i < m ∧ ∃ E ev, E.length ≤ i + 1 ∧ (∀ e ∈ E, e.1 < N ∧ e.2 < N) ∧ Gst w N E ev Z) := by
          refine ⟨h2, h1, _, _, by rw [List.length_append, List.length_singleton]; omega, fun e he => ?_, GA⟩
          rcases List.mem_append.1 he with q | q
          · exact hE2 e q
          · have q := List.mem_singleton.1 q
            rw [q]
            exact ⟨by show x < N; rw [← hx]; exact Nat.mod_lt _ (by omega), by show y < N; rw [← hy]; exact Nat.mod_lt _ (by omega)⟩
        have wi : wrap64 ((i : Int) + 1) = (i : Int) + 1 := by unfold wrap64; omega
        clear h4 hm hE hE2 gs HI h1 h2 g1 g2 g3 q2 q3 z1 z2 ha hb la lb hx hy sz sl hle old sA GA HG0
        go_wp2_with fail
        go_region
        go_wp2_with fail
        go_roundw
        · exact ⟨i + 1, by go_num, HN.out.1, HN.out.2.1, HN.out.2.2⟩
        · first
            | exact measQ 400 i HN.out.1
            | (rw [wi]; exact measQ 400 i HN.out.1)
      · have i2 : ¬ ((i : Int) < 400) := by omega
        have z0 : wr.cell? ⟨w.heap.size + 1, 0, none⟩ = some (.int .i64 (N : Int)) := (cell_of_row _ _ _ _ _ _ gs.loc).trans rfl
        obtain ⟨ov, cv, rfl⟩ := own_size gs.own
        obtain ⟨le, hle⟩ : ∃ k, E.length = k := ⟨_, rfl⟩
        have z1 : wr.cell? ⟨w.heap.size + 1, 1, none⟩ = some (.slice ov le cv) := (cell_of_row _ _ _ _ _ _ gs.loc).trans (by rw [hle]; rfl)
        have y0 : wr.cell? ⟨w.heap.size, 0, none⟩ = some (.int .i64 0) := (cell_of_row _ _ _ _ _ _ gs.res).trans rfl
        have y1 : wr.cell? ⟨w.heap.size, 1, none⟩ = some (.slice none 0 0) := (cell_of_row _ _ _ _ _ _ gs.res).trans rfl
        have f0 : wr.frozen? ⟨w.heap.size, 0, none⟩ = false := frozen_of_row _ _ _ _ _ gs.res
        have f1 : wr.frozen? ⟨w.heap.size, 1, none⟩ = false := frozen_of_row _ _ _ _ _ gs.res
        have HE : Hid (E.length = le ∧ E.length ≤ 400 ∧ (∀ e ∈ E, e.1 < N ∧ e.2 < N) ∧ Gst w N E (.slice ov le cv) wr) := ⟨hle, by omega, hE2, by rw [← hle]; exact gs⟩
        clear h4 hm hE hE2 gs HI HG0 hle h1 h2
        go_wp2_with fail
        refine bodyPost_ret (results_G rfl _ _ w.heap.size (.int .i64 (N : Int)) (.slice ov le cv) rfl (set2G _ _ HE.out.2.2.2.res)) rfl ?_
        obtain ⟨e1, e2, e3, e4⟩ := HE.out
        refine ⟨N, E, _, rfl, HH.out.1, HH.out.2.1, (by first | exact e3 | exact fun a b h => e3 (a, b) h), e2, ?_, below_set2 _ _ (Nat.le_refl _) e4.bel⟩
        exact own_keep2 e4.own fun q hq => set2_other _ _ q (by have := (e4.own.lt q hq).1; omega)
    · have i1 : ¬ ((i : Int) < (m : Int)) := by omega
      have z0 : wr.cell? ⟨w.heap.size + 1, 0, none⟩ = some (.int .i64 (N : Int)) := (cell_of_row _ _ _ _ _ _ gs.loc).trans rfl
      obtain ⟨ov, cv, rfl⟩ := own_size gs.own
      obtain ⟨le, hle⟩ : ∃ k, E.length = k := ⟨_, rfl⟩
      have z1 : wr.cell? ⟨w.heap.size + 1, 1, none⟩ = some (.slice ov le cv) := (cell_of_row _ _ _ _ _ _ gs.loc).trans (by rw [hle]; rfl)
      have y0 : wr.cell? ⟨w.heap.size, 0, none⟩ = some (.int .i64 0) := (cell_of_row _ _ _ _ _ _ gs.res).trans rfl
      have y1 : wr.cell? ⟨w.heap.size, 1, none⟩ = some (.slice none 0 0) := (cell_of_row _ _ _ _ _ _ gs.res).trans rfl
      have f0 : wr.frozen? ⟨w.heap.size, 0, none⟩ = false := frozen_of_row _ _ _ _ _ gs.res
      have f1 : wr.frozen? ⟨w.heap.size, 1, none⟩ = false := frozen_of_row _ _ _ _ _ gs.res
      have HE : Hid (E.length = le ∧ E.length ≤ 400 ∧ (∀ e ∈ E, e.1 < N ∧ e.2 < N) ∧ Gst w N E (.slice ov le cv) wr) := ⟨hle, by omega, hE2, by rw [← hle]; exact gs⟩
      clear h4 hm hE hE2 gs HI HG0 hle h1
      go_wp2_with fail
      refine bodyPost_ret (results_G rfl _ _ w.heap.size (.int .i64 (N : Int)) (.slice ov le cv) rfl (set2G _ _ HE.out.2.2.2.res)) rfl ?_
      obtain ⟨e1, e2, e3, e4⟩ := HE.out
      refine ⟨N, E, _, rfl, HH.out.1, HH.out.2.1, (by first | exact e3 | exact fun a b h => e3 (a, b) h), e2, ?_, below_set2 _ _ (Nat.le_refl _) e4.bel⟩
      exact own_keep2 e4.own fun q hq => set2_other _ _ q (by have := (e4.own.lt q hq).1; omega)
end
end Go.Proofs.Ytibhjkmbbfgnpaa
