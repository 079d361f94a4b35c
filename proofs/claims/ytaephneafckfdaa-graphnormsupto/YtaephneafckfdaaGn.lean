/- GraphNorms: the walk. -/
import Derived.Test.YtaephneafckfdaaGl
namespace Go.Proofs.Ytaephneafckfdaa
open Go.RowKit GM
/-- All that lies beneath the law. -/
structure Lw (N : Int) (E : List (Int × Int)) (v : Value) (g cap g4 : Nat) (w X : World) : Prop where
  bel : Below w.heap.size w X
  el : El v E X
  full : El (.slice (some ⟨g, 0, none⟩) (E.length + 1) cap) (E ++ [(-77, 77)]) X
  par : X.heap[w.heap.size]? = some (.cells #[.int .i64 N, v] 24 (0, 0))
  own : X.heap[g4]? = some (.cells #[.int .i64 N, .slice (some ⟨g, 0, none⟩) E.length cap] 24 (0, 0))
theorem Lw.below {N : Int} {E : List (Int × Int)} {v : Value} {g cap g4 : Nat} {w X Y : World} (h : Lw N E v g cap g4 w X) (b : Below X.heap.size X Y) : Lw N E v g cap g4 w Y :=
  ⟨h.bel.trans (b.mono h.bel.size), h.el.below b, h.full.below b, (b.block _ (Array.getElem?_eq_some_iff.1 h.par).1).trans h.par, (b.block _ (Array.getElem?_eq_some_iff.1 h.own).1).trans h.own⟩
theorem Lw.cells {N : Int} {E : List (Int × Int)} {v : Value} {g cap g4 : Nat} {w X : World} (h : Lw N E v g cap g4 w X) : X.cell? ⟨w.heap.size, 0, none⟩ = some (.int .i64 N) ∧ X.cell? ⟨w.heap.size, 1, none⟩ = some v ∧ X.cell? ⟨g4, 0, none⟩ = some (.int .i64 N) ∧ X.cell? ⟨g4, 1, none⟩ = some (.slice (some ⟨g, 0, none⟩) E.length cap) :=
  ⟨(cell_of_row _ _ _ _ _ _ h.par).trans rfl, (cell_of_row _ _ _ _ _ _ h.par).trans rfl, (cell_of_row _ _ _ _ _ _ h.own).trans rfl, (cell_of_row _ _ _ _ _ _ h.own).trans rfl⟩
theorem Lw.half {N : Int} {E : List (Int × Int)} {v : Value} {g cap g4 : Nat} {w X : World} (h : Lw N E v g cap g4 w X) : El (.slice (some ⟨g, 0, none⟩) E.length cap) E X := by
  rcases h.full with ⟨e, -⟩ | ⟨b, off, cap', h1, h2, h3, h4, h5⟩
  · cases e
  · simp only [Value.slice.injEq, Option.some.injEq, Addr.mk.injEq] at h1
    obtain ⟨⟨rfl, rfl, -⟩, -, rfl⟩ := h1
    rw [List.length_append, List.length_singleton] at h2 h5
    refine .inr ⟨g, 0, cap, rfl, by omega, h3, h4, fun j hj => ?_⟩
    have := h5 j (by omega)
    have e : (E ++ [((-77 : Int), (77 : Int))]).getD j (0, 0) = E.getD j (0, 0) := by simp [List.getD, List.getElem?_append_left hj]
    rw [e] at this
    exact this
set_option maxRecDepth 100000 in
set_option maxHeartbeats 4000000 in
theorem norms_any (N : Int) (E : List (Int × Int)) (hn : E.length ≤ 1073741824) (v : Value) (w : World) (hv : El v E w) :
    Calls Try.prog 3 #[grV N v] w fun e w' => e = .returned (.bool true) ∧ Below w.heap.size w w' := by
  unfold grV
  obtain ⟨oo, cc, hvv0, -, -⟩ := hv.form
  have HVV : Hid (v = .slice oo E.length cc) := hvv0
  obtain ⟨W0, hW0⟩ : ∃ W0, w.alloc (.cells #[.int .i64 N, v] 24) = W0 := ⟨_, rfl⟩
  have b0 : Below w.heap.size w W0 := by rw [← hW0]; exact (Below.refl _ w).alloc (Nat.le_refl _) _
  have r0 : W0.heap[w.heap.size]? = some (.cells #[.int .i64 N, v] 24 (0, 0)) := by rw [← hW0]; exact heap_alloc_new _ _
  have C := roomy_any N E hn v W0 (hv.below b0)
  unfold grV at C
  have HC : Hid _ := C
  have HW0 : Hid (w.alloc (.cells #[.int .i64 N, v] 24) = W0) := hW0
  have H0 : Hid (Below w.heap.size w W0 ∧ W0.heap[w.heap.size]? = some (.cells #[.int .i64 N, v] 24 (0, 0)) ∧ El v E w ∧ E.length ≤ 1073741824) := ⟨b0, r0, hv, hn⟩
  clear C hW0 b0 r0 hv hn hvv0
  go_enter Try.func3, Try.ntmps3
  go_wp2_with fail
  rw [HW0.out]
  refine Calls.mono HC.out ?_
  rintro e W1 ⟨g, cap, rfl, hcap, hfull, b1⟩
  obtain ⟨W2, hW2⟩ : ∃ W2, W1.alloc (.cells #[.int .i64 N, .slice (some ⟨g, 0, none⟩) E.length cap] 24) = W2 := ⟨_, rfl⟩
  obtain ⟨g4, hg4⟩ : ∃ g4, W1.heap.size = g4 := ⟨_, rfl⟩
  have L2 : Lw N E v g cap g4 w W2 := by
    have b2 : Below W1.heap.size W1 W2 := by rw [← hW2]; exact (Below.refl _ W1).alloc (Nat.le_refl _) _
    have q1 : Below w.heap.size w W1 := H0.out.1.trans (b1.mono H0.out.1.size)
    have r1 := (b1.block _ (Array.getElem?_eq_some_iff.1 H0.out.2.1).1).trans H0.out.2.1
    refine ⟨q1.trans (b2.mono q1.size), H0.out.2.2.1.below (q1.trans (b2.mono q1.size)), hfull.below b2, (b2.block _ (Array.getElem?_eq_some_iff.1 r1).1).trans r1, ?_⟩
    rw [← hg4, ← hW2]; exact heap_alloc_new _ _
  have HL : Hid (∀ X, Below W2.heap.size W2 X → Lw N E v g cap g4 w X) := fun X h => L2.below h
  have HCAP : Hid (E.length + 1 ≤ cap ∧ E.length ≤ 1073741824) := ⟨hcap, H0.out.2.2.2⟩
  obtain ⟨a, ha⟩ : ∃ a, a = (chk N E).1 := ⟨_, rfl⟩
  obtain ⟨b, hb⟩ : ∃ b, b = (chk N E).2 := ⟨_, rfl⟩
  have K1 : Hid (∀ X, Below W2.heap.size W2 X → Calls Try.prog 10 #[.agg #[.int .i64 N, .slice (some ⟨g, 0, none⟩) E.length cap]] X fun e w' => e = .returned (.tuple #[.int .i64 (a : Int), .int .i64 (b : Int)]) ∧ Below X.heap.size X w') := fun X h => by rw [ha, hb]; exact check_any N E _ X (HL.out X h).half
  have K2 : Hid (∀ X, Below W2.heap.size W2 X → Calls Try.prog 11 #[.agg #[.int .i64 N, v]] X fun e w' => e = .returned (.tuple #[.int .i64 (a : Int), .int .i64 (b : Int)]) ∧ Below X.heap.size X w') := fun X h => by rw [ha, hb]; exact checkR_any N E _ X (HL.out X h).el
  obtain ⟨M, hM⟩ : ∃ M, M = okN N E := ⟨_, rfl⟩
  obtain ⟨R, hR⟩ : ∃ R, R = nrmR N E := ⟨_, rfl⟩
  obtain ⟨T, hT⟩ : ∃ T, T = trnR N E := ⟨_, rfl⟩
  have K3 : Hid (∀ X, Below W2.heap.size W2 X → Calls Try.prog 12 #[.agg #[.int .i64 N, .slice (some ⟨g, 0, none⟩) E.length cap]] X fun e w' => ∃ o c, e = .returned (.tuple #[.agg #[.int .i64 M, .slice o R.length c], .int .i64 (a : Int)]) ∧ El (.slice o R.length c) R w' ∧ Below X.heap.size X w') := fun X h => by
    rw [hM, hR, ha]
    refine (norm_any N E _ X (HL.out X h).half).mono ?_
    rintro e w' ⟨u, rfl, h1, h2, -⟩
    obtain ⟨o, c, rfl, -, -⟩ := h1.form
    exact ⟨o, c, rfl, h1, h2⟩
  have K4 : Hid (∀ X, Below W2.heap.size W2 X → Calls Try.prog 13 #[.agg #[.int .i64 N, v]] X fun e w' => ∃ o c, e = .returned (.tuple #[.agg #[.int .i64 M, .slice o R.length c], .int .i64 (a : Int)]) ∧ El (.slice o R.length c) R w' ∧ Below X.heap.size X w') := fun X h => by
    rw [hM, hR, ha]
    refine (normR_any N E _ X (HL.out X h).el).mono ?_
    rintro e w' ⟨u, rfl, h1, h2, -⟩
    obtain ⟨o, c, rfl, -, -⟩ := h1.form
    exact ⟨o, c, rfl, h1, h2⟩
  have K5 : Hid (∀ X, Below W2.heap.size W2 X → Calls Try.prog 15 #[.agg #[.int .i64 N, .slice (some ⟨g, 0, none⟩) E.length cap]] X fun e w' => ∃ o c, e = .returned (.tuple #[.agg #[.int .i64 M, .slice o T.length c], .int .i64 (a : Int)]) ∧ El (.slice o T.length c) T w' ∧ Below X.heap.size X w' ∧ ∀ q, (Value.slice o T.length c).ownBlock = some q → X.heap.size ≤ q) := fun X h => by
    rw [hM, hT, ha]
    refine (transpose_any N E _ X (HL.out X h).half).mono ?_
    rintro e w' ⟨u, rfl, h1, h2, h3⟩
    obtain ⟨o, c, rfl, -, -⟩ := h1.form
    exact ⟨o, c, rfl, h1, h2, fun q hq => by have := h3 q hq; omega⟩
  have K6 : Hid (∀ X, Below W2.heap.size W2 X → Calls Try.prog 16 #[.agg #[.int .i64 N, v]] X fun e w' => ∃ o c, e = .returned (.tuple #[.agg #[.int .i64 M, .slice o T.length c], .int .i64 (a : Int)]) ∧ El (.slice o T.length c) T w' ∧ Below X.heap.size X w' ∧ ∀ q, (Value.slice o T.length c).ownBlock = some q → X.heap.size ≤ q) := fun X h => by
    rw [hM, hT, ha]
    refine (transposeR_any N E _ X (HL.out X h).el).mono ?_
    rintro e w' ⟨u, rfl, h1, h2, h3⟩
    obtain ⟨o, c, rfl, -, -⟩ := h1.form
    exact ⟨o, c, rfl, h1, h2, fun q hq => by have := h3 q hq; omega⟩
  have K7 : Hid (∀ X, Below W2.heap.size W2 X → Calls Try.prog 17 #[.slice (some ⟨g, 0, none⟩) (E.length + 1) cap, .agg #[.int .i64 N, v]] X fun e w' => e = .returned (.bool true) ∧ Below X.heap.size X w') := fun X h => kept_any N E HCAP.out.2 g cap HCAP.out.1 v X (HL.out X h).full (HL.out X h).el
  have K8 : Hid (∀ X Q x y, El x Q X → El y Q X → Calls Try.prog 14 #[.agg #[.int .i64 M, x], .agg #[.int .i64 M, y]] X fun e w' => e = .returned (.bool true) ∧ Below X.heap.size X w') := fun X Q x y h1 h2 => sameG_any M Q x y X h1 h2
  have KC : Hid (∀ X, Below W2.heap.size W2 X → X.cell? ⟨w.heap.size, 0, none⟩ = some (.int .i64 N) ∧ X.cell? ⟨w.heap.size, 1, none⟩ = some v ∧ X.cell? ⟨g4, 0, none⟩ = some (.int .i64 N) ∧ X.cell? ⟨g4, 1, none⟩ = some (.slice (some ⟨g, 0, none⟩) E.length cap)) := fun X h => (HL.out X h).cells
  have KB : Hid (∀ X, Below W2.heap.size W2 X → Below w.heap.size w X) := fun X h => (HL.out X h).bel
  have HW2 : Hid (W1.alloc (.cells #[.int .i64 N, .slice (some ⟨g, 0, none⟩) E.length cap] 24) = W2 ∧ W1.heap.size = g4) := ⟨hW2, hg4⟩
  clear HC hcap hfull b1 L2 HL H0 hM hR hT ha hb hW2 hg4 HW0
  have HCK : Hid _ := K1.out W2 (Below.refl _ _)
  clear K1
  go_wp2_with fail
  rw [HW2.out.1, HW2.out.2]
  refine Calls.mono HCK.out ?_
  rintro e W3 ⟨rfl, b3⟩
  have B3 : Hid (Below W2.heap.size W2 W3) := b3
  obtain ⟨p0, p1, p2, p3⟩ := KC.out W3 b3
  have HC2 : Hid _ := K2.out W3 b3
  clear b3 HCK K2
  go_wp2_with fail
  refine Calls.mono HC2.out ?_
  rintro e W4 ⟨rfl, b4⟩
  have B4 : Hid (Below W2.heap.size W2 W4) := B3.out.trans (b4.mono B3.out.size)
  clear p0 p1 p2 p3 b4 HC2 B3
  obtain ⟨p0, p1, p2, p3⟩ := KC.out W4 B4.out
  have HC3 : Hid _ := K3.out W4 B4.out
  clear K3
  go_wp2_with fail
  refine Calls.mono HC3.out ?_
  rintro e W5 ⟨o5, c5, rfl, e5, b5⟩
  obtain ⟨W6, hW6⟩ : ∃ W6, W5.alloc (.cells #[.int .i64 M, .slice o5 R.length c5] 24) = W6 := ⟨_, rfl⟩
  obtain ⟨g9, hg9⟩ : ∃ g9, W5.heap.size = g9 := ⟨_, rfl⟩
  have q5 : Below W2.heap.size W2 W5 := B4.out.trans (b5.mono B4.out.size)
  have b6 : Below W5.heap.size W5 W6 := by rw [← hW6]; exact (Below.refl _ W5).alloc (Nat.le_refl _) _
  have B6 : Hid (Below W2.heap.size W2 W6 ∧ W2.heap.size ≤ g9 ∧ W6.heap[g9]? = some (.cells #[.int .i64 M, .slice o5 R.length c5] 24 (0, 0)) ∧ El (.slice o5 R.length c5) R W6) := ⟨q5.trans (b6.mono q5.size), by rw [← hg9]; exact q5.size, by rw [← hg9, ← hW6]; exact heap_alloc_new _ _, e5.below b6⟩
  have HW6 : Hid (W5.alloc (.cells #[.int .i64 M, .slice o5 R.length c5] 24) = W6 ∧ W5.heap.size = g9) := ⟨hW6, hg9⟩
  have r6 := KC.out W6 B6.out.1
  rw [← hW6] at r6
  clear p0 p1 p2 p3 b5 e5 hW6 hg9 b6 HC3 B4
  obtain ⟨p0, p1, -, -⟩ := r6
  obtain ⟨p2, p3, -, -⟩ := KC.out W5 q5
  have HC4 : Hid _ := K4.out W6 B6.out.1
  clear K4 q5
  go_wp2_with fail
  rw [HW6.out.1, HW6.out.2]
  refine Calls.mono HC4.out ?_
  rintro e W7 ⟨o7, c7, rfl, e7, b7⟩
  obtain ⟨W8, hW8⟩ : ∃ W8, W7.alloc (.cells #[.int .i64 M, .slice o7 R.length c7] 24) = W8 := ⟨_, rfl⟩
  obtain ⟨g10, hg10⟩ : ∃ g10, W7.heap.size = g10 := ⟨_, rfl⟩
  have q7 : Below W2.heap.size W2 W7 := B6.out.1.trans (b7.mono B6.out.1.size)
  have r7 : W7.heap[g9]? = some (.cells #[.int .i64 M, .slice o5 R.length c5] 24 (0, 0)) := (b7.block _ (Array.getElem?_eq_some_iff.1 B6.out.2.2.1).1).trans B6.out.2.2.1
  have l7 : g9 < W7.heap.size := (Array.getElem?_eq_some_iff.1 r7).1
  have b8 : Below W7.heap.size W7 W8 := by rw [← hW8]; exact (Below.refl _ W7).alloc (Nat.le_refl _) _
  have r8 : W8.heap[g9]? = some (.cells #[.int .i64 M, .slice o5 R.length c5] 24 (0, 0)) := (b8.block _ l7).trans r7
  have s8 : W8.heap[g10]? = some (.cells #[.int .i64 M, .slice o7 R.length c7] 24 (0, 0)) := by rw [← hg10, ← hW8]; exact heap_alloc_new _ _
  have B8 : Hid (Below W2.heap.size W2 W8 ∧ W2.heap.size ≤ g9 ∧ g9 < g10 ∧ W8.heap[g9]? = some (.cells #[.int .i64 M, .slice o5 R.length c5] 24 (0, 0)) ∧ W8.heap[g10]? = some (.cells #[.int .i64 M, .slice o7 R.length c7] 24 (0, 0))) := ⟨q7.trans (b8.mono q7.size), B6.out.2.1, by rw [← hg10]; exact l7, r8, s8⟩
  have HW8 : Hid (W7.alloc (.cells #[.int .i64 M, .slice o7 R.length c7] 24) = W8 ∧ W7.heap.size = g10) := ⟨hW8, hg10⟩
  have HC5 : Hid _ := K8.out W8 R _ _ ((B6.out.2.2.2.below b7).below b8) (e7.below b8)
  have t8 : (W7.alloc (.cells #[.int .i64 M, .slice o7 R.length c7] 24)).cell? ⟨g9, 0, none⟩ = some (.int .i64 M) ∧ (W7.alloc (.cells #[.int .i64 M, .slice o7 R.length c7] 24)).cell? ⟨g9, 1, none⟩ = some (.slice o5 R.length c5) := by
    rw [hW8]
    exact ⟨(cell_of_row _ _ _ _ _ _ r8).trans rfl, (cell_of_row _ _ _ _ _ _ r8).trans rfl⟩
  clear p0 p1 p2 p3 b7 e7 hW8 hg10 b8 r8 s8 l7 q7 HC4 B6
  obtain ⟨p0, p1⟩ := t8
  have p2 : W7.cell? ⟨g9, 0, none⟩ = some (.int .i64 M) := (cell_of_row _ _ _ _ _ _ r7).trans rfl
  have p3 : W7.cell? ⟨g9, 1, none⟩ = some (.slice o5 R.length c5) := (cell_of_row _ _ _ _ _ _ r7).trans rfl
  clear r7
  go_wp2_with fail
  rw [HW8.out.1, HW8.out.2]
  refine Calls.mono HC5.out ?_
  rintro e W9 ⟨rfl, b9⟩
  have B9 : Hid (Below W2.heap.size W2 W9 ∧ W2.heap.size ≤ g9 ∧ g9 < g10 ∧ W9.heap[g9]? = some (.cells #[.int .i64 M, .slice o5 R.length c5] 24 (0, 0)) ∧ W9.heap[g10]? = some (.cells #[.int .i64 M, .slice o7 R.length c7] 24 (0, 0))) := by
    obtain ⟨h1, h2, h3, h4, h5⟩ := B8.out
    exact ⟨h1.trans (b9.mono h1.size), h2, h3, (b9.block _ (Array.getElem?_eq_some_iff.1 h4).1).trans h4, (b9.block _ (Array.getElem?_eq_some_iff.1 h5).1).trans h5⟩
  clear p0 p1 p2 p3 b9 HC5 B8
  obtain ⟨-, -, p2, p3⟩ := KC.out W9 B9.out.1
  have HC6 : Hid _ := K5.out W9 B9.out.1
  clear K5
  go_wp2_with fail
  refine Calls.mono HC6.out ?_
  rintro e W10 ⟨o10, c10, rfl, e10, b10, n10⟩
  obtain ⟨W11, hW11⟩ : ∃ W11, (W10.setCell ⟨g9, 0, none⟩ (.int .i64 M)).setCell ⟨g9, 1, none⟩ (.slice o10 T.length c10) = W11 := ⟨_, rfl⟩
  have l9 := (Array.getElem?_eq_some_iff.1 B9.out.2.2.2.1).1
  have l10 := (Array.getElem?_eq_some_iff.1 B9.out.2.2.2.2).1
  have r10 : W10.heap[g9]? = some (.cells #[.int .i64 M, .slice o5 R.length c5] 24 (0, 0)) := (b10.block _ l9).trans B9.out.2.2.2.1
  have s10 : W10.heap[g10]? = some (.cells #[.int .i64 M, .slice o7 R.length c7] 24 (0, 0)) := (b10.block _ l10).trans B9.out.2.2.2.2
  have q10 : Below W2.heap.size W2 W10 := B9.out.1.trans (b10.mono B9.out.1.size)
  have B11 : Hid (Below W2.heap.size W2 W11 ∧ W2.heap.size ≤ g9 ∧ g9 < g10 ∧ W11.heap[g9]? = some (.cells #[.int .i64 M, .slice o10 T.length c10] 24 (0, 0)) ∧ W11.heap[g10]? = some (.cells #[.int .i64 M, .slice o7 R.length c7] 24 (0, 0)) ∧ El (.slice o10 T.length c10) T W11 ∧ ∀ q, (Value.slice o10 T.length c10).ownBlock = some q → g10 < q) := by
    obtain ⟨h1, h2, h3, h4, h5⟩ := B9.out
    rw [← hW11]
    refine ⟨below_set2 _ _ h2 q10, h2, h3, set2G _ _ r10, (set2_other _ _ _ (by omega)).trans s10, e10.keep (by simp [World.setCell]) fun q hq _ => set2_other _ _ q ?_, fun q hq => ?_⟩
    · have := n10 q hq; omega
    · have := n10 q hq; omega
  have HW11 : Hid ((W10.setCell ⟨g9, 0, none⟩ (.int .i64 M)).setCell ⟨g9, 1, none⟩ (.slice o10 T.length c10) = W11) := hW11
  have HC7 : Hid _ := K6.out W11 B11.out.1
  have t11 := KC.out W11 B11.out.1
  rw [← hW11] at t11
  clear p2 p3 K6 HC6 b10 e10 n10 hW11 l9 l10 s10 B9
  obtain ⟨p0, p1, -, -⟩ := t11
  obtain ⟨p2, p3, -, -⟩ := KC.out W10 q10
  have z0 : W10.cell? ⟨g9, 0, none⟩ = some (.int .i64 M) := (cell_of_row _ _ _ _ _ _ r10).trans rfl
  have z1 : W10.cell? ⟨g9, 1, none⟩ = some (.slice o5 R.length c5) := (cell_of_row _ _ _ _ _ _ r10).trans rfl
  have f0 : W10.frozen? ⟨g9, 0, none⟩ = false := frozen_of_row _ _ _ _ _ r10
  have f1 : W10.frozen? ⟨g9, 1, none⟩ = false := frozen_of_row _ _ _ _ _ r10
  clear r10 q10
  go_wp2_with fail
  rw [HW11.out]
  refine Calls.mono HC7.out ?_
  rintro e W12 ⟨o12, c12, rfl, e12, b12, n12⟩
  obtain ⟨W13, hW13⟩ : ∃ W13, (W12.setCell ⟨g10, 0, none⟩ (.int .i64 M)).setCell ⟨g10, 1, none⟩ (.slice o12 T.length c12) = W13 := ⟨_, rfl⟩
  have l11 := (Array.getElem?_eq_some_iff.1 B11.out.2.2.2.1).1
  have l12 := (Array.getElem?_eq_some_iff.1 B11.out.2.2.2.2.1).1
  have r12 : W12.heap[g9]? = some (.cells #[.int .i64 M, .slice o10 T.length c10] 24 (0, 0)) := (b12.block _ l11).trans B11.out.2.2.2.1
  have s12 : W12.heap[g10]? = some (.cells #[.int .i64 M, .slice o7 R.length c7] 24 (0, 0)) := (b12.block _ l12).trans B11.out.2.2.2.2.1
  have q12 : Below W2.heap.size W2 W12 := B11.out.1.trans (b12.mono B11.out.1.size)
  have r13 : W13.heap[g9]? = some (.cells #[.int .i64 M, .slice o10 T.length c10] 24 (0, 0)) := by rw [← hW13]; exact (set2_other _ _ _ (by have := B11.out.2.2.1; omega)).trans r12
  have s13 : W13.heap[g10]? = some (.cells #[.int .i64 M, .slice o12 T.length c12] 24 (0, 0)) := by rw [← hW13]; exact set2G _ _ s12
  have B13 : Hid (Below W2.heap.size W2 W13) := by
    rw [← hW13]
    exact below_set2 _ _ (by have := B11.out.2.1; have := B11.out.2.2.1; omega) q12
  have HC8 : Hid _ := K8.out W13 T _ _ (by
      rw [← hW13]
      exact (B11.out.2.2.2.2.2.1.below b12).keep (by simp [World.setCell]) fun q hq _ => set2_other _ _ q (by have := B11.out.2.2.2.2.2.2 q hq; omega)) (by
      rw [← hW13]
      exact e12.keep (by simp [World.setCell]) fun q hq _ => set2_other _ _ q (by have := n12 q hq; omega))
  have HW13 : Hid ((W12.setCell ⟨g10, 0, none⟩ (.int .i64 M)).setCell ⟨g10, 1, none⟩ (.slice o12 T.length c12) = W13) := hW13
  have t13 : ((W13.cell? ⟨g9, 0, none⟩ = some (.int .i64 M) ∧ W13.cell? ⟨g9, 1, none⟩ = some (.slice o10 T.length c10)) ∧ W13.cell? ⟨g10, 0, none⟩ = some (.int .i64 M) ∧ W13.cell? ⟨g10, 1, none⟩ = some (.slice o12 T.length c12)) := ⟨⟨(cell_of_row _ _ _ _ _ _ r13).trans rfl, (cell_of_row _ _ _ _ _ _ r13).trans rfl⟩, (cell_of_row _ _ _ _ _ _ s13).trans rfl, (cell_of_row _ _ _ _ _ _ s13).trans rfl⟩
  rw [← hW13] at t13
  clear p0 p1 p2 p3 z0 z1 f0 f1 HC7 b12 e12 n12 hW13 l11 l12 B11 K8 r13 s13 q12
  obtain ⟨⟨p0, p1⟩, p2, p3⟩ := t13
  have y0 : W12.cell? ⟨g9, 0, none⟩ = some (.int .i64 M) := (cell_of_row _ _ _ _ _ _ r12).trans rfl
  have y1 : W12.cell? ⟨g9, 1, none⟩ = some (.slice o10 T.length c10) := (cell_of_row _ _ _ _ _ _ r12).trans rfl
  have z0 : W12.cell? ⟨g10, 0, none⟩ = some (.int .i64 M) := (cell_of_row _ _ _ _ _ _ s12).trans rfl
  have z1 : W12.cell? ⟨g10, 1, none⟩ = some (.slice o7 R.length c7) := (cell_of_row _ _ _ _ _ _ s12).trans rfl
  have f0 : W12.frozen? ⟨g10, 0, none⟩ = false := frozen_of_row _ _ _ _ _ s12
  have f1 : W12.frozen? ⟨g10, 1, none⟩ = false := frozen_of_row _ _ _ _ _ s12
  clear r12 s12
  go_wp2_with fail
  rw [HW13.out]
  refine Calls.mono HC8.out ?_
  rintro e W14 ⟨rfl, b14⟩
  have B14 : Hid (Below W2.heap.size W2 W14) := B13.out.trans (b14.mono B13.out.size)
  clear p0 p1 p2 p3 y0 y1 z0 z1 f0 f1 HC8 b14 B13
  obtain ⟨p0, p1, -, -⟩ := KC.out W14 B14.out
  have HC9 : Hid _ := K7.out W14 B14.out
  clear K7
  go_wp2_with fail
  refine Calls.mono HC9.out ?_
  rintro e W15 ⟨rfl, b15⟩
  have B15 : Hid (Below W2.heap.size W2 W15) := B14.out.trans (b15.mono B14.out.size)
  clear p0 p1 HC9 b15 B14
  go_wp2
  go_ret
  exact ⟨rfl, KB.out _ B15.out⟩
end Go.Proofs.Ytaephneafckfdaa
