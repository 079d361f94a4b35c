/- Graphs searched: wayOf, Reaches, Way. -/
import Derived.Test.YtgedmfcfhdfoeaaJgB
import Derived.Test.YtgedmfcfhdfoeaaGxI
namespace Go.Proofs.Ytgedmfcfhdfoeaa
open Go.RowKit GM
set_option maxRecDepth 20000
theorem ds_of_bl {F : Nat → List Nat} {a b : Nat} : (∀ d x, Bl F a d x → decide (x = b) = false) ↔ ∀ d, ¬ Bl F a d b := by
  constructor
  · intro h d k
    have := h d b k
    simp at this
  · intro h d x k
    have : x ≠ b := fun e => h d (e ▸ k)
    simp [this]
theorem ndF_lt {N : Nat} {E : List (Nat × Nat)} (v x : Nat) (h : x ∈ ndF N E v) : x < N := trL_lt _ _ _ _ h
theorem ndF_len {N : Nat} {E : List (Nat × Nat)} (v : Nat) : (ndF N E v).length ≤ N := trL_len _ _ _
/-- The closure that tells the end. -/
theorem wayC_any (W : World) {kb b v : Nat} (h : W.cell? ⟨kb, 0, none⟩ = some (.int .i64 (b : Int))) : Calls Try.prog 73 #[.int .i64 (v : Int), .pointer (some ⟨kb, 0, none⟩)] W fun e w' => e = .returned (.bool (decide (v = b))) ∧ Below W.heap.size W w' := by
  have hb := Below.refl W.heap.size W
  by_cases e : v = b
  · have i1 : (v : Int) = (b : Int) := by rw [e]
    rw [show decide (v = b) = true by simp [e]]
    go_enter Try.func73, Try.ntmps73
    go_wp2_with fail
    go_ret
    exact ⟨rfl, hb⟩
  · have i1 : ¬ (v : Int) = (b : Int) := by omega
    have i2 : ((v : Int) == (b : Int)) = false := by simpa using i1
    rw [show decide (v = b) = false by simp [e]]
    go_enter Try.func73, Try.ntmps73
    go_wp2_with fail
    go_ret
    exact ⟨rfl, hb⟩
set_option maxRecDepth 100000 in
set_option maxHeartbeats 3200000 in
theorem wayOf_any (N : Nat) (hN : N ≤ 8192) (E : List (Nat × Nat)) (hE : ∀ e ∈ E, e.1 < N ∧ e.2 < N) (hn : E.length ≤ 1048576) (v : Value) (w : World) (hv : El v (zE E) w) (a b : Nat) (ha : a < N) :
    Calls Try.prog 49 #[grV (N : Int) v, .int .i64 (a : Int), .int .i64 (b : Int)] w (ShP (ndF N E) a (fun x => decide (x = b)) w) := by
  obtain ⟨W0, hW0⟩ : ∃ W0, w.alloc (.cells #[.int .i64 (N : Int), v] 24) = W0 := ⟨_, rfl⟩
  have b0 : Below w.heap.size w W0 := by rw [← hW0]; exact (Below.refl _ w).alloc (Nat.le_refl _) _
  have s0 : W0.heap.size = w.heap.size + 1 := by rw [← hW0]; simp
  have r0 : W0.heap[w.heap.size]? = some (.cells #[.int .i64 (N : Int), v] 24 (0, 0)) := by rw [← hW0]; exact heap_alloc_new _ _
  obtain ⟨W1, hW1⟩ : ∃ W1, W0.alloc (.cells #[.int .i64 (b : Int)] 3) = W1 := ⟨_, rfl⟩
  have b1 : Below W0.heap.size W0 W1 := by rw [← hW1]; exact (Below.refl _ W0).alloc (Nat.le_refl _) _
  have r1 : W1.heap[W0.heap.size]? = some (.cells #[.int .i64 (b : Int)] 3 (0, 0)) := by rw [← hW1]; exact heap_alloc_new _ _
  have b01 := b0.trans (b1.mono b0.size)
  have CN := needsOf_new N hN E hE (by omega) v W1 (hv.below b01)
  obtain ⟨kg, hkg⟩ : ∃ k, w.heap.size = k := ⟨_, rfl⟩
  obtain ⟨kb, hkb⟩ : ∃ k, W0.heap.size = k := ⟨_, rfl⟩
  have c0 : W1.cell? ⟨kg, 0, none⟩ = some (.int .i64 (N : Int)) := by rw [← hkg]; exact cell_belowX b1 ((cell_of_row _ _ _ _ _ _ r0).trans rfl)
  have c1 : W1.cell? ⟨kg, 1, none⟩ = some v := by rw [← hkg]; exact cell_belowX b1 ((cell_of_row _ _ _ _ _ _ r0).trans rfl)
  have hWW : Hid ((w.alloc (.cells #[.int .i64 (N : Int), v] 24)).alloc (.cells #[.int .i64 (b : Int)] 3) = W1) := by rw [hW0]; exact hW1
  have hk1 : kg + 1 = kb := by omega
  have c0r := c0
  have c1r := c1
  rw [← hWW.out] at c0r c1r
  rw [hkb] at r1
  have HQ := mkHid (And.intro hN (And.intro ha (And.intro b01 (And.intro r1 hkg))))
  unfold grV at CN ⊢
  clear hW0 b0 s0 r0 hW1 b1 b01 hv hE hn ha hN r1 hkb
  go_enter Try.func49, Try.ntmps49
  go_wp2_with fail
  try rw [hkg]
  try rw [hk1]
  try rw [hWW.out]
  refine Calls.mono CN ?_
  rintro e W2 ⟨g, V, rfl, hrw, b12, hg2⟩
  obtain ⟨hN, ha, b01, r1, hkg⟩ := HQ.out
  obtain ⟨gv, hgv⟩ := rws_ro hrw
  have r2 := (b12.block _ (Array.getElem?_eq_some_iff.1 r1).1).trans r1
  have CS := short_any W2 (g := g) (N := N) (a := a) (kb := kb) (gv := gv) (F := ndF N E) (V := V) (fun x => decide (x = b)) ha (by omega) (fun v _ x hx => ndF_lt v x hx) (fun v _ => by have := ndF_len (N := N) (E := E) v; omega) (fun v _ => List.Pairwise.filter _ List.pairwise_lt_range) (fun v hv => ⟨(hgv v hv).1, (hgv v hv).2.1⟩) (fun v W _ hW => wayC_any W (cell_belowX hW ((cell_of_row _ _ _ _ _ _ r2).trans rfl)))
  have HB := mkHid (b01.trans (b12.mono b01.size))
  unfold nOf at CS
  clear hN ha b01 r1 hkg hgv r2 b12 hrw hg2 CN c0 c1 c0r c1r
  go_wp2_with fail
  refine Calls.mono CS ?_
  rintro e W3 ⟨q1, q2⟩
  have b3 := HB.out.trans (q1.mono HB.out.size)
  rcases q2 with ⟨rfl, q2⟩ | ⟨t, d, L, o, c, p1, p2, p3, rfl, p4⟩
  · have HR := mkHid (And.intro b3 q2)
    clear b3 q1 q2 CS
    go_wp2_with fail
    go_ret
    exact ⟨HR.out.1, .inl ⟨rfl, HR.out.2⟩⟩
  · have HR := mkHid (And.intro b3 (And.intro p1 (And.intro p2 (And.intro p3 (own_base p4 HB.out.size)))))
    clear b3 q1 p1 p2 p3 p4 CS
    go_wp2_with fail
    go_ret
    exact ⟨HR.out.1, .inr ⟨t, d, L, o, c, HR.out.2.1, HR.out.2.2.1, HR.out.2.2.2.1, rfl, HR.out.2.2.2.2⟩⟩
theorem il_two (w : World) (a b : Nat) : Il w.heap.size (.slice (some ⟨w.heap.size, 0, none⟩) 2 2) [a, b] (w.alloc (.cells #[.int .i64 (a : Int), .int .i64 (b : Int)] 3)) := by
  refine ⟨_, 2, rfl, fun _ => ⟨0, rfl, by simp, fun j hj => ?_⟩⟩
  have h := heap_alloc_new w (.cells #[.int .i64 (a : Int), .int .i64 (b : Int)] 3)
  have hj : j < 2 := hj
  rcases (by omega : j = 0 ∨ j = 1) with rfl | rfl
  · exact (cell_of_row _ _ _ _ _ _ h).trans rfl
  · exact (cell_of_row _ _ _ _ _ _ h).trans rfl
theorem il_one (w : World) (a : Nat) : Il w.heap.size (.slice (some ⟨w.heap.size, 0, none⟩) 1 1) [a] (w.alloc (.cells #[.int .i64 (a : Int)] 3)) := by
  refine ⟨_, 1, rfl, fun _ => ⟨0, rfl, by simp, fun j hj => ?_⟩⟩
  have h := heap_alloc_new w (.cells #[.int .i64 (a : Int)] 3)
  have hj : j < 1 := hj
  obtain rfl : j = 0 := by omega
  exact (cell_of_row _ _ _ _ _ _ h).trans rfl
set_option maxRecDepth 100000 in
set_option maxHeartbeats 3200000 in
theorem reaches_any (N : Nat) (hN : N ≤ 8192) (E : List (Nat × Nat)) (hE : ∀ e ∈ E, e.1 < N ∧ e.2 < N) (hn : E.length ≤ 1048576) (v : Value) (w : World) (hv : El v (zE E) w) (hc : (chk (N : Int) (zE E)).1 = 0) (a b : Nat) (ha : a < N) (hb : b < N) :
    Calls Try.prog 18 #[grV (N : Int) v, .int .i64 (a : Int), .int .i64 (b : Int)] w fun e w' => Below w.heap.size w w' ∧ ∃ r : Bool, e = .returned (.tuple #[.bool r, .int .i64 0]) ∧ (r = true ↔ ∃ d, Bl (ndF N E) a d b) := by
  obtain ⟨W0, hW0⟩ : ∃ W0, w.alloc (.cells #[.int .i64 (N : Int), v] 24) = W0 := ⟨_, rfl⟩
  have b0 : Below w.heap.size w W0 := by rw [← hW0]; exact (Below.refl _ w).alloc (Nat.le_refl _) _
  have s0 : W0.heap.size = w.heap.size + 1 := by rw [← hW0]; simp
  have r0 : W0.heap[w.heap.size]? = some (.cells #[.int .i64 (N : Int), v] 24 (0, 0)) := by rw [← hW0]; exact heap_alloc_new _ _
  obtain ⟨W1, hW1⟩ : ∃ W1, W0.alloc (.cells #[.int .i64 (a : Int), .int .i64 (b : Int)] 3) = W1 := ⟨_, rfl⟩
  have b1 : Below W0.heap.size W0 W1 := by rw [← hW1]; exact (Below.refl _ W0).alloc (Nat.le_refl _) _
  have b01 := b0.trans (b1.mono b0.size)
  have CC := checkWith_roots N E v W1 (hv.below b01) hc (rv := .slice (some ⟨W0.heap.size, 0, none⟩) 2 2) (S := [a, b]) (by rw [← hW1]; exact il_two W0 a b) (fun x hx => by
    rcases List.mem_cons.1 hx with rfl | hx
    · exact ha
    · rw [List.mem_singleton.1 hx]; exact hb) (by show 2 < 1000000000; omega)
  obtain ⟨kg, hkg⟩ : ∃ k, w.heap.size = k := ⟨_, rfl⟩
  obtain ⟨kb, hkb⟩ : ∃ k, W0.heap.size = k := ⟨_, rfl⟩
  have c0 : W1.cell? ⟨kg, 0, none⟩ = some (.int .i64 (N : Int)) := by rw [← hkg]; exact cell_belowX b1 ((cell_of_row _ _ _ _ _ _ r0).trans rfl)
  have c1 : W1.cell? ⟨kg, 1, none⟩ = some v := by rw [← hkg]; exact cell_belowX b1 ((cell_of_row _ _ _ _ _ _ r0).trans rfl)
  have hWW : Hid ((w.alloc (.cells #[.int .i64 (N : Int), v] 24)).alloc (.cells #[.int .i64 (a : Int), .int .i64 (b : Int)] 3) = W1) := by rw [hW0]; exact hW1
  have hk1 : kg + 1 = kb := by omega
  have c0r := c0
  have c1r := c1
  rw [← hWW.out] at c0r c1r
  rw [hkb] at CC
  have HQ := mkHid (And.intro hN (And.intro hE (And.intro hn (And.intro hv (And.intro ha (And.intro hb b01))))))
  unfold grV at CC ⊢
  clear hW0 b0 s0 r0 hW1 b1 b01 hv hE hn ha hb hN hkb hc
  go_enter Try.func18, Try.ntmps18
  go_wp2_with fail
  try rw [hkg]
  try rw [hk1]
  try rw [hWW.out]
  refine Calls.mono CC ?_
  rintro e W2 ⟨rfl, b12⟩
  obtain ⟨hN, hE, hn, hv, ha, hb, b01⟩ := HQ.out
  have b02 := b01.trans (b12.mono b01.size)
  have CW := wayOf_any N hN E hE hn v W2 (hv.below b02) a b ha
  have d0 : W2.cell? ⟨kg, 0, none⟩ = some (.int .i64 (N : Int)) := cell_belowX b12 c0
  have d1 : W2.cell? ⟨kg, 1, none⟩ = some v := cell_belowX b12 c1
  have HB := mkHid b02
  unfold grV at CW
  clear hN hE hn hv ha hb b01 b12 b02 CC c0 c1 c0r c1r
  go_wp2_with fail
  refine Calls.mono CW ?_
  rintro e W3 ⟨q1, q2⟩
  have b3 := HB.out.trans (q1.mono HB.out.size)
  rcases q2 with ⟨rfl, q2⟩ | ⟨t, d, L, o, c, p1, p2, p3, rfl, p4⟩
  · have HR := mkHid (And.intro b3 (ds_of_bl.1 q2))
    clear b3 q1 q2 CW
    go_wp2_with fail
    go_ret2
    exact ⟨HR.out.1, false, rfl, by simpa using HR.out.2⟩
  · have HR := mkHid (And.intro b3 (show ∃ d, Bl (ndF N E) a d b from by
      have := of_decide_eq_true p2
      rw [← this]
      exact ⟨d, p1.ds.1⟩))
    have hd1 : (0 : Int) < ((d + 1 : Nat) : Int) := by omega
    obtain ⟨m, hm⟩ : ∃ m, d + 1 = m := ⟨_, rfl⟩
    rw [hm] at hd1
    rw [hm]
    have hd0 : 0 < m := by omega
    clear b3 q1 p1 p2 p3 p4 CW hm
    go_wp2_with fail
    go_ret2
    exact ⟨HR.out.1, true, rfl, by simpa using HR.out.2⟩
set_option maxRecDepth 100000 in
set_option maxHeartbeats 3200000 in
theorem way_any (N : Nat) (hN : N ≤ 8192) (E : List (Nat × Nat)) (hE : ∀ e ∈ E, e.1 < N ∧ e.2 < N) (hn : E.length ≤ 1048576) (v : Value) (w : World) (hv : El v (zE E) w) (hc : (chk (N : Int) (zE E)).1 = 0) (a b : Nat) (ha : a < N) (hb : b < N) :
    Calls Try.prog 20 #[grV (N : Int) v, .int .i64 (a : Int), .int .i64 (b : Int)] w fun e w' => Below w.heap.size w w' ∧ ((e = .returned (.tuple #[.slice none 0 0, .int .i64 7]) ∧ ∀ d, ¬ Bl (ndF N E) a d b) ∨
      ∃ d L o c, Pth (ndF N E) a b d L ∧ e = .returned (.tuple #[.slice o (d + 1) c, .int .i64 0]) ∧ w'.ownsRow w.heap.size 3 1 (.slice o (d + 1) c) (d + 1) (ik L).toList) := by
  obtain ⟨W0, hW0⟩ : ∃ W0, w.alloc (.cells #[.int .i64 (N : Int), v] 24) = W0 := ⟨_, rfl⟩
  have b0 : Below w.heap.size w W0 := by rw [← hW0]; exact (Below.refl _ w).alloc (Nat.le_refl _) _
  have s0 : W0.heap.size = w.heap.size + 1 := by rw [← hW0]; simp
  have r0 : W0.heap[w.heap.size]? = some (.cells #[.int .i64 (N : Int), v] 24 (0, 0)) := by rw [← hW0]; exact heap_alloc_new _ _
  obtain ⟨W1, hW1⟩ : ∃ W1, W0.alloc (.cells #[.int .i64 (a : Int), .int .i64 (b : Int)] 3) = W1 := ⟨_, rfl⟩
  have b1 : Below W0.heap.size W0 W1 := by rw [← hW1]; exact (Below.refl _ W0).alloc (Nat.le_refl _) _
  have b01 := b0.trans (b1.mono b0.size)
  have CC := checkWith_roots N E v W1 (hv.below b01) hc (rv := .slice (some ⟨W0.heap.size, 0, none⟩) 2 2) (S := [a, b]) (by rw [← hW1]; exact il_two W0 a b) (fun x hx => by
    rcases List.mem_cons.1 hx with rfl | hx
    · exact ha
    · rw [List.mem_singleton.1 hx]; exact hb) (by show 2 < 1000000000; omega)
  obtain ⟨kg, hkg⟩ : ∃ k, w.heap.size = k := ⟨_, rfl⟩
  obtain ⟨kb, hkb⟩ : ∃ k, W0.heap.size = k := ⟨_, rfl⟩
  have c0 : W1.cell? ⟨kg, 0, none⟩ = some (.int .i64 (N : Int)) := by rw [← hkg]; exact cell_belowX b1 ((cell_of_row _ _ _ _ _ _ r0).trans rfl)
  have c1 : W1.cell? ⟨kg, 1, none⟩ = some v := by rw [← hkg]; exact cell_belowX b1 ((cell_of_row _ _ _ _ _ _ r0).trans rfl)
  have hWW : Hid ((w.alloc (.cells #[.int .i64 (N : Int), v] 24)).alloc (.cells #[.int .i64 (a : Int), .int .i64 (b : Int)] 3) = W1) := by rw [hW0]; exact hW1
  have hk1 : kg + 1 = kb := by omega
  have c0r := c0
  have c1r := c1
  rw [← hWW.out] at c0r c1r
  rw [hkb] at CC
  have HQ := mkHid (And.intro hN (And.intro hE (And.intro hn (And.intro hv (And.intro ha (And.intro hb b01))))))
  unfold grV at CC ⊢
  clear hW0 b0 s0 r0 hW1 b1 b01 hv hE hn ha hb hN hkb hc
  go_enter Try.func20, Try.ntmps20
  go_wp2_with fail
  try rw [hkg]
  try rw [hk1]
  try rw [hWW.out]
  refine Calls.mono CC ?_
  rintro e W2 ⟨rfl, b12⟩
  obtain ⟨hN, hE, hn, hv, ha, hb, b01⟩ := HQ.out
  have b02 := b01.trans (b12.mono b01.size)
  have CW := wayOf_any N hN E hE hn v W2 (hv.below b02) a b ha
  have d0 : W2.cell? ⟨kg, 0, none⟩ = some (.int .i64 (N : Int)) := cell_belowX b12 c0
  have d1 : W2.cell? ⟨kg, 1, none⟩ = some v := cell_belowX b12 c1
  have HB := mkHid b02
  unfold grV at CW
  clear hN hE hn hv ha hb b01 b12 b02 CC c0 c1 c0r c1r
  go_wp2_with fail
  refine Calls.mono CW ?_
  rintro e W3 ⟨q1, q2⟩
  have b3 := HB.out.trans (q1.mono HB.out.size)
  rcases q2 with ⟨rfl, q2⟩ | ⟨t, d, L, o, c, p1, p2, p3, rfl, p4⟩
  · have HR := mkHid (And.intro b3 (ds_of_bl.1 q2))
    clear b3 q1 q2 CW
    go_wp2_with fail
    go_ret2
    exact ⟨HR.out.1, .inl ⟨rfl, HR.out.2⟩⟩
  · obtain rfl := of_decide_eq_true p2
    obtain ⟨m, hm⟩ : ∃ m, d + 1 = m := ⟨_, rfl⟩
    have hd1 : ¬ ((m : Int) = 0) := by omega
    have hd2 : ¬ m = 0 := by omega
    have HR := mkHid (And.intro b3 (And.intro p1 (own_base p4 HB.out.size)))
    rw [hm] at HR
    rw [hm]
    clear b3 q1 p1 p2 p3 p4 CW
    go_wp2_with fail
    go_ret2
    subst hm
    exact ⟨HR.out.1, .inr ⟨d, L, o, c, HR.out.2.1, rfl, HR.out.2.2⟩⟩
end Go.Proofs.Ytgedmfcfhdfoeaa
