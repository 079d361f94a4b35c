/- Several texts in one: GoK, GoL, HqG. -/
import Derived.Test.YtibhjkmbbfgnpaaGoF
import Derived.Test.YtibhjkmbbfgnpaaJoA
import Derived.Test.YtibhjkmbbfgnpaaGyE
import Derived.Test.YtibhjkmbbfgnpaaHqF
/- Graphs in order: ordered, Order, of any graph. -/
namespace Go.Proofs.Ytibhjkmbbfgnpaa
open Go.RowKit GM Gl
set_option maxRecDepth 20000
theorem ndF_out {N : Nat} {E : List (Nat × Nat)} (hE : ∀ e ∈ E, e.1 < N ∧ e.2 < N) (a : Nat) (ha : N ≤ a) : ndF N E a = [] := by
  rw [List.eq_nil_iff_forall_not_mem]
  intro b hb
  unfold ndF at hb
  rw [mem_trL] at hb
  unfold nds at hb
  rw [List.take_length] at hb
  obtain ⟨-, hb⟩ := hb
  obtain ⟨⟨x, y⟩, h1, h2⟩ := List.mem_map.1 hb
  obtain ⟨h3, -⟩ := List.mem_filter.1 h1
  have := (hE _ h3).1
  simp at h2 this
  omega
/-- What ordered answers. -/
def OdP (N : Nat) (E : List (Nat × Nat)) (w : World) (e : Ending) (w' : World) : Prop := Below w.heap.size w w' ∧ ((∃ g V o oa oc, e = .returned (.tuple #[.slice (some ⟨g, 0, none⟩) N N, .slice oa N oc, .int .i64 0]) ∧ Rws g N (ndF N E) V w' ∧ Top (ndF N E) N o ∧ w'.ownsRow w.heap.size 3 1 (.slice oa N oc) N (ik o).toList ∧ ∀ v, v < N → ¬ TG (ndF N E) v v) ∨
  e = .returned (.tuple #[.slice none 0 0, .slice none 0 0, .int .i64 81]) ∧ ∃ v, v < N ∧ TG (ndF N E) v v)
set_option maxRecDepth 100000 in
set_option maxHeartbeats 1600000 in
theorem ordered_all (N : Nat) (hN : N ≤ 1024) (E : List (Nat × Nat)) (hE : ∀ e ∈ E, e.1 < N ∧ e.2 < N) (hl : E.length ≤ 1000000) (hc : (chk (N : Int) (zE E)).1 = 0) (v : Value) (w : World) (hv : El v (zE E) w) :
    Calls Try.prog 39 #[grV (N : Int) v] w (OdP N E w) := by
  obtain ⟨W0, hW0⟩ : ∃ W0, w.alloc (.cells #[.int .i64 (N : Int), v] 24) = W0 := ⟨_, rfl⟩
  have b0 : Below w.heap.size w W0 := by rw [← hW0]; exact (Below.refl _ w).alloc (Nat.le_refl _) _
  have r0 : W0.heap[w.heap.size]? = some (.cells #[.int .i64 (N : Int), v] 24 (0, 0)) := by rw [← hW0]; exact heap_alloc_new _ _
  have HC : Hid (Calls Try.prog 26 #[grV (N : Int) v, .slice none 0 0] W0 fun e w' => e = .returned (.int .i64 0) ∧ Below W0.heap.size W0 w') := by
    have := checkWith_any (N : Int) (zE E) v W0 (hv.below b0)
    rw [hc] at this
    exact this
  have HN : Hid (∀ Y, Below w.heap.size w Y → Calls Try.prog 30 #[grV (N : Int) v] Y fun e w' => ∃ g' V', e = .returned (.slice (some ⟨g', 0, none⟩) N N) ∧ Rws g' N (ndF N E) V' w' ∧ Below Y.heap.size Y w') := fun Y bY => needsOf_any N (by omega) E hE (by omega) v Y (hv.below bY)
  have HS : Hid (w.heap.size < W0.heap.size ∧ Below w.heap.size w W0 ∧ W0.heap[w.heap.size]? = some (.cells #[.int .i64 (N : Int), v] 24 (0, 0)) ∧ N ≤ 1024 ∧ ∀ e ∈ E, e.1 < N ∧ e.2 < N) := ⟨(Array.getElem?_eq_some_iff.1 r0).1, b0, r0, hN, hE⟩
  have l0 : W0.cell? ⟨w.heap.size, 0, none⟩ = some (.int .i64 (N : Int)) := (cell_of_row _ _ _ _ _ _ r0).trans rfl
  have l1 : W0.cell? ⟨w.heap.size, 1, none⟩ = some v := (cell_of_row _ _ _ _ _ _ r0).trans rfl
  unfold grV at HC HN ⊢
  clear b0 r0 hv hN hE hl hc
  go_enter Try.func39, Try.ntmps39
  go_wp2_with fail
  with_reducible refine Calls.mono HC.out ?_
  rintro en W1 ⟨rfl, b1⟩
  have H1 : Hid (Below w.heap.size w W1 ∧ W1.heap[w.heap.size]? = some (.cells #[.int .i64 (N : Int), v] 24 (0, 0))) := ⟨HS.out.2.1.trans (b1.mono HS.out.2.1.size), (b1.block _ HS.out.1).trans HS.out.2.2.1⟩
  have l2 : W1.cell? ⟨w.heap.size, 0, none⟩ = some (.int .i64 (N : Int)) := (cell_of_row _ _ _ _ _ _ H1.out.2).trans rfl
  have l3 : W1.cell? ⟨w.heap.size, 1, none⟩ = some v := (cell_of_row _ _ _ _ _ _ H1.out.2).trans rfl
  have HC2 := mkHid (HN.out W1 H1.out.1)
  clear b1 l0 l1 hW0
  go_wp2_with fail
  with_reducible refine Calls.mono HC2.out ?_
  rintro en W2 ⟨g2, V2, rfl, R2, b2⟩
  have HO := mkHid (order_all N HS.out.2.2.2.1 (ndF N E) (fun a b hb => ndF_lt a b hb) (trL_nodup _ _) (ndF_out HS.out.2.2.2.2) g2 V2 W2 R2)
  have H2 : Hid (Rws g2 N (ndF N E) V2 W2 ∧ Below w.heap.size w W2 ∧ W2.heap[w.heap.size]? = some (.cells #[.int .i64 (N : Int), v] 24 (0, 0))) := ⟨R2, H1.out.1.trans (b2.mono H1.out.1.size), (b2.block _ (Array.getElem?_eq_some_iff.1 H1.out.2).1).trans H1.out.2⟩
  clear R2 b2 l2 l3
  go_wp2_with fail
  with_reducible refine Calls.mono HO.out ?_
  rintro en W3 ⟨o, ov, rfl, ⟨M, kn⟩, ow, b3⟩
  obtain ⟨oa, oc, rfl⟩ := own_size ow
  have rw3 := (b3.block _ (Array.getElem?_eq_some_iff.1 H2.out.2.2).1).trans H2.out.2.2
  have l4 : W3.cell? ⟨w.heap.size, 0, none⟩ = some (.int .i64 (N : Int)) := (cell_of_row _ _ _ _ _ _ rw3).trans rfl
  have b03 := H2.out.2.1.trans (b3.mono H2.out.2.1.size)
  rcases kn_cyc kn (fun v _ x hx => ndF_lt v x hx) with ⟨q1, q2, q3⟩ | ⟨q1, q2⟩
  · rw [q1] at ow ⊢
    have ni : ¬ ((N : Int) < (N : Int)) := by omega
    have HE : Hid (∃ o, Rws g2 N (ndF N E) V2 W3 ∧ Top (ndF N E) N o ∧ W3.ownsRow w.heap.size 3 1 (.slice oa N oc) N (ik o).toList ∧ Below w.heap.size w W3 ∧ ∀ v, v < N → ¬ TG (ndF N E) v v) := ⟨o, H2.out.1.below b3, q2, own_base ow H2.out.2.1.size, b03, q3⟩
    clear q1 q2 q3 ow b3 rw3 b03 kn HO
    go_wp2_with fail
    go_ret3
    obtain ⟨o, e1, e2, e3, e4, e5⟩ := HE.out
    exact ⟨e4, .inl ⟨g2, V2, o, oa, oc, rfl, e1, e2, e3, e5⟩⟩
  · obtain ⟨m, hm⟩ : ∃ m, o.length = m := ⟨_, rfl⟩
    rw [hm] at q1 ⊢
    have ni : (m : Int) < (N : Int) := by omega
    have HE := mkHid (And.intro b03 q2)
    clear q1 q2 ow b3 rw3 b03 kn HO hm
    go_wp2_with fail
    go_ret3
    exact ⟨HE.out.1, .inr ⟨rfl, HE.out.2⟩⟩
/-- What Order answers. -/
def OrP (N : Nat) (E : List (Nat × Nat)) (w : World) (e : Ending) (w' : World) : Prop := Below w.heap.size w w' ∧ ((∃ o oa oc, e = .returned (.tuple #[.slice oa N oc, .int .i64 0]) ∧ Top (ndF N E) N o ∧ w'.ownsRow w.heap.size 3 1 (.slice oa N oc) N (ik o).toList ∧ ∀ v, v < N → ¬ TG (ndF N E) v v) ∨
  e = .returned (.tuple #[.slice none 0 0, .int .i64 81]) ∧ ∃ v, v < N ∧ TG (ndF N E) v v)
set_option maxRecDepth 100000 in
set_option maxHeartbeats 1600000 in
theorem Order_all (N : Nat) (hN : N ≤ 1024) (E : List (Nat × Nat)) (hE : ∀ e ∈ E, e.1 < N ∧ e.2 < N) (hl : E.length ≤ 1000000) (hc : (chk (N : Int) (zE E)).1 = 0) (v : Value) (w : World) (hv : El v (zE E) w) :
    Calls Try.prog 17 #[grV (N : Int) v] w (OrP N E w) := by
  obtain ⟨W0, hW0⟩ : ∃ W0, w.alloc (.cells #[.int .i64 (N : Int), v] 24) = W0 := ⟨_, rfl⟩
  have b0 : Below w.heap.size w W0 := by rw [← hW0]; exact (Below.refl _ w).alloc (Nat.le_refl _) _
  have r0 : W0.heap[w.heap.size]? = some (.cells #[.int .i64 (N : Int), v] 24 (0, 0)) := by rw [← hW0]; exact heap_alloc_new _ _
  have HC := mkHid (ordered_all N hN E hE hl hc v W0 (hv.below b0))
  have HB := mkHid b0
  have l0 : W0.cell? ⟨w.heap.size, 0, none⟩ = some (.int .i64 (N : Int)) := (cell_of_row _ _ _ _ _ _ r0).trans rfl
  have l1 : W0.cell? ⟨w.heap.size, 1, none⟩ = some v := (cell_of_row _ _ _ _ _ _ r0).trans rfl
  unfold grV at HC ⊢
  clear b0 r0 hv hN hE hl hc
  go_enter Try.func17, Try.ntmps17
  go_wp2_with fail
  with_reducible refine Calls.mono HC.out ?_
  rintro en W1 ⟨b1, q⟩
  have b01 := HB.out.trans (b1.mono HB.out.size)
  rcases q with ⟨g, V, o, oa, oc, rfl, q1, q2, q3, q4⟩ | ⟨rfl, q1⟩
  · have HE := mkHid (And.intro b01 (And.intro q2 (And.intro (own_base q3 HB.out.size) q4)))
    clear q1 q2 q3 q4 b1 b01 hW0 l0 l1 HC
    dsimp only
    go_wp2_with fail
    go_ret2
    exact ⟨HE.out.1, .inl ⟨o, oa, oc, rfl, HE.out.2.1, HE.out.2.2.1, HE.out.2.2.2⟩⟩
  · have HE := mkHid (And.intro b01 q1)
    clear q1 b1 b01 hW0 l0 l1 HC
    dsimp only
    go_wp2_with fail
    go_ret2
    exact ⟨HE.out.1, .inr ⟨rfl, HE.out.2⟩⟩
end Go.Proofs.Ytibhjkmbbfgnpaa

/- Graphs in order: ordered, Order, the least first. -/
namespace Go.Proofs.Ytibhjkmbbfgnpaa
open Go.RowKit GM Gl
set_option maxRecDepth 20000
/-- What ordered answers. -/
def OdL (N : Nat) (E : List (Nat × Nat)) (w : World) (e : Ending) (w' : World) : Prop := Below w.heap.size w w' ∧ ((∃ g V o oa oc, e = .returned (.tuple #[.slice (some ⟨g, 0, none⟩) N N, .slice oa N oc, .int .i64 0]) ∧ Rws g N (ndF N E) V w' ∧ Top (ndF N E) N o ∧ w'.ownsRow w.heap.size 3 1 (.slice oa N oc) N (ik o).toList ∧ (∀ v, v < N → ¬ TG (ndF N E) v v) ∧ Ls (ndF N E) N o) ∨
  e = .returned (.tuple #[.slice none 0 0, .slice none 0 0, .int .i64 81]) ∧ ∃ v, v < N ∧ TG (ndF N E) v v)
set_option maxRecDepth 100000 in
set_option maxHeartbeats 1600000 in
theorem ordered_lst (N : Nat) (hN : N ≤ 1024) (E : List (Nat × Nat)) (hE : ∀ e ∈ E, e.1 < N ∧ e.2 < N) (hl : E.length ≤ 1000000) (hc : (chk (N : Int) (zE E)).1 = 0) (v : Value) (w : World) (hv : El v (zE E) w) :
    Calls Try.prog 39 #[grV (N : Int) v] w (OdL N E w) := by
  obtain ⟨W0, hW0⟩ : ∃ W0, w.alloc (.cells #[.int .i64 (N : Int), v] 24) = W0 := ⟨_, rfl⟩
  have b0 : Below w.heap.size w W0 := by rw [← hW0]; exact (Below.refl _ w).alloc (Nat.le_refl _) _
  have r0 : W0.heap[w.heap.size]? = some (.cells #[.int .i64 (N : Int), v] 24 (0, 0)) := by rw [← hW0]; exact heap_alloc_new _ _
  have HC : Hid (Calls Try.prog 26 #[grV (N : Int) v, .slice none 0 0] W0 fun e w' => e = .returned (.int .i64 0) ∧ Below W0.heap.size W0 w') := by
    have := checkWith_any (N : Int) (zE E) v W0 (hv.below b0)
    rw [hc] at this
    exact this
  have HN : Hid (∀ Y, Below w.heap.size w Y → Calls Try.prog 30 #[grV (N : Int) v] Y fun e w' => ∃ g' V', e = .returned (.slice (some ⟨g', 0, none⟩) N N) ∧ Rws g' N (ndF N E) V' w' ∧ Below Y.heap.size Y w') := fun Y bY => needsOf_any N (by omega) E hE (by omega) v Y (hv.below bY)
  have HS : Hid (w.heap.size < W0.heap.size ∧ Below w.heap.size w W0 ∧ W0.heap[w.heap.size]? = some (.cells #[.int .i64 (N : Int), v] 24 (0, 0)) ∧ N ≤ 1024 ∧ ∀ e ∈ E, e.1 < N ∧ e.2 < N) := ⟨(Array.getElem?_eq_some_iff.1 r0).1, b0, r0, hN, hE⟩
  have l0 : W0.cell? ⟨w.heap.size, 0, none⟩ = some (.int .i64 (N : Int)) := (cell_of_row _ _ _ _ _ _ r0).trans rfl
  have l1 : W0.cell? ⟨w.heap.size, 1, none⟩ = some v := (cell_of_row _ _ _ _ _ _ r0).trans rfl
  unfold grV at HC HN ⊢
  clear b0 r0 hv hN hE hl hc
  go_enter Try.func39, Try.ntmps39
  go_wp2_with fail
  with_reducible refine Calls.mono HC.out ?_
  rintro en W1 ⟨rfl, b1⟩
  have H1 : Hid (Below w.heap.size w W1 ∧ W1.heap[w.heap.size]? = some (.cells #[.int .i64 (N : Int), v] 24 (0, 0))) := ⟨HS.out.2.1.trans (b1.mono HS.out.2.1.size), (b1.block _ HS.out.1).trans HS.out.2.2.1⟩
  have l2 : W1.cell? ⟨w.heap.size, 0, none⟩ = some (.int .i64 (N : Int)) := (cell_of_row _ _ _ _ _ _ H1.out.2).trans rfl
  have l3 : W1.cell? ⟨w.heap.size, 1, none⟩ = some v := (cell_of_row _ _ _ _ _ _ H1.out.2).trans rfl
  have HC2 := mkHid (HN.out W1 H1.out.1)
  clear b1 l0 l1 hW0
  go_wp2_with fail
  with_reducible refine Calls.mono HC2.out ?_
  rintro en W2 ⟨g2, V2, rfl, R2, b2⟩
  have HO := mkHid (order_lst N HS.out.2.2.2.1 (ndF N E) (fun a b hb => ndF_lt a b hb) (trL_nodup _ _) (ndF_out HS.out.2.2.2.2) g2 V2 W2 R2)
  have H2 : Hid (Rws g2 N (ndF N E) V2 W2 ∧ Below w.heap.size w W2 ∧ W2.heap[w.heap.size]? = some (.cells #[.int .i64 (N : Int), v] 24 (0, 0))) := ⟨R2, H1.out.1.trans (b2.mono H1.out.1.size), (b2.block _ (Array.getElem?_eq_some_iff.1 H1.out.2).1).trans H1.out.2⟩
  clear R2 b2 l2 l3
  go_wp2_with fail
  with_reducible refine Calls.mono HO.out ?_
  rintro en W3 ⟨o, ov, rfl, ⟨M, kn⟩, ls, ow, b3⟩
  obtain ⟨oa, oc, rfl⟩ := own_size ow
  have rw3 := (b3.block _ (Array.getElem?_eq_some_iff.1 H2.out.2.2).1).trans H2.out.2.2
  have l4 : W3.cell? ⟨w.heap.size, 0, none⟩ = some (.int .i64 (N : Int)) := (cell_of_row _ _ _ _ _ _ rw3).trans rfl
  have b03 := H2.out.2.1.trans (b3.mono H2.out.2.1.size)
  rcases kn_cyc kn (fun v _ x hx => ndF_lt v x hx) with ⟨q1, q2, q3⟩ | ⟨q1, q2⟩
  · rw [q1] at ow ⊢
    have ni : ¬ ((N : Int) < (N : Int)) := by omega
    have HE : Hid (∃ o, Rws g2 N (ndF N E) V2 W3 ∧ Top (ndF N E) N o ∧ W3.ownsRow w.heap.size 3 1 (.slice oa N oc) N (ik o).toList ∧ Below w.heap.size w W3 ∧ (∀ v, v < N → ¬ TG (ndF N E) v v) ∧ Ls (ndF N E) N o) := ⟨o, H2.out.1.below b3, q2, own_base ow H2.out.2.1.size, b03, q3, ls⟩
    clear ls q1 q2 q3 ow b3 rw3 b03 kn HO
    go_wp2_with fail
    go_ret3
    obtain ⟨o, e1, e2, e3, e4, e5⟩ := HE.out
    exact ⟨e4, .inl ⟨g2, V2, o, oa, oc, rfl, e1, e2, e3, e5⟩⟩
  · obtain ⟨m, hm⟩ : ∃ m, o.length = m := ⟨_, rfl⟩
    rw [hm] at q1 ⊢
    have ni : (m : Int) < (N : Int) := by omega
    have HE := mkHid (And.intro b03 q2)
    clear ls q1 q2 ow b3 rw3 b03 kn HO hm
    go_wp2_with fail
    go_ret3
    exact ⟨HE.out.1, .inr ⟨rfl, HE.out.2⟩⟩
/-- What Order answers. -/
def OrL (N : Nat) (E : List (Nat × Nat)) (w : World) (e : Ending) (w' : World) : Prop := Below w.heap.size w w' ∧ ((∃ o oa oc, e = .returned (.tuple #[.slice oa N oc, .int .i64 0]) ∧ Top (ndF N E) N o ∧ w'.ownsRow w.heap.size 3 1 (.slice oa N oc) N (ik o).toList ∧ (∀ v, v < N → ¬ TG (ndF N E) v v) ∧ Ls (ndF N E) N o) ∨
  e = .returned (.tuple #[.slice none 0 0, .int .i64 81]) ∧ ∃ v, v < N ∧ TG (ndF N E) v v)
set_option maxRecDepth 100000 in
set_option maxHeartbeats 1600000 in
theorem Order_lst (N : Nat) (hN : N ≤ 1024) (E : List (Nat × Nat)) (hE : ∀ e ∈ E, e.1 < N ∧ e.2 < N) (hl : E.length ≤ 1000000) (hc : (chk (N : Int) (zE E)).1 = 0) (v : Value) (w : World) (hv : El v (zE E) w) :
    Calls Try.prog 17 #[grV (N : Int) v] w (OrL N E w) := by
  obtain ⟨W0, hW0⟩ : ∃ W0, w.alloc (.cells #[.int .i64 (N : Int), v] 24) = W0 := ⟨_, rfl⟩
  have b0 : Below w.heap.size w W0 := by rw [← hW0]; exact (Below.refl _ w).alloc (Nat.le_refl _) _
  have r0 : W0.heap[w.heap.size]? = some (.cells #[.int .i64 (N : Int), v] 24 (0, 0)) := by rw [← hW0]; exact heap_alloc_new _ _
  have HC := mkHid (ordered_lst N hN E hE hl hc v W0 (hv.below b0))
  have HB := mkHid b0
  have l0 : W0.cell? ⟨w.heap.size, 0, none⟩ = some (.int .i64 (N : Int)) := (cell_of_row _ _ _ _ _ _ r0).trans rfl
  have l1 : W0.cell? ⟨w.heap.size, 1, none⟩ = some v := (cell_of_row _ _ _ _ _ _ r0).trans rfl
  unfold grV at HC ⊢
  clear b0 r0 hv hN hE hl hc
  go_enter Try.func17, Try.ntmps17
  go_wp2_with fail
  with_reducible refine Calls.mono HC.out ?_
  rintro en W1 ⟨b1, q⟩
  have b01 := HB.out.trans (b1.mono HB.out.size)
  rcases q with ⟨g, V, o, oa, oc, rfl, q1, q2, q3, q4⟩ | ⟨rfl, q1⟩
  · have HE := mkHid (And.intro b01 (And.intro q2 (And.intro (own_base q3 HB.out.size) q4)))
    clear q1 q2 q3 q4 b1 b01 hW0 l0 l1 HC
    dsimp only
    go_wp2_with fail
    go_ret2
    exact ⟨HE.out.1, .inl ⟨o, oa, oc, rfl, HE.out.2.1, HE.out.2.2.1, HE.out.2.2.2⟩⟩
  · have HE := mkHid (And.intro b01 q1)
    clear q1 b1 b01 hW0 l0 l1 HC
    dsimp only
    go_wp2_with fail
    go_ret2
    exact ⟨HE.out.1, .inr ⟨rfl, HE.out.2⟩⟩
end Go.Proofs.Ytibhjkmbbfgnpaa

/- Graphs in order: levels. -/
namespace Go.Proofs.Ytibhjkmbbfgnpaa
open Go.RowKit GM Gl
set_option maxRecDepth 20000
section
variable {F : Nat → List Nat} {N i j k a b : Nat} {o lv : List Nat}
theorem getD_eqO {l : List Nat} {i : Nat} (h : i < l.length) : l[i]? = some (l.getD i 0) := by simp [List.getD, h]
theorem top_pos (h : Top F N o) (hi : i < N) : ∀ b ∈ F (o.getD i 0), ∃ j, j < i ∧ o.getD j 0 = b := by
  intro b hb
  have hl := h.len
  have hio : i < o.length := by omega
  have e : o = o.take i ++ o.getD i 0 :: o.drop (i + 1) := by
    have h1 : o.getD i 0 = o[i] := by simp [List.getD, hio]
    rw [h1, ← List.drop_eq_getElem_cons hio, List.take_append_drop]
  have := h.up _ _ _ e b hb
  obtain ⟨j, hj, e2⟩ := List.getElem_of_mem this
  rw [List.length_take] at hj
  refine ⟨j, by omega, ?_⟩
  rw [List.getElem_take] at e2
  have hjo : j < o.length := by omega
  simp [List.getD, hjo, e2]
theorem top_inj (h : Top F N o) (hi : i < N) (hj : j < N) (e : o.getD i 0 = o.getD j 0) : i = j := by
  have hl := h.len
  have h1 := getD_eqO (l := o) (i := i) (by omega)
  have h2 := getD_eqO (l := o) (i := j) (by omega)
  have hio : i < o.length := by omega
  have hjo : j < o.length := by omega
  have q : o[i] = o[j] := by
    rw [List.getElem?_eq_getElem hio] at h1
    rw [List.getElem?_eq_getElem hjo] at h2
    have h1 := Option.some.inj h1
    have h2 := Option.some.inj h2
    rw [h1, h2, e]
  exact (List.getElem_inj h.nd).1 q
theorem top_at (h : Top F N o) (ha : a < N) : ∃ j, j < N ∧ o.getD j 0 = a := by
  obtain ⟨j, hj, e⟩ := List.getElem_of_mem (h.all a ha)
  exact ⟨j, by have := h.len; omega, by simp [List.getD, hj, e]⟩
theorem top_lt (h : Top F N o) (hi : i < N) : o.getD i 0 < N := by
  have hl := h.len
  exact h.lt _ (List.mem_of_getElem? (getD_eqO (by omega)))
theorem set_getD_ne {l : List Nat} {x y m : Nat} (h : y ≠ x) : (l.set x m).getD y 0 = l.getD y 0 := by simp [List.getD, Ne.symm h]
theorem set_getD_same {l : List Nat} {x m : Nat} (h : x < l.length) : (l.set x m).getD x 0 = m := by simp [List.getD, h]
/-- Levels of the first i nodes of the order; of the next one, as far as its first k needs ask. -/
structure Lk (F : Nat → List Nat) (N : Nat) (o : List Nat) (i k : Nat) (lv : List Nat) : Prop where
  len : lv.length = N
  lo : ∀ j, j < i → Hi (fun y => y ∈ F (o.getD j 0)) (fun y => lv.getD y 0) (lv.getD (o.getD j 0) 0) ∧ lv.getD (o.getD j 0) 0 ≤ j
  at' : i < N → Hi (fun y => y ∈ (F (o.getD i 0)).take k) (fun y => lv.getD y 0) (lv.getD (o.getD i 0) 0) ∧ lv.getD (o.getD i 0) 0 ≤ i
  hi : ∀ j, i < j → j < N → lv.getD (o.getD j 0) 0 = 0
theorem lk_zero (F : Nat → List Nat) (N : Nat) (o : List Nat) : Lk F N o 0 0 (List.replicate N 0) := by
  have z : ∀ y, (List.replicate N 0).getD y 0 = 0 := fun y => by
    rw [List.getD_eq_getElem?_getD, List.getElem?_replicate]
    split <;> rfl
  refine ⟨by simp, fun j hj => by omega, fun hi => ?_, fun j _ _ => z _⟩
  rw [z]
  refine ⟨hi_congr (hi_zero fun _ => 0) (fun y => by simp) (fun y hy => hy.elim), Nat.le_refl _⟩
theorem Lk.step (h : Lk F N o i k lv) (ht : Top F N o) (hi : i < N) (hk : k < (F (o.getD i 0)).length) (hb : (F (o.getD i 0)).getD k 0 = b) :
    b < N ∧ lv.getD b 0 < i ∧ Lk F N o i (k + 1) (lv.set (o.getD i 0) (max (lv.getD (o.getD i 0) 0) (lv.getD b 0 + 1))) := by
  obtain ⟨a, ha⟩ : ∃ a, o.getD i 0 = a := ⟨_, rfl⟩
  obtain ⟨h1, h2⟩ := h.at' hi
  have pos := top_pos ht hi
  have aN := top_lt ht hi
  rw [ha] at h1 h2 pos aN hk hb ⊢
  have bF : b ∈ F a := by rw [← hb]; exact getD_memN hk
  obtain ⟨jb, jb1, jb2⟩ := pos b bF
  have bN : b < N := by rw [← jb2]; exact top_lt ht (by omega)
  have bl : lv.getD b 0 < i := by have := (h.lo jb jb1).2; rw [jb2] at this; omega
  have ne : ∀ j, j < N → j ≠ i → o.getD j 0 ≠ a := fun j hj hji e => hji (top_inj ht hj hi (by rw [e, ha]))
  have neF : ∀ y, y ∈ F a → y ≠ a := fun y hy e => by
    obtain ⟨j, j1, j2⟩ := pos y hy
    exact ne j (by omega) (by omega) (by rw [j2, e])
  refine ⟨bN, bl, by simp [h.len], fun j hj => ?_, fun _ => ?_, fun j h1 h2 => ?_⟩
  · have n1 := ne j (by omega) (by omega)
    rw [set_getD_ne n1]
    refine ⟨hi_congr (h.lo j hj).1 (fun y => Iff.rfl) (fun y hy => ?_), (h.lo j hj).2⟩
    obtain ⟨j', q1, q2⟩ := top_pos ht (i := j) (by omega) y hy
    exact set_getD_ne (by rw [← q2]; exact ne j' (by omega) (by omega))
  · rw [ha, set_getD_same (by rw [h.len]; exact aN)]
    refine ⟨?_, by omega⟩
    refine hi_congr (S := fun y => y ∈ (F a).take k ∨ y = b) (l := fun y => lv.getD y 0) (hi_add h1 fun y => Iff.rfl) (fun y => ?_) (fun y hy => ?_)
    · rw [take_snocN hk, List.mem_append, List.mem_singleton, hb]
    · refine set_getD_ne (neF y ?_)
      rcases hy with q | q
      · exact List.mem_of_mem_take q
      · rw [q]; exact bF
  · rw [set_getD_ne (ne j h2 (by omega))]
    exact h.hi j h1 h2
theorem Lk.next (h : Lk F N o i (F (o.getD i 0)).length lv) (hi : i < N) : Lk F N o (i + 1) 0 lv := by
  obtain ⟨h1, h2⟩ := h.at' hi
  rw [List.take_length] at h1
  refine ⟨h.len, fun j hj => ?_, fun hi2 => ?_, fun j q1 q2 => h.hi j (by omega) q2⟩
  · by_cases e : j = i
    · subst e
      exact ⟨h1, h2⟩
    · exact h.lo j (by omega)
  · rw [h.hi (i + 1) (by omega) hi2]
    exact ⟨hi_congr (hi_zero fun _ => 0) (fun y => by simp) (fun y hy => hy.elim), Nat.zero_le _⟩
theorem Lk.done (h : Lk F N o N 0 lv) (ht : Top F N o) : ∀ a, a < N → Hi (fun y => y ∈ F a) (fun y => lv.getD y 0) (lv.getD a 0) ∧ lv.getD a 0 < N := fun a ha => by
  obtain ⟨j, j1, j2⟩ := top_at ht ha
  have := h.lo j j1
  rw [j2] at this
  exact ⟨this.1, by omega⟩
end
/-- Levels as they lie. -/
structure Lz (W : World) (kL : Nat) (lv : List Nat) (X : World) : Prop where
  bel : Below kL W X
  row : X.heap[kL]? = some (.cells (ik lv) 3 (0, 0))
theorem Lz.get {W X : World} {kL j : Nat} {lv : List Nat} (h : Lz W kL lv X) (hj : j < lv.length) : X.cell? ⟨kL, j, none⟩ = some (.int .i64 ((lv.getD j 0 : Nat) : Int)) ∧ X.frozen? ⟨kL, j, none⟩ = false := ⟨(cell_of_row _ _ _ _ _ _ h.row).trans (ik_get _ _ hj), frozen_of_row _ _ _ _ _ h.row⟩
theorem Lz.set {W X : World} {kL : Nat} {lv : List Nat} (h : Lz W kL lv X) (j m : Nat) : Lz W kL (lv.set j m) (X.setCell ⟨kL, j, none⟩ (.int .i64 (m : Int))) :=
  ⟨h.bel.setCell (p := ⟨kL, j, none⟩) (Nat.le_refl _) _, by rw [heap_setCell_same _ _ _ _ _ _ h.row, ik_set]⟩
theorem Lz.drew1 {W X : World} {kL : Nat} {lv : List Nat} (h : Lz W kL lv X) : Lz W kL lv X.drew := ⟨⟨h.bel.os, h.bel.tape, h.bel.output, h.bel.size, h.bel.block⟩, h.row⟩
/-- What Levels answers. -/
def LeP (N : Nat) (F : Nat → List Nat) (w : World) (e : Ending) (w' : World) : Prop := Below w.heap.size w w' ∧ ((∃ lv k, e = .returned (.tuple #[.slice (some ⟨k, 0, none⟩) N N, .int .i64 0]) ∧ lv.length = N ∧ (∀ a, a < N → Hi (fun y => y ∈ F a) (fun y => lv.getD y 0) (lv.getD a 0) ∧ lv.getD a 0 < N) ∧ w.heap.size ≤ k ∧ w'.heap[k]? = some (.cells (ik lv) 3 (0, 0)) ∧ ∀ v, v < N → ¬ TG F v v) ∨
  e = .returned (.tuple #[.slice none 0 0, .int .i64 81]) ∧ ∃ v, v < N ∧ TG F v v)
attribute [local go_sem ↓] toMkI
set_option maxRecDepth 100000 in
set_option maxHeartbeats 3200000 in
theorem levels_any (N : Nat) (hN : N ≤ 1024) (E : List (Nat × Nat)) (hE : ∀ e ∈ E, e.1 < N ∧ e.2 < N) (hl : E.length ≤ 1000000) (hc : (chk (N : Int) (zE E)).1 = 0) (v : Value) (w : World) (hv : El v (zE E) w) :
    Calls Try.prog 22 #[grV (N : Int) v] w (LeP N (ndF N E) w) := by
  obtain ⟨W0, hW0⟩ : ∃ W0, w.alloc (.cells #[.int .i64 (N : Int), v] 24) = W0 := ⟨_, rfl⟩
  have b0 : Below w.heap.size w W0 := by rw [← hW0]; exact (Below.refl _ w).alloc (Nat.le_refl _) _
  have r0 : W0.heap[w.heap.size]? = some (.cells #[.int .i64 (N : Int), v] 24 (0, 0)) := by rw [← hW0]; exact heap_alloc_new _ _
  have HC := mkHid (ordered_all N hN E hE hl hc v W0 (hv.below b0))
  have HB := mkHid (And.intro b0 (And.intro r0 hN))
  have l0 : W0.cell? ⟨w.heap.size, 0, none⟩ = some (.int .i64 (N : Int)) := (cell_of_row _ _ _ _ _ _ r0).trans rfl
  have l1 : W0.cell? ⟨w.heap.size, 1, none⟩ = some v := (cell_of_row _ _ _ _ _ _ r0).trans rfl
  unfold grV at HC ⊢
  clear b0 r0 hv hN hE hl hc
  go_enter Try.func22, Try.ntmps22
  go_wp2_with fail
  with_reducible refine Calls.mono HC.out ?_
  rintro en W1 ⟨b1, q⟩
  have b01 := HB.out.1.trans (b1.mono HB.out.1.size)
  rcases q with ⟨g, V, o, oa, oc, rfl, q1, q2, q3, q4⟩ | ⟨rfl, q1⟩
  · have l2 : W1.cell? ⟨w.heap.size, 0, none⟩ = some (.int .i64 (N : Int)) := cell_belowX b1 l0
    obtain ⟨W2, r2, row2, b2⟩ := run_mkI W1 N (by have := HB.out.2.2; omega)
    obtain ⟨kL, hkL⟩ : ∃ k, W1.heap.size = k := ⟨_, rfl⟩
    rw [hkL] at r2
    have H0 : Hid (Lk (ndF N E) N o 0 0 (List.replicate N 0) ∧ Lz W1 kL (List.replicate N 0) W2) := by
      rw [← hkL]; exact ⟨lk_zero _ _ _, ⟨b2, row2⟩⟩
    have HE := mkHid (And.intro b01 (And.intro q1 (And.intro q2 (And.intro q3 (And.intro q4 (And.intro hkL HB.out.2.2))))))
    clear q1 q2 q3 q4 b1 b01 hW0 l0 l1 HC row2 b2 hkL
    dsimp only
    go_wp2_with fail
    go_loopw [26] (fun iv wr => ∃ i : Nat, iv = .int .i64 (i : Int) ∧ i ≤ N ∧ Hid (∃ lv, Lk (ndF N E) N o i 0 lv ∧ Lz W1 kL lv wr)) (fun iv _ => N - (intOf iv).toNat)
    case atStart => exact ⟨0, rfl, Nat.zero_le _, ⟨_, H0.out⟩⟩
    case round =>
      obtain ⟨i, rfl, hi, HI⟩ := hrel
      by_cases hlt : i < N
      · have i1 := ltI hlt
        have i0 := geI i
        obtain ⟨b01, q1, q2, q3, q4, hkL, hN⟩ := HE.out
        obtain ⟨lv, hk0, hz⟩ := HI.out
        have hol := q2.len
        obtain ⟨go', hio, -⟩ := own_il q3
        obtain ⟨oo', oc', e, h1⟩ := hio
        rw [hol] at e h1
        injection e with e1 e2 e3
        subst e1 e3
        obtain ⟨off, e1, hgo, hcc⟩ := h1 (by omega)
        subst e1
        have ci := hcc i hlt
        obtain ⟨a, ha⟩ : ∃ a, o.getD i 0 = a := ⟨_, rfl⟩
        rw [ha] at ci
        have haN : a < N := by rw [← ha]; exact top_lt q2 hlt
        have co : wr.cell? ⟨go', off + i, none⟩ = some (.int .i64 (a : Int)) := cell_belowX (hkL ▸ hz.bel) ci
        obtain ⟨gv, hgv⟩ := rws_ro q1
        obtain ⟨y1, y2, -⟩ := hgv a haN
        obtain ⟨ob, cb, eV, hb⟩ := y2
        obtain ⟨ln, hln⟩ : ∃ n, (ndF N E a).length = n := ⟨_, rfl⟩
        rw [hln] at eV hb
        rw [eV] at y1
        have cv : wr.cell? ⟨g, a, none⟩ = some (.slice ob ln cb) := cell_belowX (hkL ▸ hz.bel) y1
        have a0 := geI a
        have a1 := ltI haN
        have hw1 := wrapI i (by omega)
        have HR := mkHid (And.intro hlt (And.intro ha (And.intro haN (And.intro hln hb))))
        have HI2 : Hid (∃ lv, Lk (ndF N E) N o i 0 lv ∧ Lz W1 kL lv wr) := HI
        clear b01 q1 q2 q3 q4 hkL hN hk0 hz hol h1 hgo hcc ci hgv y1 hb eV hln haN ha hlt HI
        go_wp2_with fail
        go_loopw [35] (fun jv wr => ∃ k : Nat, jv = .int .i64 (k : Int) ∧ k ≤ ln ∧ Hid (∃ lv, Lk (ndF N E) N o i k lv ∧ Lz W1 kL lv wr)) (fun jv _ => ln - (intOf jv).toNat)
        case atStart => exact ⟨0, rfl, Nat.zero_le _, HI2⟩
        case round =>
          obtain ⟨k, rfl, hk, HJ⟩ := hrel
          by_cases hlk : k < ln
          · have k1 := ltI hlk
            have k0 := geI k
            obtain ⟨b01, q1, q2, q3, q4, hkL, hN⟩ := HE.out
            obtain ⟨hlt, ha, haN, hln, hb⟩ := HR.out
            obtain ⟨lv, hk0, hz⟩ := HJ.out
            obtain ⟨off2, e2, hgb, hbb⟩ := hb (by omega)
            subst e2
            obtain ⟨b, hbv⟩ : ∃ b, (ndF N E a).getD k 0 = b := ⟨_, rfl⟩
            have cb0 := hbb k hlk
            rw [hbv] at cb0
            have cbx := cell_belowX (hkL ▸ hz.bel) cb0
            obtain ⟨hbN, hbl, hst⟩ := hk0.step (b := b) q2 hlt (by rw [ha, hln]; exact hlk) (by rw [ha]; exact hbv)
            rw [ha] at hst
            obtain ⟨x, hx⟩ : ∃ x, lv.getD a 0 = x := ⟨_, rfl⟩
            obtain ⟨y, hy⟩ : ∃ y, lv.getD b 0 = y := ⟨_, rfl⟩
            have ga := hz.get (j := a) (by rw [hk0.len]; exact haN)
            have gb := hz.get (j := b) (by rw [hk0.len]; exact hbN)
            rw [hx] at ga hst
            rw [hy] at gb hst hbl
            obtain ⟨m, hm⟩ : ∃ m, max x (y + 1) = m := ⟨_, rfl⟩
            rw [hm] at hst
            have em : max (x : Int) ((y : Int) + 1) = (m : Int) := by omega
            have hzs := hz.set a m
            have ca := ga.1
            have fa := ga.2
            have cb' := gb.1
            have b0 := geI b
            have b1 := ltI hbN
            have hw2 := wrapI y (by omega)
            have hw3 := wrapI k (by have := ndF_len (N := N) (E := E) a; omega)
            have yx : ∀ q, (wr.drewN q).cell? ⟨kL, a, none⟩ = some (.int .i64 (x : Int)) := fun _ => ca
            have yy : ∀ q, (wr.drewN q).cell? ⟨kL, b, none⟩ = some (.int .i64 (y : Int)) := fun _ => cb'
            have yf : ∀ q, (wr.drewN q).frozen? ⟨kL, a, none⟩ = false := fun _ => fa
            have HN := mkHid (And.intro hst (And.intro hz hlk))
            clear b01 q1 q2 q3 q4 hkL hN hlt ha haN hln hb hk0 hz hgb hbb hbv cb0 hbl hst hx hy ga gb hzs hbN hlk hm
            go_wp2_with fail
            go_region
            go_wp2_with fail
            obtain ⟨q1, q2, q3⟩ := HN.out
            exact ⟨⟨k + 1, by first | rfl | (rw [hw3]; rfl), q3, ⟨_, q1, (q2.set a m).drew1⟩⟩, by first | exact measI _ _ q3 | (rw [hw3]; exact measI _ _ q3)⟩
          · have k1 := nltI hlk
            obtain rfl := eqI hk hlk
            obtain ⟨hlt, ha, haN, hln, hb⟩ := HR.out
            have HN : Hid (∃ lv, Lk (ndF N E) N o (i + 1) 0 lv ∧ Lz W1 kL lv wr) := by
              obtain ⟨lv, h1, h2⟩ := HJ.out
              rw [← hln, ← ha] at h1
              exact ⟨lv, h1.next hlt, h2⟩
            have HM := mkHid hlt
            clear hlt ha haN hln hb hk hlk
            go_wp2_with fail
            exact ⟨⟨i + 1, by first | rfl | (rw [hw1]; rfl), HM.out, HN⟩, by first | exact measI _ _ HM.out | (rw [hw1]; exact measI _ _ HM.out)⟩
      · have i1 := nltI hlt
        have e := eqI hi hlt
        have HZ : Hid (∃ lv, Lk (ndF N E) N o N 0 lv ∧ Lz W1 kL lv wr) := by
          have := HI
          rw [e] at this
          exact this
        clear e hi hlt HI
        go_wp2_with fail
        go_ret2
        obtain ⟨lv, h1, h2⟩ := HZ.out
        obtain ⟨b01, q1, q2, q3, q4, hkL, hN⟩ := HE.out
        subst hkL
        exact ⟨b01.trans (h2.bel.mono b01.size), .inl ⟨lv, _, rfl, h1.len, h1.done q2, b01.size, h2.row, q4⟩⟩
  · have HE := mkHid (And.intro b01 q1)
    clear q1 b1 b01 hW0 l0 l1 HC
    dsimp only
    go_wp2_with fail
    go_ret2
    exact ⟨HE.out.1, .inr ⟨rfl, HE.out.2⟩⟩
end Go.Proofs.Ytibhjkmbbfgnpaa
