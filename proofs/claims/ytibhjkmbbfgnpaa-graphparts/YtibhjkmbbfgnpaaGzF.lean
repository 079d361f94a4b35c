/- Graphs: the nodes, and the components of needs. -/
import Derived.Test.YtibhjkmbbfgnpaaGzE
namespace Go.Proofs.Ytibhjkmbbfgnpaa
open Go.RowKit GM
set_option maxRecDepth 20000
theorem nr_rws {g N : Nat} {F : Nat → List Nat} {V : Nat → Value} {w : World} (h : Rws g N F V w) (hF : ∀ v, v < N → ∀ x ∈ F v, x < N) (hl : ∀ v, v < N → (F v).length ≤ N) : ∃ gv, Nr F N g gv V w := by
  classical
  refine ⟨fun v => if hv : v < N then Classical.choose (own_il (h.own v hv)) else 0, fun v hv => ⟨?_, ?_, ?_⟩, hF, hl⟩
  · exact (h.cell v hv).1
  · simp only [dif_pos hv]
    exact (Classical.choose_spec (own_il (h.own v hv))).1
  · rcases (h.own v hv).2 with ⟨e, e2⟩ | ⟨b, cap, cur, e, -, -, hc, -⟩
    · exact ⟨none, 0, by rw [e, e2], by omega⟩
    · exact ⟨_, cap, e, hc⟩
def nd0 (N i : Nat) : List Nat := (List.range N).map fun k => if k < i then k else 0
theorem nd0_set (N i : Nat) (h : i < N) : (nd0 N i).set i i = nd0 N (i + 1) := by
  apply List.ext_getElem?
  intro k
  rw [List.getElem?_set]
  unfold nd0
  simp only [List.length_map, List.length_range, List.getElem?_map]
  by_cases hk : k < N
  · rw [List.getElem?_range hk]
    by_cases e : i = k
    · subst e
      simp [h]
    · rw [if_neg e]
      simp
      by_cases q : k < i
      · rw [if_pos q, if_pos (by omega)]
      · rw [if_neg q, if_neg (by omega)]
  · have : (List.range N)[k]? = none := List.getElem?_eq_none (by simp; omega)
    rw [this]
    by_cases e : i = k
    · omega
    · rw [if_neg e]
      rfl
theorem nd0_zero (N : Nat) : nd0 N 0 = List.replicate N 0 := by
  unfold nd0
  rw [List.eq_replicate_iff]
  simp
theorem nd0_all (N : Nat) : nd0 N N = List.range N := by
  unfold nd0
  apply List.ext_getElem?
  intro k
  rw [List.getElem?_map]
  by_cases hk : k < N
  · rw [List.getElem?_range hk]
    simp [hk]
  · have : (List.range N)[k]? = none := List.getElem?_eq_none (by simp; omega)
    rw [this]
    rfl
theorem nd0_len (N i : Nat) : (nd0 N i).length = N := by simp [nd0]
attribute [local go_sem ↓] toMkI
set_option maxRecDepth 100000 in
set_option maxHeartbeats 1600000 in
theorem nodes_any (w : World) {g N : Nat} (hN : N ≤ 100000) :
    Calls Try.prog 74 #[.slice (some ⟨g, 0, none⟩) N N] w fun e w' => e = .returned (.slice (some ⟨w.heap.size, 0, none⟩) N N) ∧ w'.heap[w.heap.size]? = some (.cells (ik (List.range N)) 3 (0, 0)) ∧ Below w.heap.size w w' := by
  obtain ⟨w1, r1, q1, b1⟩ := run_mkI w N (by omega)
  obtain ⟨k, hk⟩ : ∃ k, w.heap.size = k := ⟨_, rfl⟩
  rw [← nd0_zero] at q1
  have HI0 : Hid (w1.heap[k]? = some (.cells (ik (nd0 N 0)) 3 (0, 0)) ∧ Below k w w1) := by rw [← hk]; exact ⟨q1, b1⟩
  rw [hk] at r1 ⊢
  clear q1 b1
  go_enter Try.func74, Try.ntmps74
  go_wp2_with fail
  go_loopw [10] (fun iv wr => ∃ i : Nat, iv = .int .i64 (i : Int) ∧ i ≤ N ∧ Hid (wr.heap[k]? = some (.cells (ik (nd0 N i)) 3 (0, 0)) ∧ Below k w wr)) (fun iv _ => N - (intOf iv).toNat)
  case atStart => exact ⟨0, rfl, Nat.zero_le _, HI0⟩
  case round =>
    obtain ⟨i, rfl, hi, HI⟩ := hrel
    by_cases hlt : i < N
    · have i1 := ltI hlt
      have i0 := geI i
      obtain ⟨q1, b1⟩ := HI.out
      have ci : wr.cell? ⟨k, i, none⟩ = some (.int .i64 (((nd0 N i).getD i 0 : Nat) : Int)) := (cell_of_row _ _ _ _ _ _ q1).trans (ik_get _ _ (by rw [nd0_len]; exact hlt))
      have fi : wr.frozen? ⟨k, i, none⟩ = false := frozen_of_row _ _ _ _ _ q1
      have hw1 := wrapI i (by omega)
      obtain ⟨X, hX⟩ : ∃ X, wr.setCell ⟨k, i, none⟩ (.int .i64 (i : Int)) = X := ⟨_, rfl⟩
      have HN : Hid (i < N ∧ X.heap[k]? = some (.cells (ik (nd0 N (i + 1))) 3 (0, 0)) ∧ Below k w X) := by
        refine ⟨hlt, ?_, ?_⟩
        · rw [← hX, heap_setCell_same _ _ _ _ _ _ q1, ik_set, nd0_set N i hlt]
        · rw [← hX]
          exact b1.setCell (p := ⟨k, i, none⟩) (Nat.le_refl _) _
      clear q1 b1 hlt HI
      go_wp2_with fail
      exact ⟨⟨i + 1, by simp, HN.out.1, HN.out.2⟩, by first | exact measI _ _ HN.out.1 | (rw [hw1]; exact measI _ _ HN.out.1)⟩
    · have i1 := nltI hlt
      have q := HI.out
      rw [eqI hi hlt, nd0_all] at q
      have HN := mkHid q
      clear q HI
      go_wp2_with fail
      go_ret
      exact ⟨rfl, HN.out.1, HN.out.2⟩
set_option maxRecDepth 100000 in
set_option maxHeartbeats 1600000 in
theorem comp_any (w : World) {F : Nat → List Nat} {N g : Nat} {V : Nat → Value} (h : Rws g N F V w) (hN : N ≤ 8192) (hF : ∀ v, v < N → ∀ x ∈ F v, x < N) (hl : ∀ v, (F v).length ≤ N) (h0 : ∀ a, N ≤ a → F a = []) :
    Calls Try.prog 53 #[.slice (some ⟨g, 0, none⟩) N N] w fun e w' => ∃ o n c Ps vs, e = .returned (.slice o n c) ∧ Pl w.heap.size (.slice o n c) n Ps vs w' ∧ Scc F N Ps ∧ Below w.heap.size w w' := by
  have CN := nodes_any w (g := g) (N := N) (by omega)
  have H := mkHid (And.intro h (And.intro hN (And.intro hF (And.intro hl h0))))
  clear h hN hF hl h0
  go_enter Try.func53, Try.ntmps53
  go_wp2_with fail
  refine CN.mono ?_
  rintro e w1 ⟨rfl, q1, b1⟩
  obtain ⟨h, hN, hF, hl, h0⟩ := H.out
  have CT := turned_any N hN F hF (fun b => by have := hl b; omega) g V w1 (h.below b1)
  have HB := mkHid (And.intro q1 b1)
  clear CN q1 b1 h hN hF hl h0
  go_wp2_with fail
  refine CT.mono ?_
  rintro e w2 ⟨g', V', rfl, hr2, b2, -⟩
  obtain ⟨h, hN, hF, hl, h0⟩ := H.out
  obtain ⟨q1, b1⟩ := HB.out
  have b02 := b1.trans (b2.mono b1.size)
  obtain ⟨gv1, n1⟩ := nr_rws (h.below b02) hF (fun v _ => hl v)
  obtain ⟨gv2, n2⟩ := nr_rws hr2 (fun v _ x hx => trL_lt _ _ _ _ hx) (fun v _ => trL_len _ _ _)
  have q2 := (b2.block _ (Array.getElem?_eq_some_iff.1 q1).1).trans q1
  have hil : Il w.heap.size (.slice (some ⟨w.heap.size, 0, none⟩) N N) (List.range N) w2 := by
    refine ⟨_, N, by rw [List.length_range], fun _ => ⟨0, rfl, (Array.getElem?_eq_some_iff.1 q2).1, fun j hj => ?_⟩⟩
    rw [Nat.zero_add]
    exact (cell_of_row _ _ _ _ _ _ q2).trans (ik_get _ _ hj)
  have CC := comps_any w2 n1 n2 hil (by omega) (fun x y => by
    unfold trL
    rw [List.mem_filter, List.mem_range, decide_eq_true_iff]
    refine ⟨fun hy => ⟨?_, hy⟩, fun hy => hy.2⟩
    by_cases q : x < N
    · exact q
    · rw [h0 x (by omega)] at hy
      cases hy)
  have HD := mkHid b02
  unfold nOf at CC
  clear CT h hN hF hl h0 q1 b1 b2 b02 hr2 n1 n2 q2 hil HB
  go_wp2_with fail
  refine CC.mono ?_
  rintro e w3 ⟨o, n, c, Ps, vs, rfl, hp, hs, b3⟩
  have HE := mkHid (And.intro (hp.base HD.out.size) (And.intro hs (HD.out.trans (b3.mono HD.out.size))))
  clear CC hp hs b3
  go_wp2_with fail
  go_ret
  exact ⟨_, _, _, Ps, vs, rfl, HE.out.1, HE.out.2.1, HE.out.2.2⟩
end Go.Proofs.Ytibhjkmbbfgnpaa
