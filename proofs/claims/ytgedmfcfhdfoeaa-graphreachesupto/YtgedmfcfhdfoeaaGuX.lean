/- Graphs: roomy; numbers behind a list of one's own. -/
import Derived.Test.YtgedmfcfhdfoeaaGuW
import Derived.Deep.QuietTactic
import Derived.BigQuiet
namespace Go.Proofs.Ytgedmfcfhdfoeaa
open Go.RowKit GM
set_option maxRecDepth 20000
attribute [local go_sem ↓] toApE toSlE
set_option maxRecDepth 100000 in
set_option maxHeartbeats 1000000 in
theorem roomy_any (N : Int) (E : List (Int × Int)) (hn : E.length ≤ 1073741824) (v : Value) (w : World) (hv : El v E w) :
    Calls Try.prog 6 #[grV N v] w fun e w' => ∃ g cap, e = .returned (.tuple #[.slice (some ⟨g, 0, none⟩) (E.length + 1) cap, grV N (.slice (some ⟨g, 0, none⟩) E.length cap)]) ∧ E.length + 1 ≤ cap ∧ El (.slice (some ⟨g, 0, none⟩) (E.length + 1) cap) (E ++ [(-77, 77)]) w' ∧ Below w.heap.size w w' := by
  obtain ⟨o, c, hvv, hl, -⟩ := hv.form
  unfold grV
  obtain ⟨W0, hW0⟩ : ∃ W0, (w.alloc (.cells #[.int .i64 N, v] 24)).alloc (.cells #[.int .i64 0, .slice none 0 0] 24) = W0 := ⟨_, rfl⟩
  have b0 : Below w.heap.size w W0 := by rw [← hW0]; exact ((Below.refl _ w).alloc (Nat.le_refl _) _).alloc (by simp) _
  have r0 : W0.heap[w.heap.size]? = some (.cells #[.int .i64 N, v] 24 (0, 0)) := by rw [← hW0]; exact heap_alloc2_old _ _ _
  have r1 : W0.heap[w.heap.size + 1]? = some (.cells #[.int .i64 0, .slice none 0 0] 24 (0, 0)) := by rw [← hW0]; exact heap_alloc2_new _ _ _
  obtain ⟨v1, W1, s1, o1, g1⟩ := run_apE W0 W0.heap.size 0 22 (.slice none 0 0) v [] E (World.ownsRow_nil _ _ _ _) (hv.below b0) (by omega) (Nat.le_refl _)
  rw [List.nil_append, Nat.zero_add] at o1
  have bl1 : Below W0.heap.size W0 W1 := below_grown (Below.refl _ W0) g1 (Nat.le_refl _) (fun g hg => by cases hg)
  obtain ⟨v2, W2, s2, o2, g2⟩ := run_apE1 W1 W0.heap.size E.length 22 v1 E (-77) 77 o1 (by omega) bl1.size
  have bl2 : Below W0.heap.size W1 W2 := below_grown ((Below.refl _ W1).alloc bl1.size _) g2 (by have := bl1.size; simp; omega) (fun g hg => (o1.lt g hg).1)
  have bl3 := bl1.trans bl2
  have q0 : W0.cell? ⟨w.heap.size, 1, none⟩ = some v := (cell_of_row _ _ _ _ _ _ r0).trans rfl
  obtain ⟨g, cap, rfl, hcap, hcm⟩ : ∃ g cap, v2 = .slice (some ⟨g, 0, none⟩) (E.length + 1) cap ∧ E.length + 1 ≤ cap ∧ cap ≤ maxLen := by
    obtain ⟨-, ⟨-, h⟩ | ⟨g, cap, cur, h, -, -, h2, h3, -⟩⟩ := o2
    · simp at h
    · exact ⟨g, cap, h, h2, h3⟩
  have z0 : w.heap.size + 1 < W0.heap.size := (Array.getElem?_eq_some_iff.1 r1).1
  have r20 : W2.heap[w.heap.size]? = some (.cells #[.int .i64 N, v] 24 (0, 0)) := (bl3.block _ (by omega)).trans r0
  have r21 : W2.heap[w.heap.size + 1]? = some (.cells #[.int .i64 0, .slice none 0 0] 24 (0, 0)) := (bl3.block _ (by omega)).trans r1
  have c0 : W2.cell? ⟨w.heap.size, 0, none⟩ = some (.int .i64 N) := (cell_of_row W2 _ _ _ _ _ r20).trans rfl
  have c1 : W2.cell? ⟨w.heap.size, 1, none⟩ = some (.slice o E.length c) := by rw [← hvv]; exact (cell_of_row W2 _ _ _ _ _ r20).trans rfl
  have d0 : W2.cell? ⟨w.heap.size + 1, 0, none⟩ = some (.int .i64 0) := (cell_of_row W2 _ _ _ _ _ r21).trans rfl
  have d1 : W2.cell? ⟨w.heap.size + 1, 1, none⟩ = some (.slice none 0 0) := (cell_of_row W2 _ _ _ _ _ r21).trans rfl
  have f0 : W2.frozen? ⟨w.heap.size + 1, 0, none⟩ = false := frozen_of_row W2 _ _ _ _ r21
  have f1 : W2.frozen? ⟨w.heap.size + 1, 1, none⟩ = false := frozen_of_row W2 _ _ _ _ r21
  have ch := fun X : World => run_cutE X g 0 (E.length + 1) cap E.length (by omega)
  have HW0 : Hid ((w.alloc (.cells #[.int .i64 N, v] 24)).alloc (.cells #[.int .i64 0, .slice none 0 0] 24) = W0) := hW0
  have HO2 : Hid (W2.ownsRow W0.heap.size 52 2 (.slice (some ⟨g, 0, none⟩) (E.length + 1) cap) (E.length + 1) (ec (E ++ [(-77, 77)])) ∧ Below w.heap.size w W2 ∧ w.heap.size + 1 < W0.heap.size) := ⟨o2, b0.trans (bl3.mono b0.size), z0⟩
  have HR : Hid (W2.heap[w.heap.size + 1]? = some (.cells #[.int .i64 0, .slice none 0 0] 24 (0, 0))) := r21
  subst hvv
  rw [← hW0] at s1
  clear hv o1 o2 g1 g2 bl1 bl2 bl3 b0 r0 r1 r20 r21 z0 hl hn hW0
  go_enter Try.func6, Try.ntmps6
  go_wp2_with fail
  go_region
  go_wp2_with fail
  refine bodyPost_ret (results_tG rfl _ _ (w.heap.size + 1) (.int .i64 N) (.slice (some ⟨g, 0, none⟩) E.length cap) rfl (set2G _ _ HR.out)) rfl ⟨g, cap, rfl, hcap, ?_, ?_⟩
  · have := (el_own (own_keep2 HO2.out.1 (w' := ((W2.setCell ⟨w.heap.size + 1, 0, none⟩ (.int .i64 N)).setCell ⟨w.heap.size + 1, 1, none⟩ (.slice (some ⟨g, 0, none⟩) E.length cap))) fun k hk => set2_other _ _ k (by have := (HO2.out.1.lt k hk).1; have := HO2.out.2.2; omega))).2
    exact this
  · exact (below_set2 _ _ (by omega) HO2.out.2.1).trans (below_drew _ |>.mono (by have := HO2.out.2.1.size; simpa [World.setCell] using this))
/-- Whole numbers as cells. -/
def zk (l : List Int) : List Value := l.map (Value.int .i64)
theorem zk_app (a b : List Int) : zk (a ++ b) = zk a ++ zk b := by simp [zk]
theorem zk_len (l : List Int) : (zk l).length = l.length := by simp [zk]
theorem zk_get (l : List Int) (j : Nat) (h : j < l.length) : (zk l)[j]? = some (.int .i64 (l.getD j 0)) := by simp [zk, List.getD, h]
theorem zk_one (l : List Int) : ∀ u ∈ zk l, u.oneCell' = true := by
  intro u hu
  obtain ⟨x, -, rfl⟩ := List.mem_map.1 hu
  rfl
/-- Numbers behind a list of one's own. -/
theorem run_apZ (w : World) (base n ty g : Nat) (v sv : Value) (l e : List Int) (hown : w.ownsRow base 3 1 v n (zk l)) (hs : Ia g sv e w) (hf : sv = .slice none 0 0 ∨ ∃ a m c, sv = .slice (some a) m c) (hb : n + e.length ≤ 1099511627776) (hbase : base ≤ w.heap.size) (hcl : ∀ a m c, sv = .slice (some a) m c → m ≤ c) :
    ∃ v' w', (apI ty #[v, sv]).run Try.prog w = .ok v' w' ∧ w'.ownsRow base 3 1 v' (n + e.length) (zk (l ++ e)) ∧ w.grownBy w' v.ownBlock := by
  obtain ⟨i0, hi0, hz0, hz1, hz2⟩ := info_parts info3
  obtain ⟨o, c, hv, h1⟩ := hs
  rcases hf with h | ⟨a, m, c', h⟩
  · rw [h] at hv
    injection hv with q1 q2 q3
    have : e = [] := List.length_eq_zero_iff.1 q2.symm
    subst this h
    refine ⟨v, w, run_append_owned_none (P := Try.prog) (w := w) base 32 ty 3 i0 1 Try.underlying32 hi0 v n _ hown, ?_, grownBy_refl _ _⟩
    rw [List.append_nil]; exact hown
  · rw [h] at hv
    injection hv with q1 q2 q3
    subst q1 q2 q3 h
    obtain ⟨v', w', hr, ho, hg, _⟩ := run_append_own (P := Try.prog) w base 32 ty 3 i0 _ 1 8 Try.underlying32 hi0 hz0 hz1 hz2 rfl (by omega) v n _ hown a e.length c' (zk e) (by rw [zk_len]; omega) (fun j u hu => by
        have hj : j < e.length := by have := (List.getElem?_eq_some_iff.1 hu).1; rwa [zk_len] at this
        obtain ⟨off, q, -, hc⟩ := h1 (by omega)
        injection q with q
        subst q
        rw [Addr.add_mid]
        rw [zk_get e j hj] at hu
        rw [← hu]
        exact hc j hj) (zk_one e) (by unfold maxLen; omega) (by have := hcl _ _ _ rfl; omega) hbase
    refine ⟨v', w', hr, ?_, hg⟩
    rw [zk_app]; exact ho
end Go.Proofs.Ytgedmfcfhdfoeaa
