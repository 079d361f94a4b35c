/- The journal's device: cut, with. -/
import Derived.Test.YtdiflmckjpmngaaJvB
import Derived.Deep.LoopGhost
import Derived.Deep.OwnRows
namespace Go.Proofs.Ytdiflmckjpmngaa
open Go.RowKit
theorem below_cell {W W' : World} (hb : Below W.heap.size W W') {a : Addr} {v : Value} (h : W.cell? a = some v) : W'.cell? a = some v := (World.cell?_of_block (w := W) (a := a) (hb.block a.block (World.block_lt_of_cell? W a h))).trans h
theorem take_min (d : List Nat) (m n : Nat) (h : n ≤ m) : (d.take m).take n = d.take n := by rw [List.take_take, Nat.min_eq_left h]
theorem cn_eq {q : Option Addr} {d : List Nat} {n s t : Nat} (h1 : (d.take n).length = n) (h2 : min s n = t) : #[.pointer q, .int .i64 (n : Int), .int .i64 (t : Int)] = cnA q (d.take n).length (min s n) := by rw [h1, h2]; rfl
set_option maxRecDepth 100000 in
set_option maxHeartbeats 1600000 in
theorem cut_any (Q : Nat → Prop) (c : Array Value) (d : List Nat) (s n : Nat) (W : World) (hc : Cn Q W c d s) (hQ : ∀ j, Q j → j < W.heap.size) (hn : n ≤ d.length) : Calls Try.prog 29 #[.agg c, .int .i64 (n : Int)] W fun e w' => ∃ c', e = .returned (.agg c') ∧ Cn Q w' c' (d.take n) (min s n) ∧ Below W.heap.size W w' := by
  obtain ⟨p, rfl, hch, hs, hlim⟩ := hc
  have HC : Hid (Ch Q W p d ∧ d.length ≤ LIM ∧ n ≤ d.length ∧ s ≤ d.length) := ⟨hch, hlim, hn, hs⟩
  clear hch hs hlim hn
  unfold cnA at *
  go_enter Try.func29, Try.ntmps29
  go_wp2_with fail
  go_loopg [] d.length (fun k wr => ∃ q d', Hid (k = d'.length ∧ Ch Q W q d' ∧ n ≤ d'.length ∧ d'.take n = d.take n) ∧ wr = (W.alloc (.cells #[.pointer q, .int .i64 (d.length : Int), .int .i64 (s : Int)] 50)).alloc (.cells #[.pointer none, .int .i64 0, .int .i64 0] 50))
  case atStart => exact ⟨p, d, ⟨rfl, HC.out.1, HC.out.2.2.1, rfl⟩, rfl⟩
  case round =>
    obtain ⟨q, d', HD, rfl⟩ := hrel
    have b2 : Hid (∀ q s', Below W.heap.size W ((W.alloc (.cells #[.pointer q, .int .i64 s', .int .i64 (s : Int)] 50)).alloc (.cells #[.pointer none, .int .i64 0, .int .i64 0] 50))) := fun q s' => below2 W _ _
    rcases HD.out.2.1.cut1 with ⟨rfl, e0⟩ | ⟨g, ah, m, pre, rfl, c0, c1, hg, hm, hpre, hpl, hah, hall⟩
    · have hn0 : n = 0 := by have := HD.out.2.2.1; rw [e0] at this; simpa using this
      subst hn0
      have HE : Hid (d' = []) := e0
      clear e0
      go_wp2_with fail
      all_goals
        refine bodyPost_ret (results_C rfl _ _ (W.heap.size + 1) _ rfl rfl (row2n _ _ _)) rfl ?_
        refine ⟨_, rfl, ⟨none, ?_, .nil, by simp, by simp⟩, below2 _ _ _⟩
        first
          | (simp [cnA]; done)
          | (obtain rfl : s = 0 := by omega
             simp [cnA])
    · have c0' := below_cell (b2.out (some ⟨g, 0, none⟩) (d.length : Int)) c0
      have c1' := below_cell (b2.out (some ⟨g, 0, none⟩) (d.length : Int)) c1
      have HP : Hid (pre = d'.take m ∧ pre.length = m ∧ Ch Q W ah pre ∧ m < d'.length) := ⟨hpre, hpl, hah, hm⟩
      have HA : Hid _ := hall
      clear c0 c1 hpre hpl hah hm hall
      by_cases hmn : n ≤ m
      · have h1 : (n : Int) ≤ (m : Int) := by omega
        go_wp2_with fail
        go_roundg m
        case measure => have h2 := HD.out.1; have h3 := HP.out.2.2.2; omega
        case rel => exact ⟨ah, pre, ⟨HP.out.2.1.symm, HP.out.2.2.1, by rw [HP.out.2.1]; exact hmn, by rw [HP.out.1, take_min _ _ _ hmn]; exact HD.out.2.2.2⟩, rfl⟩
      · have h1 : ¬ (n : Int) ≤ (m : Int) := by omega
        go_wp2_with fail
        all_goals
          refine bodyPost_ret (results_C rfl _ _ (W.heap.size + 1) _ rfl rfl (row2n _ _ _)) rfl ?_
          have b := below2 W
          have hl : (d.take n).length = n := by rw [List.length_take]; have := HC.out.2.2.1; omega
          refine ⟨_, rfl, ⟨some ⟨g, 0, none⟩, cn_eq hl (by omega), ?_, by rw [hl]; omega, by rw [hl]; have := HC.out; omega⟩, b _ _⟩
          rw [← HD.out.2.2.2]
          exact (HA.out n (by omega) HD.out.2.2.1).keep (fun j hj => (b _ _).block j (hQ j hj)) (fun _ h => h)
set_option maxRecDepth 100000 in
theorem with_none (Q : Nat → Prop) (c : Array Value) (d : List Nat) (s : Nat) (u : Value) (l : List Nat) (W : World) (hc : Cn Q W c d s) (hQ : ∀ j, Q j → j < W.heap.size) (hl : Bl W u l) (hlim2 : d.length + l.length ≤ LIM) (h0 : l.length = 0) : Calls Try.prog 23 #[.agg c, u] W fun e w' => ∃ c', e = .returned (.agg c') ∧ Cn (fun g => Q g ∨ W.heap.size ≤ g ∧ g < w'.heap.size) w' c' (d ++ l) s ∧ Below W.heap.size W w' := by
  obtain ⟨p, rfl, hch, hs, hlim⟩ := hc
  have HC : Hid (Ch Q W p d ∧ d.length + l.length ≤ LIM ∧ s ≤ d.length ∧ Byt l) := ⟨hch, hlim2, hs, by obtain ⟨_, _, _, _, _, h, _⟩ := hl; exact h⟩
  obtain rfl : l = [] := List.length_eq_zero_iff.1 h0
  obtain ⟨oa, cap, rfl, -⟩ := hl
  clear hch hs hlim hlim2 h0
  unfold cnA at *
  simp only [List.length_nil]
  go_enter Try.func23, Try.ntmps23
  go_wp2_with fail
  refine bodyPost_ret (results_C rfl _ _ (W.heap.size + 1) _ rfl rfl (row2n _ _ _)) rfl ?_
  have b := below2 W
  refine ⟨_, rfl, ⟨p, by rw [List.append_nil]; rfl, ?_, by rw [List.append_nil]; exact HC.out.2.2.1, by rw [List.append_nil]; have := HC.out.2.1; omega⟩, b _ _⟩
  rw [List.append_nil]
  exact HC.out.1.keep (fun j hj => (b _ _).block j (hQ j hj)) (fun _ h => .inl h)
theorem LIM_lt {a b : Nat} (h : a + b ≤ LIM) : a + b < 9223372036854775807 := by unfold LIM at h; omega
/-- The worlds behind the new chunk. -/
theorem wf_after (W W1 X : World) (p : Option Addr) (n s m g cp : Nat) (r0 : W1.heap[W.heap.size]? = some (.cells (cnA p n s) 50 (0, 0))) (r1 : W1.heap[W.heap.size + 1]? = some (.cells zC 50 (0, 0))) (hb : Below W1.drew.heap.size W1.drew X) (N : Nat) (hN : n + m = N) (hl : n + m < 9223372036854775807) :
    X.cell? ⟨W.heap.size, 0, none⟩ = some (.pointer p) ∧ X.cell? ⟨W.heap.size, 1, none⟩ = some (.int .i64 (n : Int)) ∧
    (X.alloc (.cells #[.pointer p, .int .i64 (n : Int), .slice (some ⟨g, 0, none⟩) m cp] 71)).cell? ⟨W.heap.size, 0, none⟩ = some (.pointer p) ∧
    (X.alloc (.cells #[.pointer p, .int .i64 (n : Int), .slice (some ⟨g, 0, none⟩) m cp] 71)).frozen? ⟨W.heap.size, 0, none⟩ = false ∧
    ((X.alloc (.cells #[.pointer p, .int .i64 (n : Int), .slice (some ⟨g, 0, none⟩) m cp] 71)).setCell ⟨W.heap.size, 0, none⟩ (.pointer (some ⟨X.heap.size, 0, none⟩))).cell? ⟨W.heap.size, 1, none⟩ = some (.int .i64 (n : Int)) ∧
    ((X.alloc (.cells #[.pointer p, .int .i64 (n : Int), .slice (some ⟨g, 0, none⟩) m cp] 71)).setCell ⟨W.heap.size, 0, none⟩ (.pointer (some ⟨X.heap.size, 0, none⟩))).frozen? ⟨W.heap.size, 1, none⟩ = false ∧
    IntKind.i64.wrap ((n : Int) + (m : Int)) = (N : Int) ∧
    (ldC (.pointer (some ⟨W.heap.size, 0, none⟩))).run Try.prog (((X.alloc (.cells #[.pointer p, .int .i64 (n : Int), .slice (some ⟨g, 0, none⟩) m cp] 71)).setCell ⟨W.heap.size, 0, none⟩ (.pointer (some ⟨X.heap.size, 0, none⟩))).setCell ⟨W.heap.size, 1, none⟩ (.int .i64 (N : Int))) = .ok (.agg (cnA (some ⟨X.heap.size, 0, none⟩) N s)) (((X.alloc (.cells #[.pointer p, .int .i64 (n : Int), .slice (some ⟨g, 0, none⟩) m cp] 71)).setCell ⟨W.heap.size, 0, none⟩ (.pointer (some ⟨X.heap.size, 0, none⟩))).setCell ⟨W.heap.size, 1, none⟩ (.int .i64 (N : Int))) ∧
    (stC (.pointer (some ⟨W.heap.size + 1, 0, none⟩)) (.agg (cnA (some ⟨X.heap.size, 0, none⟩) N s))).run Try.prog (((X.alloc (.cells #[.pointer p, .int .i64 (n : Int), .slice (some ⟨g, 0, none⟩) m cp] 71)).setCell ⟨W.heap.size, 0, none⟩ (.pointer (some ⟨X.heap.size, 0, none⟩))).setCell ⟨W.heap.size, 1, none⟩ (.int .i64 (N : Int))) = .ok () ((((X.alloc (.cells #[.pointer p, .int .i64 (n : Int), .slice (some ⟨g, 0, none⟩) m cp] 71)).setCell ⟨W.heap.size, 0, none⟩ (.pointer (some ⟨X.heap.size, 0, none⟩))).setCell ⟨W.heap.size, 1, none⟩ (.int .i64 (N : Int))).setRow (W.heap.size + 1) (cnA (some ⟨X.heap.size, 0, none⟩) N s)) ∧
    Hid (∃ w', w' = ((((X.alloc (.cells #[.pointer p, .int .i64 (n : Int), .slice (some ⟨g, 0, none⟩) m cp] 71)).setCell ⟨W.heap.size, 0, none⟩ (.pointer (some ⟨X.heap.size, 0, none⟩))).setCell ⟨W.heap.size, 1, none⟩ (.int .i64 (N : Int))).setRow (W.heap.size + 1) (cnA (some ⟨X.heap.size, 0, none⟩) N s)) ∧ w'.heap[W.heap.size + 1]? = some (.cells (cnA (some ⟨X.heap.size, 0, none⟩) N s) 50 (0, 0)) ∧ w'.heap[X.heap.size]? = some (.cells #[.pointer p, .int .i64 (n : Int), .slice (some ⟨g, 0, none⟩) m cp] 71 (0, 0)) ∧ w'.heap.size = X.heap.size + 1 ∧ (∀ j, j < X.heap.size → j ≠ W.heap.size → j ≠ W.heap.size + 1 → w'.heap[j]? = X.heap[j]?) ∧ w'.os = X.os ∧ w'.tape = X.tape ∧ w'.output = X.output) := by
  have hz1 : W.heap.size + 1 < W1.heap.size := (Array.getElem?_eq_some_iff.1 r1).1
  have hzX : W1.heap.size ≤ X.heap.size := hb.size
  have s0 : X.heap[W.heap.size]? = some (.cells (cnA p n s) 50 (0, 0)) := (hb.block _ (by show W.heap.size < W1.heap.size; omega)).trans r0
  have s1 : X.heap[W.heap.size + 1]? = some (.cells zC 50 (0, 0)) := (hb.block _ (by show W.heap.size + 1 < W1.heap.size; omega)).trans r1
  obtain ⟨X1, hX1⟩ : ∃ X1, X.alloc (.cells #[.pointer p, .int .i64 (n : Int), .slice (some ⟨g, 0, none⟩) m cp] 71) = X1 := ⟨_, rfl⟩
  have t0 : X1.heap[W.heap.size]? = some (.cells (cnA p n s) 50 (0, 0)) := by rw [← hX1]; exact (heap_alloc_old _ _ (h := by omega)).trans s0
  have t1 : X1.heap[W.heap.size + 1]? = some (.cells zC 50 (0, 0)) := by rw [← hX1]; exact (heap_alloc_old _ _ (h := by omega)).trans s1
  have t2 : X1.heap[X.heap.size]? = some (.cells #[.pointer p, .int .i64 (n : Int), .slice (some ⟨g, 0, none⟩) m cp] 71 (0, 0)) := by rw [← hX1]; exact heap_alloc_new _ _
  obtain ⟨X2, hX2⟩ : ∃ X2, X1.setCell ⟨W.heap.size, 0, none⟩ (.pointer (some ⟨X.heap.size, 0, none⟩)) = X2 := ⟨_, rfl⟩
  have u0 : X2.heap[W.heap.size]? = some (.cells (cnA (some ⟨X.heap.size, 0, none⟩) n s) 50 (0, 0)) := by rw [← hX2]; exact heap_setCell_same _ _ _ _ _ _ t0
  obtain ⟨X3, hX3⟩ : ∃ X3, X2.setCell ⟨W.heap.size, 1, none⟩ (.int .i64 (N : Int)) = X3 := ⟨_, rfl⟩
  have v0 : X3.heap[W.heap.size]? = some (.cells (cnA (some ⟨X.heap.size, 0, none⟩) N s) 50 (0, 0)) := by rw [← hX3]; exact heap_setCell_same _ _ _ _ _ _ u0
  have v1 : X3.heap[W.heap.size + 1]? = some (.cells zC 50 (0, 0)) := by rw [← hX3, ← hX2]; exact ((heap_setCell_other _ _ _ _ (by show W.heap.size + 1 ≠ W.heap.size; omega)).trans (heap_setCell_other _ _ _ _ (by show W.heap.size + 1 ≠ W.heap.size; omega))).trans t1
  have oth : ∀ j, j ≠ W.heap.size → X3.heap[j]? = X1.heap[j]? := fun j hj => by rw [← hX3, ← hX2]; exact (heap_setCell_other _ _ _ _ (by show j ≠ W.heap.size; exact hj)).trans (heap_setCell_other _ _ _ _ (by show j ≠ W.heap.size; exact hj))
  rw [hX1, hX2, hX3]
  refine ⟨by rw [cell_of_row _ _ _ _ _ _ s0]; rfl, by rw [cell_of_row _ _ _ _ _ _ s0]; rfl, by rw [cell_of_row _ _ _ _ _ _ t0]; rfl, frozen_of_row _ _ _ _ _ t0, by rw [cell_of_row _ _ _ _ _ _ u0]; rfl, frozen_of_row _ _ _ _ _ u0, by rw [IntKind.wrap_i64]; omega, ld_Crow _ _ _ rfl v0, st_C _ _ zC _ rfl rfl (by simp [cnA, Value.oneCell']) v1, ⟨_, rfl, setRow_heap _ _ _ _ _ _ v1, ?_, ?_, ?_, ?_⟩⟩
  · exact (setRow_other _ _ _ _ (by omega)).trans ((oth _ (by omega)).trans t2)
  · rw [setRow_size, ← hX3, ← hX2, ← hX1]; simp
  · intro j hj h1 h2
    refine (setRow_other _ _ _ _ h2).trans ((oth j h1).trans ?_)
    rw [← hX1]
    exact heap_alloc_old _ _ (h := hj)
  · have b3 : Below 0 X X3 := by rw [← hX3, ← hX2, ← hX1]; exact (((Below.refl 0 X).alloc (Nat.zero_le _) _).setCell (Nat.zero_le _) _).setCell (Nat.zero_le _) _
    exact ⟨b3.os, b3.tape, b3.output⟩
theorem with_fin (W W1 X w' : World) (p : Option Addr) (d l : List Nat) (s g cp N : Nat) {Q : Nat → Prop} (hN : d.length + l.length = N) (hch : Ch Q W p d) (hlim : d.length + l.length ≤ LIM) (hs : s ≤ d.length) (hby : Byt l) (hQ : ∀ j, Q j → j < W.heap.size) (bW : Below W.heap.size W W1) (ho : X.ownsRow W1.drew.heap.size 5 1 (.slice (some ⟨g, 0, none⟩) l.length cp) l.length (bs l)) (hb : Below W1.drew.heap.size W1.drew X) (hg1 : W1.drew.heap.size ≤ g) (hg2 : g < X.heap.size)
    (hz1 : W.heap.size + 1 < W1.heap.size) (hpos : 0 < l.length) (e2 : w'.heap[X.heap.size]? = some (.cells #[.pointer p, .int .i64 (d.length : Int), .slice (some ⟨g, 0, none⟩) l.length cp] 71 (0, 0))) (e3 : w'.heap.size = X.heap.size + 1) (e4 : ∀ j, j < X.heap.size → j ≠ W.heap.size → j ≠ W.heap.size + 1 → w'.heap[j]? = X.heap[j]?) (e5 : w'.os = X.os ∧ w'.tape = X.tape ∧ w'.output = X.output) :
    ∃ c', Ending.returned (.agg #[.pointer (some ⟨X.heap.size, 0, none⟩), .int .i64 (N : Int), .int .i64 (s : Int)]) = .returned (.agg c') ∧ Cn (fun g => Q g ∨ W.heap.size ≤ g ∧ g < w'.heap.size) w' c' (d ++ l) s ∧ Below W.heap.size W w' := by
  have hzX : W1.heap.size ≤ X.heap.size := hb.size
  have hg1' : W1.heap.size ≤ g := hg1
  have bl : Below W.heap.size W w' := by
    refine ⟨e5.1.trans (hb.os.trans bW.os), e5.2.1.trans (hb.tape.trans bW.tape), e5.2.2.trans (hb.output.trans bW.output), by omega, fun j hj => ?_⟩
    exact (e4 j (by omega) (by omega) (by omega)).trans ((hb.block j (by show j < W1.heap.size; omega)).trans (bW.block j hj))
  refine ⟨_, rfl, ⟨some ⟨X.heap.size, 0, none⟩, by rw [List.length_append, hN]; rfl, ?_, by rw [List.length_append]; omega, by rw [List.length_append]; exact hlim⟩, bl⟩
  have hc := hch.keep (Q' := fun g => Q g ∨ W.heap.size ≤ g ∧ g < w'.heap.size) (W' := w') (fun j hj => bl.block j (hQ j hj)) (fun _ h => .inl h)
  rcases ho.2 with ⟨h1, _⟩ | ⟨g', cap, cur, h1, h2, h3, h4, h5, h6, h7⟩
  · cases h1
  · injection h1 with q1 q2 q3
    injection q1 with q1
    injection q1 with q1
    subst q1 q3
    have := Ch.cons (Q := fun g => Q g ∨ W.heap.size ≤ g ∧ g < w'.heap.size) (W := w') X.heap.size g cp l.length p d l (.inr ⟨by omega, by omega⟩) (.inr ⟨by omega, by omega⟩) e2 h4 h5 (fun j u hu => ?_) hby hpos (Nat.le_refl _) hc
    · rwa [List.take_length] at this
    · have hj : j < l.length := by have := (List.getElem?_eq_some_iff.1 hu).1; rwa [bs_len] at this
      have hrow : w'.heap[g]? = some (.cells cur 5 (0, 0)) := (e4 g hg2 (by omega) (by omega)).trans h3
      rw [cell_of_row _ _ _ _ _ _ hrow]
      have e : cur.toList[j]? = some u := by
        rw [← hu, ← h7, Nat.mul_one, List.getElem?_take_of_lt hj]
      simpa using e
section
attribute [local go_sem ↓] toLdC toStC Go.wp_at_zero Go.wp_at_succ
set_option maxRecDepth 100000 in
set_option maxHeartbeats 1600000 in
theorem with_some (Q : Nat → Prop) (c : Array Value) (d : List Nat) (s : Nat) (u : Value) (l : List Nat) (W : World) (hc : Cn Q W c d s) (hQ : ∀ j, Q j → j < W.heap.size) (hl : Bl W u l) (hlim2 : d.length + l.length ≤ LIM) (h0 : ¬ l.length = 0) : Calls Try.prog 23 #[.agg c, u] W fun e w' => ∃ c', e = .returned (.agg c') ∧ Cn (fun g => Q g ∨ W.heap.size ≤ g ∧ g < w'.heap.size) w' c' (d ++ l) s ∧ Below W.heap.size W w' := by
  obtain ⟨p, rfl, hch, hs, hlim⟩ := hc
  have HC : Hid (Ch Q W p d ∧ d.length + l.length ≤ LIM ∧ s ≤ d.length ∧ Byt l) := ⟨hch, hlim2, hs, by obtain ⟨_, _, _, _, _, h, _⟩ := hl; exact h⟩
  obtain ⟨W1, hW1⟩ : ∃ W1, (W.alloc (.cells (cnA p d.length s) 50)).alloc (.cells zC 50) = W1 := ⟨_, rfl⟩
  have bW : Below W.heap.size W W1 := by rw [← hW1]; exact below2 _ _ _
  have r0 : W1.heap[W.heap.size]? = some (.cells (cnA p d.length s) 50 (0, 0)) := by rw [← hW1]; exact row2 _ _ _
  have r1 : W1.heap[W.heap.size + 1]? = some (.cells zC 50 (0, 0)) := by rw [← hW1]; exact row2n _ _ _
  have C : Hid _ := clone_any u l W1.drew (hl.below (W' := W1.drew) ⟨bW.os, bW.tape, bW.output, bW.size, bW.block⟩) (by omega) (by omega)
  obtain ⟨oa, cap, rfl, -⟩ := id hl
  have hpos : (0 : Int) < (l.length : Int) := by omega
  have HW : Hid ((W.alloc (.cells (cnA p d.length s) 50)).alloc (.cells zC 50) = W1) := hW1
  have HR : Hid (W1.heap[W.heap.size]? = some (.cells (cnA p d.length s) 50 (0, 0)) ∧ W1.heap[W.heap.size + 1]? = some (.cells zC 50 (0, 0)) ∧ Below W.heap.size W W1) := ⟨r0, r1, bW⟩
  have a0 : W1.drew.cell? ⟨W.heap.size, 0, none⟩ = some (.pointer p) := by show W1.cell? _ = _; rw [cell_of_row _ _ _ _ _ _ r0]; rfl
  have a1 : W1.drew.cell? ⟨W.heap.size, 1, none⟩ = some (.int .i64 (d.length : Int)) := by show W1.cell? _ = _; rw [cell_of_row _ _ _ _ _ _ r0]; rfl
  clear hW1 r0 r1 bW hch hs hlim hlim2 h0 hl
  unfold cnA zC at *
  go_enter Try.func23, Try.ntmps23
  obtain ⟨N, hN⟩ : ∃ N, d.length + l.length = N := ⟨_, rfl⟩
  have HN : Hid (d.length + l.length = N) := hN
  clear hN
  go_upto_region 2 with fail
  rw [HW.out]
  go_region_with (go_at_call 36; refine Calls.mono C.out ?_; rintro e X ⟨g, cp, rfl, ho, hb, hg1, hg2⟩; have HO : Hid (X.ownsRow W1.drew.heap.size 5 1 (.slice (some ⟨g, 0, none⟩) l.length cp) l.length (bs l) ∧ Below W1.drew.heap.size W1.drew X ∧ W1.drew.heap.size ≤ g ∧ g < X.heap.size) := ⟨ho, hb, hg1, hg2⟩; have hwf := wf_after W W1 X p d.length s l.length g cp HR.out.1 HR.out.2.1 hb N HN.out (LIM_lt HC.out.2.1); clear ho hb hg1 hg2; obtain ⟨x0, x1, x2, x3, x4, x5, x6, x7, x8, x9⟩ := hwf; unfold cnA at *)
  all_goals
    go_wp2_with fail
    obtain ⟨w', hw, e1, e2, e3, e4, e5, e6, e7⟩ := x9.out
    rw [← hw]
    refine bodyPost_ret (results_C rfl _ _ (W.heap.size + 1) _ rfl rfl e1) rfl ?_
    exact with_fin W W1 X w' p d l s g cp N HN.out HC.out.1 HC.out.2.1 HC.out.2.2.1 HC.out.2.2.2 hQ HR.out.2.2 HO.out.1 HO.out.2.1 HO.out.2.2.1 HO.out.2.2.2 (Array.getElem?_eq_some_iff.1 HR.out.2.1).1 (by omega) e2 e3 e4 ⟨e5, e6, e7⟩
end
theorem with_any (Q : Nat → Prop) (c : Array Value) (d : List Nat) (s : Nat) (u : Value) (l : List Nat) (W : World) (hc : Cn Q W c d s) (hQ : ∀ j, Q j → j < W.heap.size) (hl : Bl W u l) (hlim2 : d.length + l.length ≤ LIM) : Calls Try.prog 23 #[.agg c, u] W fun e w' => ∃ c', e = .returned (.agg c') ∧ Cn (fun g => Q g ∨ W.heap.size ≤ g ∧ g < w'.heap.size) w' c' (d ++ l) s ∧ Below W.heap.size W w' := by
  by_cases h0 : l.length = 0
  · exact with_none Q c d s u l W hc hQ hl hlim2 h0
  · exact with_some Q c d s u l W hc hQ hl hlim2 h0
end Go.Proofs.Ytdiflmckjpmngaa
