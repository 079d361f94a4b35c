/- Graphs in order: the heap's methods, walked. -/
import Derived.Test.YtibhjkmbbfgnpaaGlA
import Derived.BigQuiet
namespace Go.Proofs.Ytibhjkmbbfgnpaa
open Go.RowKit
set_option maxRecDepth 100000 in
theorem len_any (w : World) (o : Option Addr) (n c : Nat) : Calls Try.prog 78 #[.slice o n c] w fun e w' => e = .returned (.int .i64 (n : Int)) ∧ w' = w := by
  go_enter Try.func78, Try.ntmps78
  go_wp2_with fail
  go_ret
  exact ⟨rfl, rfl⟩
set_option maxRecDepth 100000 in
theorem less_any (w : World) (b c : Nat) (F : List Nat) (h : w.ownsRow 0 3 1 (.slice (some ⟨b, 0, none⟩) F.length c) F.length (ik F).toList) (i j : Nat) (hi : i < F.length) (hj : j < F.length) : Calls Try.prog 121 #[.slice (some ⟨b, 0, none⟩) F.length c, .int .i64 (i : Int), .int .i64 (j : Int)] w fun e w' => (∃ q, e = .returned (.bool q)) ∧ ∃ k, w' = w.drewN k := by
  obtain ⟨b', c', -, e, -, hc⟩ := own_at h (by omega)
  injection e with e1 e2 e3
  injection e1 with e1
  injection e1 with e1
  subst e1 e3
  have c1 := hc i hi
  have c2 := hc j hj
  obtain ⟨n, hn⟩ : ∃ n, F.length = n := ⟨_, rfl⟩
  rw [hn] at hi hj ⊢
  have i0 : (0 : Int) ≤ (i : Int) := by omega
  have i1 : (i : Int) < (n : Int) := by omega
  have j0 : (0 : Int) ≤ (j : Int) := by omega
  have j1 : (j : Int) < (n : Int) := by omega
  clear h hc hn hi hj
  go_enter Try.func121, Try.ntmps121
  go_wp2_with fail
  go_quiet (fail)
  go_wp2_with fail
  go_ret
  exact ⟨⟨_, rfl⟩, _, rfl⟩
set_option maxRecDepth 100000 in
set_option maxHeartbeats 1600000 in
theorem swap_any (w : World) (fb b c : Nat) (F : List Nat) (h : Hp fb (.slice (some ⟨b, 0, none⟩) F.length c) F w) (i j : Nat) (hi : i < F.length) (hj : j < F.length) : Calls Try.prog 124 #[.slice (some ⟨b, 0, none⟩) F.length c, .int .i64 (i : Int), .int .i64 (j : Int)] w fun e w' => e = .returned (.tuple #[]) ∧ ∃ F', F'.Perm F ∧ Hp fb (.slice (some ⟨b, 0, none⟩) F.length c) F' w' ∧ Ch fb (.slice (some ⟨b, 0, none⟩) F.length c) (.slice (some ⟨b, 0, none⟩) F.length c) w w' := by
  obtain ⟨b', c', -, e, -, hc⟩ := own_at h.own (by omega)
  injection e with e1 e2 e3
  injection e1 with e1
  injection e1 with e1
  subst e1 e3
  have c1 : w.cell? ⟨b, i, none⟩ = some (.int .i64 ((F.getD i 0 : Nat) : Int)) := hc i hi
  have c2 : w.cell? ⟨b, j, none⟩ = some (.int .i64 ((F.getD j 0 : Nat) : Int)) := hc j hj
  obtain ⟨x, hx⟩ : ∃ x, F.getD i 0 = x := ⟨_, rfl⟩
  obtain ⟨y, hy⟩ : ∃ y, F.getD j 0 = y := ⟨_, rfl⟩
  rw [hx] at c1
  rw [hy] at c2
  obtain ⟨s1, f1⟩ := own_set h.own i y
  obtain ⟨s2, f2⟩ := own_set s1 j x
  have c3 : ∃ u, (w.setCell ⟨b, i, none⟩ (.int .i64 (y : Int))).cell? ⟨b, j, none⟩ = some u := by
    obtain ⟨b', c', -, e, -, hc⟩ := own_at (l := F.set i y) (by simpa using s1) (by simp; omega)
    injection e with e1 e2 e3
    injection e1 with e1
    injection e1 with e1
    subst e1
    exact ⟨_, hc j (by simpa using hj)⟩
  obtain ⟨u, c3⟩ := c3
  obtain ⟨Z, hZ⟩ : ∃ Z, (w.setCell ⟨b, i, none⟩ (.int .i64 (y : Int))).setCell ⟨b, j, none⟩ (.int .i64 (x : Int)) = Z := ⟨_, rfl⟩
  have HP : Hid (∃ F', F'.Perm F ∧ Hp fb (.slice (some ⟨b, 0, none⟩) F.length c) F' Z ∧ Ch fb (.slice (some ⟨b, 0, none⟩) F.length c) (.slice (some ⟨b, 0, none⟩) F.length c) w Z) := by
    refine ⟨(F.set i y).set j x, ?_, ⟨?_, ?_⟩, ?_⟩
    · rw [← hx, ← hy]
      have := List.set_set_perm hi hj
      simpa [List.getD, hi, hj] using this
    · have hne : fb ≠ b := fun q => h.ne (by rw [q]; rfl)
      rw [← hZ, heap_setCell_other _ _ _ _ hne, heap_setCell_other _ _ _ _ hne]
      exact h.row
    · rw [← hZ]
      simpa using s2
    · rw [← hZ]
      refine ⟨rfl, rfl, rfl, by simp, fun k hk _ hv => ?_, fun k hk => .inl hk⟩
      have hne : k ≠ b := fun q => hv (by rw [q]; rfl)
      exact (heap_setCell_other _ _ _ _ hne).trans (heap_setCell_other _ _ _ _ hne)
  obtain ⟨n, hn⟩ : ∃ n, F.length = n := ⟨_, rfl⟩
  rw [hn] at hi hj HP ⊢
  have i0 : (0 : Int) ≤ (i : Int) := by omega
  have i1 : (i : Int) < (n : Int) := by omega
  have j0 : (0 : Int) ≤ (j : Int) := by omega
  have j1 : (j : Int) < (n : Int) := by omega
  clear h hc hn hi hj s1 s2 hx hy
  go_enter Try.func124, Try.ntmps124
  go_wp2_with fail
  go_region
  go_end0
  obtain ⟨F', h1, h2, h3⟩ := HP.out
  exact ⟨rfl, F', h1, h2.drew 1, h3.drew 1⟩
def apF (ty : Nat) (vs : Array Value) : Sem Value := Builtin.append_ #[111, 111] ty vs
theorem toApF (ty : Nat) (vs : Array Value) : Builtin.append_ #[111, 111] ty vs = apF ty vs := rfl
theorem run_apF (w : World) (base n ty : Nat) (v : Value) (l : List Nat) (x : Nat) (hown : w.ownsRow base 3 1 v n (ik l).toList) (hb : n + 1 ≤ 1099511627776) (hbase : base ≤ w.heap.size) :
    ∃ v' w', (apF ty #[v, .slice (some ⟨w.heap.size, 0, none⟩) 1 1]).run Try.prog (w.alloc (.cells #[.int .i64 (x : Int)] 3)) = .ok v' w' ∧ w'.ownsRow base 3 1 v' (n + 1) (ik (l ++ [x])).toList ∧ (w.alloc (.cells #[.int .i64 (x : Int)] 3)).grownBy w' v.ownBlock ∧ (v'.ownBlock = v.ownBlock ∨ v'.ownBlock = some (w.heap.size + 1)) := by
  obtain ⟨i0, hi0, hz0, hz1, hz2⟩ := info_parts info3
  obtain ⟨v', w', hr, ho, hg, _, hat⟩ := run_append_own_at (P := Try.prog) (w.alloc (.cells #[.int .i64 (x : Int)] 3)) base 111 ty 3 i0 _ 1 8 Try.underlying111 hi0 hz0 hz1 hz2 rfl (by omega) v n _ (hown.alloc _) ⟨w.heap.size, 0, none⟩ 1 1 [.int .i64 (x : Int)] rfl
    (World.news_of_block (cs := #[.int .i64 (x : Int)]) (t := 3) (fr := (0, 0)) (heap_alloc_new w _)) (fun u hu => by simp at hu; subst hu; rfl) (by unfold maxLen; omega) (by omega) (by simp; omega)
  refine ⟨v', w', hr, ?_, hg, ?_⟩
  · rw [ik_snoc]; exact ho
  · rcases hat with hat | hat
    · exact .inl hat
    · exact .inr (by rw [hat]; simp)
set_option maxRecDepth 100000 in
theorem ta3 (x : Int) (w : World) : (Instr.typeAssert (.iface 3 (.int .i64 x)) 20 3 false).run Try.prog w = .ok (.int .i64 x) w := by kernel_rfl
section
attribute [local go_sem ↓] toApF ta3
set_option maxRecDepth 100000 in
set_option maxHeartbeats 1600000 in
theorem mpush_any (w : World) (fb : Nat) (v : Value) (F : List Nat) (h : Hp fb v F w) (hn : F.length ≤ 1000000) (x : Nat) : Calls Try.prog 123 #[.pointer (some ⟨fb, 0, none⟩), .iface 3 (.int .i64 (x : Int))] w fun e w' => e = .returned (.tuple #[]) ∧ ∃ v', Hp fb v' (F ++ [x]) w' ∧ Ch fb v v' w w' := by
  obtain ⟨v', V, r0, o, g0, at'⟩ := run_apF w.drew 0 F.length 111 v F x (h.drew 1).own (by omega) (Nat.zero_le _)
  have r : (apF 111 #[v, .slice (some ⟨w.heap.size, 0, none⟩) 1 1]).run Try.prog (w.alloc (.cells #[.int .i64 (x : Int)] 3)).drew = .ok v' V := r0
  have g : (w.alloc (.cells #[.int .i64 (x : Int)] 3)).grownBy V v.ownBlock := ⟨g0.os, g0.tape, g0.output, g0.size, g0.block⟩
  have at' : v'.ownBlock = v.ownBlock ∨ v'.ownBlock = some (w.heap.size + 1) := at'
  clear r0 g0
  obtain ⟨o', c', rfl⟩ := own_size o
  have c0 := h.cell.1
  have fr0 := (Array.getElem?_eq_some_iff.1 h.row).1
  have rA : (w.alloc (.cells #[.int .i64 (x : Int)] 3)).heap[fb]? = _ := (heap_alloc_old w _ (h := fr0)).trans h.row
  have rV : V.heap[fb]? = some (.cells #[v] 111 (0, 0)) := (g.block fb (by simp; omega) (fun z => h.ne z.symm)).trans rA
  have cA := (cell_of_row _ fb 0 _ _ _ rA).trans (rfl : (#[v] : Array Value)[0]? = some v)
  have cV := (cell_of_row _ fb 0 _ _ _ rV).trans (rfl : (#[v] : Array Value)[0]? = some v)
  have fV := frozen_of_row V fb 0 _ _ rV
  obtain ⟨Z, hZ⟩ : ∃ Z, V.setCell ⟨fb, 0, none⟩ (.slice o' (F.length + 1) c') = Z := ⟨_, rfl⟩
  have HP : Hid (Hp fb (.slice o' (F.length + 1) c') (F ++ [x]) Z ∧ Ch fb v (.slice o' (F.length + 1) c') w Z) := by
    rw [← hZ]
    have hne : ¬ (Value.slice o' (F.length + 1) c').ownBlock = some fb := fun q => by
      rcases at' with e | e
      · rw [e] at q; exact h.ne q
      · rw [e] at q; have := Option.some.inj q; omega
    refine ⟨⟨heap_setCell_same _ _ _ _ _ _ rV, ?_⟩, g.os, g.tape, g.output, ?_, fun k hk hf hv => ?_, fun k hk => ?_⟩
    · rw [List.length_append]
      exact own_keep2 o fun k hk => heap_setCell_other _ _ _ _ (by show k ≠ fb; intro q; subst q; exact hne hk)
    · have := g.size; simp at this; simp; omega
    · rw [heap_setCell_other _ _ _ _ (by show k ≠ fb; exact hf), g.block k (by simp; omega) (fun z => hv z.symm)]
      exact heap_alloc_old w _ (h := hk)
    · rcases at' with e | e
      · exact .inl (e ▸ hk)
      · rw [e] at hk; have := Option.some.inj hk; exact .inr (by omega)
  clear h hn o g at' fr0 rA rV
  go_enter Try.func123, Try.ntmps123
  go_wp2_with fail
  go_region
  go_end0
  exact ⟨rfl, _, HP.out⟩
end
end Go.Proofs.Ytibhjkmbbfgnpaa
