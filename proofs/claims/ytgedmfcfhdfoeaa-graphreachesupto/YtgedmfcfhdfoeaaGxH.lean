/- Each: Clone, checkWith of a graph with roots. -/
import Derived.Test.YtgedmfcfhdfoeaaGxG
import Derived.Ground.Names2Prog
import Derived.Shelf.Slices.Clone
namespace Go.Proofs.Ytgedmfcfhdfoeaa
open Go.RowKit GM
set_option maxRecDepth 20000
shelf_lay Lays2.n15 Nm2 15 at Try as Try.cloneI
/-- Clone. -/
theorem clone_any (w : World) {g : Nat} {v : Value} {S : List Nat} (h : Il g v S w) (hp : 0 < S.length) (hb : S.length ≤ 1000000000) :
    Calls Try.prog 45 #[v] w fun e w' => ∃ o c, e = .returned (.slice o S.length c) ∧ w'.ownsRow w.heap.size 3 1 (.slice o S.length c) S.length (ik S).toList ∧ Below w.heap.size w w' := by
  obtain ⟨o, c, rfl, h1⟩ := h
  obtain ⟨off, rfl, -, h2⟩ := h1 hp
  have C := Any.slices_Clone_int Try.cloneI g off S.length c (S.map fun n : Nat => (n : Int)) w (by simp) (by omega) (fun j hj => by
    rw [List.length_map] at hj
    rw [h2 j hj]
    simp [List.getD_eq_getElem?_getD, List.getElem?_eq_getElem hj])
  refine Calls.mono C ?_
  rintro e w' ⟨v', rfl, ho, -, b1⟩
  have e1 : ((S.map fun n : Nat => (n : Int)).take S.length).map (Value.int .i64) = (ik S).toList := by
    rw [ik_map, List.take_of_length_le (by simp)]
  rw [e1] at ho
  obtain ⟨o', c', rfl⟩ := own_size ho
  exact ⟨o', c', rfl, ho, b1⟩
set_option maxRecDepth 100000 in
set_option maxHeartbeats 3200000 in
/-- checkWith of a graph that is one, and of roots that are its nodes. -/
theorem checkWith_roots (N : Nat) (E : List (Nat × Nat)) (v : Value) (w : World) (hv : El v (zE E) w) (hc : (chk (N : Int) (zE E)).1 = 0) {g : Nat} {rv : Value} {S : List Nat} (hr : Il g rv S w) (hS : ∀ x ∈ S, x < N) (hSl : S.length < 1000000000) :
    Calls Try.prog 30 #[grV (N : Int) v, rv] w fun e w' => e = .returned (.int .i64 0) ∧ Below w.heap.size w w' := by
  obtain ⟨W0, hW0⟩ : ∃ W0, w.alloc (.cells #[.int .i64 (N : Int), v] 24) = W0 := ⟨_, rfl⟩
  have b0 : Below w.heap.size w W0 := by rw [← hW0]; exact (Below.refl _ w).alloc (Nat.le_refl _) _
  have r0 : W0.heap[w.heap.size]? = some (.cells #[.int .i64 (N : Int), v] 24 (0, 0)) := by rw [← hW0]; exact heap_alloc_new _ _
  have C := check_any (N : Int) (zE E) v W0 (hv.below b0)
  rw [show chk (N : Int) (zE E) = (0, (chk (N : Int) (zE E)).2) by rw [← hc]] at C
  obtain ⟨bb, hbb⟩ : ∃ b, b = (chk (N : Int) (zE E)).2 := ⟨_, rfl⟩
  rw [← hbb] at C
  obtain ⟨kg, hkg⟩ : ∃ k, w.heap.size = k := ⟨_, rfl⟩
  obtain ⟨o, c, rfl, hrc⟩ := hr
  obtain ⟨m, hm⟩ : ∃ m, S.length = m := ⟨_, rfl⟩
  rw [hm] at hrc hSl ⊢
  rw [hkg] at r0
  unfold grV at C ⊢
  have HC : Hid _ := C
  have HW0 : Hid (w.alloc (.cells #[.int .i64 (N : Int), v] 24) = W0) := hW0
  have HQ := mkHid (And.intro b0 (And.intro r0 (And.intro hrc (And.intro hS (And.intro hSl (And.intro hm hkg))))))
  clear C hc hbb hW0 b0 hv r0 hrc hS hSl hm
  go_enter Try.func30, Try.ntmps30
  go_wp2_with fail
  rw [HW0.out]
  refine Calls.mono HC.out ?_
  rintro e W1 ⟨rfl, b1⟩
  have HB1 : Hid (Below w.heap.size w W1 ∧ W1.heap[kg]? = some (.cells #[.int .i64 (N : Int), v] 24 (0, 0))) := ⟨HQ.out.1.trans (b1.mono HQ.out.1.size), (b1.block _ (Array.getElem?_eq_some_iff.1 HQ.out.2.1).1).trans HQ.out.2.1⟩
  clear HC b1
  go_wp2_with fail
  go_loopw [19] (fun iv wr => ∃ j : Nat, iv = .int .i64 (j : Int) ∧ j ≤ m ∧ Hid (Below w.heap.size w wr ∧ wr.heap[kg]? = some (.cells #[.int .i64 (N : Int), v] 24 (0, 0)))) (fun iv _ => m - (intOf iv).toNat)
  case atStart => exact ⟨0, rfl, Nat.zero_le _, HB1⟩
  case round =>
    obtain ⟨j, rfl, hj, HB⟩ := hrel
    by_cases hlt : j < m
    · have i1 := ltI hlt
      have i0 := geI j
      obtain ⟨off, rfl, hgw, hcc⟩ := HQ.out.2.2.1 (Nat.lt_of_le_of_lt (Nat.zero_le _) hlt)
      have hmS := HQ.out.2.2.2.2.2.1
      have c1 : wr.cell? ⟨g, off + j, none⟩ = some (.int .i64 ((S.getD j 0 : Nat) : Int)) := (World.cell?_of_block (w := w) (a := ⟨g, off + j, none⟩) (HB.out.1.block g hgw)).trans (hcc j hlt)
      have hx : S.getD j 0 < N := HQ.out.2.2.2.1 _ (by rw [List.getD_eq_getElem?_getD, List.getElem?_eq_getElem (by omega)]; exact List.getElem_mem _)
      obtain ⟨x, hx2⟩ : ∃ x, S.getD j 0 = x := ⟨_, rfl⟩
      rw [hx2] at c1 hx
      have g0 : wr.cell? ⟨kg, 0, none⟩ = some (.int .i64 (N : Int)) := (cell_of_row _ _ _ _ _ _ HB.out.2).trans rfl
      have g1 : wr.cell? ⟨kg, 1, none⟩ = some v := (cell_of_row _ _ _ _ _ _ HB.out.2).trans rfl
      have CI := isNode_any (N : Int) (x : Int) v wr
      rw [show (decide (0 ≤ (x : Int)) && decide ((x : Int) < (N : Int))) = true by simp; omega] at CI
      unfold grV at CI
      have hw1 := wrapI j (by have := HQ.out.2.2.2.2.1; omega)
      clear hx2 hcc hgw hmS hx
      go_wp2_with fail
      refine CI.mono ?_
      rintro e w2 ⟨rfl, b2⟩
      have HB2 : Hid (Below w.heap.size w w2 ∧ w2.heap[kg]? = some (.cells #[.int .i64 (N : Int), v] 24 (0, 0))) := ⟨HB.out.1.trans (b2.mono HB.out.1.size), (b2.block _ (Array.getElem?_eq_some_iff.1 HB.out.2).1).trans HB.out.2⟩
      clear CI b2
      go_wp2_with fail
      exact ⟨⟨j + 1, by simp [hw1], hlt, HB2⟩, by rw [hw1]; exact measI _ _ hlt⟩
    · have i1 := nltI hlt
      go_wp2_with fail
      go_ret
      exact ⟨rfl, hkg ▸ HB.out.1⟩
end Go.Proofs.Ytgedmfcfhdfoeaa
