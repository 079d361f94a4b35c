/- GraphStops: the law. -/
import Derived.Test.YtllakhambjahgaaGxQ
namespace Go.Proofs.Ytllakhambjahgaa
open Go.RowKit GM Gx
/-- A slice of whole numbers as it lies. -/
def Ji (v : Value) (R : List Int) (w : World) : Prop := ∃ o c, v = .slice o R.length c ∧ (0 < R.length → ∃ g off, o = some ⟨g, off, none⟩ ∧ g < w.heap.size ∧ ∀ j, j < R.length → w.cell? ⟨g, off + j, none⟩ = some (.int .i64 (R.getD j 0)))
attribute [local go_sem] Oper.semAt_some
set_option maxRecDepth 100000 in
set_option maxHeartbeats 6400000 in
theorem stops_any (n : Int) (D : List (Int × Int)) (v rv : Value) (R : List Int) (st : Int) (W : World) (hE : El v D W) (hR : Ji rv R W) :
    Calls Try.prog 3 #[.int .i64 n, v, rv, .int .i64 st] W fun e w' => e = .returned (.bool true) ∧ Below W.heap.size W w' := by
  obtain ⟨V, hV⟩ : ∃ V, (W.alloc (.cells #[.int .i64 st] 3)).alloc (.cells #[.bool false] 4) = V := ⟨_, rfl⟩
  have bV : Below W.heap.size W V := by rw [← hV]; exact ((Below.refl _ W).alloc (Nat.le_refl _) _).alloc (by simp) _
  have rS : V.heap[W.heap.size]? = some (.cells #[.int .i64 st] 3 (0, 0)) := by rw [← hV]; exact heap_alloc2_old _ _ _
  have rR : V.heap[W.heap.size + 1]? = some (.cells #[.bool false] 4 (0, 0)) := by rw [← hV]; exact heap_alloc2_new _ _ _
  have C1 := small_any n D v V (hE.below bV)
  obtain ⟨o, c, rfl, hr⟩ := hR
  obtain ⟨m, hm⟩ : ∃ m, R.length = m := ⟨_, rfl⟩
  rw [hm] at hr ⊢
  have HW := mkHid (And.intro bV (And.intro rS (And.intro rR hr)))
  replace hV := mkHid hV
  clear hE bV rS rR hr hm
  refine callsIn_wide.1 (callsIn_of_wp_marks (n := 9) Try.func3 rfl trivial (wpIn_wide.2 ?_) rfl)
  simp only [Try.ntmps3, List.size_toArray, List.length_cons, List.length_nil, Nat.reduceAdd, Nat.reduceSub, Array.replicate_succ, Array.replicate_zero, List.push_toArray, List.append_toArray, List.nil_append, List.cons_append]
  go_upto_region 1 with fail
  rw [hV.out]
  clear hV
  go_wp2_with fail
  refine Calls.mono C1 ?_
  rintro e w1 ⟨N, E, u, rfl, h1, h60, hE2, hEl, hown, b1⟩
  clear C1
  obtain ⟨ou, cu, rfl⟩ := own_size hown
  obtain ⟨le, hle⟩ : ∃ k, E.length = k := ⟨_, rfl⟩
  have hl4 : le ≤ 400 := hle ▸ hEl
  rw [hle] at hown ⊢
  obtain ⟨kg, hkg⟩ : ∃ k, w1.heap.size = k := ⟨_, rfl⟩
  obtain ⟨Y, hY⟩ : ∃ Y, w1.alloc (.cells #[.int .i64 (N : Int), .slice ou le cu] 25) = Y := ⟨_, rfl⟩
  have bY : Below V.heap.size V Y := by rw [← hY]; exact b1.alloc b1.size _
  have rg : Y.heap[kg]? = some (.cells #[.int .i64 (N : Int), .slice ou le cu] 25 (0, 0)) := by rw [← hY, ← hkg]; exact heap_alloc_new _ _
  have el := (el_own hown).2
  have elY : El (.slice ou le cu) (zE E) Y := el.below (by rw [← hY]; exact (Below.refl _ w1).alloc (Nat.le_refl _) _)
  have HY := mkHid (And.intro (HW.out.1.trans (bY.mono HW.out.1.size)) (And.intro ((bY.block _ (Array.getElem?_eq_some_iff.1 HW.out.2.1).1).trans HW.out.2.1) (And.intro ((bY.block _ (Array.getElem?_eq_some_iff.1 HW.out.2.2.1).1).trans HW.out.2.2.1) (And.intro rg (And.intro elY (And.intro h1 (And.intro h60 (And.intro hE2 hEl))))))))
  replace hY := mkHid hY
  clear bY rg el elY h1 h60 hE2 hEl hown b1 hle hl4
  unfold grV
  go_upto_region 2 with fail
  rw [hY.out]
  rename_i K1 hk1 K2 hk2
  have HK1 := mkHid hk1
  clear hk1
  by_cases h0 : m = 0
  · subst h0
    go_wp2_with fail
    obtain ⟨e1, e2, e3, e4, e5, e6, e7, e8, e9⟩ := HY.out
    have bZ : Below Y.heap.size Y (Y.alloc (.cells #[.int .i64 0] 3)) := (Below.refl _ Y).alloc (Nat.le_refl _) _
    have gv : Gv W W.heap.size (W.heap.size + 1) kg N 1 Y.heap.size 0 E (.slice ou le cu) (fun _ => 0) st (Y.alloc (.cells #[.int .i64 0] 3)) := by
      refine ⟨e1.trans (bZ.mono e1.size), (bZ.block _ (Array.getElem?_eq_some_iff.1 e2).1).trans e2, (bZ.block _ (Array.getElem?_eq_some_iff.1 e3).1).trans e3, (bZ.block _ (Array.getElem?_eq_some_iff.1 e4).1).trans e4, e5.below bZ, fun j hj => ?_, by simp, Nat.le_refl _, by omega, by omega⟩
      obtain rfl : j = 0 := by omega
      exact (cell_of_row _ _ _ _ _ _ (heap_alloc_new Y _)).trans rfl
    exact HK1.out _ _ (gs4 W _ gv (by decide) e7 e6 e8 e9)
  · have h0' : ¬ ((m : Int) = 0) := by omega
    go_wp2_with fail
    obtain ⟨e1, e2, e3, e4, e5, e6, e7, e8, e9⟩ := HY.out
    obtain ⟨g, off, rfl, hg, hc⟩ := HW.out.2.2.2 (by omega)
    exact HK1.out _ _ (gs4 (R := fun j => R.getD j 0) W Y ⟨e1, e2, e3, e4, e5, fun j hj => (World.cell?_of_block (w := W) (a := ⟨g, off + j, none⟩) (e1.block g hg)).trans (hc j hj), Nat.lt_of_lt_of_le hg e1.size, Nat.le_refl _, by omega, by omega⟩ (by omega) e7 e6 e8 e9)
end Go.Proofs.Ytllakhambjahgaa
