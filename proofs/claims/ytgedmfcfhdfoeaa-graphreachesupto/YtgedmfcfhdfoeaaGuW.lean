/- Graphs searched: Close of anything. -/
import Derived.Test.YtgedmfcfhdfoeaaGuV
import Derived.Test.YtgedmfcfhdfoeaaGuT
namespace Go.Proofs.Ytgedmfcfhdfoeaa
open Go.RowKit GM
set_option maxRecDepth 20000
set_option maxRecDepth 100000 in
set_option maxHeartbeats 1600000 in
theorem closeE_any (N : Int) (E : List (Int × Int)) (l : List Int) (v rv : Value) {g0 : Nat} (w : World) (hv : El v E w) (hR : Ia g0 rv l w) (hl0 : l.length < 1000000000) {e0 : Nat} (hk : CkE N E l e0) :
    Calls Try.prog 14 #[grV N v, rv] w fun e w' => e = .returned (.tuple #[.slice none 0 0, .int .i64 (e0 : Int)]) ∧ Below w.heap.size w w' := by
  obtain ⟨W0, hW0⟩ : ∃ W0, w.alloc (.cells #[.int .i64 N, v] 24) = W0 := ⟨_, rfl⟩
  have b0 : Below w.heap.size w W0 := by rw [← hW0]; exact (Below.refl _ w).alloc (Nat.le_refl _) _
  have r0 : W0.heap[w.heap.size]? = some (.cells #[.int .i64 N, v] 24 (0, 0)) := by rw [← hW0]; exact heap_alloc_new _ _
  have CC := hk.2 v rv g0 W0 (hv.below b0) (hR.below b0) hl0
  obtain ⟨kg, hkg⟩ : ∃ k, w.heap.size = k := ⟨_, rfl⟩
  have c0 : W0.cell? ⟨kg, 0, none⟩ = some (.int .i64 N) := by rw [← hkg]; exact (cell_of_row _ _ _ _ _ _ r0).trans rfl
  have c1 : W0.cell? ⟨kg, 1, none⟩ = some v := by rw [← hkg]; exact (cell_of_row _ _ _ _ _ _ r0).trans rfl
  obtain ⟨oo, cc, hvv, -⟩ := id hR
  subst hvv
  have hWW : Hid (w.alloc (.cells #[.int .i64 N, v] 24) = W0) := hW0
  have n0 : ((e0 : Int) == 0) = false := by have := hk.1; simpa using this
  have n1 : ¬ ((e0 : Int) = 0) := by have := hk.1; omega
  have HB := mkHid b0
  unfold grV at CC ⊢
  clear hW0 b0 r0 hv hR hk
  refine callsIn_wide.1 (callsIn_of_wp_marks (n := 9) Try.func14 rfl trivial (wpIn_wide.2 ?_) rfl)
  simp only [Try.ntmps14, List.size_toArray, List.length_cons, List.length_nil, Nat.reduceAdd, Nat.reduceSub, Array.replicate_succ, Array.replicate_zero, List.push_toArray, List.append_toArray, List.nil_append, List.cons_append]
  go_wp2_with fail
  rw [hWW.out]
  refine Calls.mono CC ?_
  rintro e W1 ⟨rfl, b1⟩
  have HB2 := mkHid (HB.out.trans (b1.mono HB.out.size))
  clear CC c0 c1 b1
  go_wp2_with fail
  refine ⟨.tuple #[.slice none 0 0, .int .i64 (e0 : Int)], ?_, rfl, HB2.out⟩
  simp [results, Try.f14, go_sem]
theorem closeC_all (N : Int) (E : List (Int × Int)) (l : List Int) (v rv : Value) {g0 : Nat} (w : World) (hv : El v E w) (hR : Ia g0 rv l w) (hl0 : l.length < 10000000) :
    Calls Try.prog 14 #[grV N v, rv] w (ClP N E l w) := by
  by_cases h : (chk N E).1 = 0
  · obtain ⟨n, F, rfl, hn, rfl, hF, hl⟩ := chk_ok h
    cases h2 : okL n l with
    | false =>
      refine (closeE_any (n : Int) (zE F) l v rv w hv hR (by omega) (cke_no h h2)).mono ?_
      rintro e w' ⟨rfl, hb⟩
      exact cl_err (.inr ⟨h, by rw [Int.toNat_natCast]; exact h2, rfl⟩) hb
    | true =>
      obtain ⟨S, rfl, hS⟩ := okL_nat h2
      have hFF : ∀ v, v < n → ∀ x ∈ ndF n F v, x < n := fun v _ x hx => ndF_lt v x hx
      obtain ⟨K, k1, k2, k3⟩ := lyr_end (nd := ndF n F) (S := S) (N := n) hS hFF
      refine (close_gen n hn F hF hl v w hv h (ia_il hR) hS trivial (by rw [List.length_map] at hl0; exact hl0) k2 k3 (by omega) (Nat.le_trans (eaL_tot hS hFF K) (by omega)) trivial).mono ?_
      rintro e w' ⟨o, m, c, rfl, ho, hb⟩
      have hm : (srt ((eaL (ndF n F) S K).map Prod.fst)).length = m := by
        obtain ⟨h1, -⟩ := ho
        simpa [ik] using h1
      exact ⟨_, 0, o, m, c, rfl, hm, ho, hb, .inr ⟨n, F, S, K, ⟨rfl, rfl, rfl, h, hS⟩, k2, rfl, rfl⟩⟩
  · refine (closeE_any N E l v rv w hv hR (by omega) (cke_bad h)).mono ?_
    rintro e w' ⟨rfl, hb⟩
    exact cl_err (.inl ⟨h, rfl⟩) hb
end Go.Proofs.Ytgedmfcfhdfoeaa
