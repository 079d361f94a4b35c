/- SieveScans: what is written over. -/
import Derived.Test.YtceaklefdahfkabSc8
namespace Go.Proofs.Ytceaklefdahfkab
open Go.RowKit
theorem run_apM2 (w : World) (ty g : Nat) (d : List Nat) (hg : w.heap[g]? = some (.cells (ik .u8 d) 5 (0, 0))) (hl : d.length ≤ 1073741824) :
    ∃ v w', (apB ty #[.slice (some ⟨g, 0, none⟩) d.length d.length, .slice (some ⟨w.heap.size, 0, none⟩) 2 2]).run Try.prog (w.alloc (.cells #[.int .u8 90, .int .u8 165] 5)) = .ok v w' ∧ w'.ownsRow g 5 1 v (d.length + 2) (ik .u8 (d ++ [90, 165])).toList ∧ Below g w w' := by
  have gz : g < w.heap.size := (Array.getElem?_eq_some_iff.1 hg).1
  obtain ⟨i0, hi0, hz0, hz1, hz2⟩ := info_parts info5
  have hown : w.ownsRow g 5 1 (.slice (some ⟨g, 0, none⟩) d.length d.length) d.length (ik .u8 d).toList := ⟨by simp [ik_size], .inr ⟨g, d.length, ik .u8 d, rfl, Nat.le_refl _, hg, Nat.le_refl _, by unfold maxLen; omega, by simp [ik_size], by rw [Nat.mul_one, List.take_of_length_le (by simp [ik])]⟩⟩
  obtain ⟨v, w', hr, ho, hgr, _, _⟩ := run_append_own_at (P := Try.prog) (w.alloc (.cells #[.int .u8 90, .int .u8 165] 5)) g 23 ty 5 i0 _ 1 1 Try.underlying23 hi0 hz0 hz1 hz2 rfl (by omega) _ d.length _ (hown.alloc _) ⟨w.heap.size, 0, none⟩ 2 2 [.int .u8 90, .int .u8 165] rfl
    (World.news_of_block (cs := #[.int .u8 90, .int .u8 165]) (t := 5) (fr := (0, 0)) (heap_alloc_new w _)) (fun u hu => by simp at hu; rcases hu with rfl | rfl <;> rfl) (by unfold maxLen; omega) (by omega) (by simp; omega)
  have e : (ik .u8 d).toList ++ [Value.int .u8 90, Value.int .u8 165] = (ik .u8 (d ++ [90, 165])).toList := by simp [ik]
  rw [e] at ho
  refine ⟨v, w', hr, ho, ⟨by rw [hgr.os]; rfl, by rw [hgr.tape]; rfl, by rw [hgr.output]; rfl, by have := hgr.size; simp at this; omega, fun j hj => ?_⟩⟩
  rw [hgr.block j (by simp; omega) (fun e => by
    have : g = j := by cases e; rfl
    omega), heap_alloc_old _ _ (h := by omega)]
attribute [local go_sem ↓] toApB toSlB
set_option maxRecDepth 100000 in
theorem roomy_row (d : List Nat) (hd : d.length ≤ 1073741824) (v : Value) (w : World) (hv : Si .u8 v d w) :
    Calls Try.prog 29 #[v] w fun e w' => ∃ u, e = .returned u ∧ w'.ownsRow w.heap.size 5 1 u (d.length + 2) (ik .u8 (d ++ [90, 165])).toList ∧ Below w.heap.size w w' := by
  have CC : Hid _ := copied_any d hd v w hv
  have ADD : Hid (∀ W, W.heap[w.heap.size]? = some (.cells (ik .u8 d) 5 (0, 0)) → Below w.heap.size w W → ∃ u W', (apB 23 #[.slice (some ⟨w.heap.size, 0, none⟩) d.length d.length, .slice (some ⟨W.heap.size, 0, none⟩) 2 2]).run Try.prog (W.alloc (.cells #[.int .u8 90, .int .u8 165] 5)) = .ok u W' ∧ Hid (W'.ownsRow w.heap.size 5 1 u (d.length + 2) (ik .u8 (d ++ [90, 165])).toList ∧ Below w.heap.size w W')) := fun W hr hb => by
    obtain ⟨u, W', r, hs, hb2⟩ := run_apM2 W 23 w.heap.size d hr hd
    exact ⟨u, W', r, hs, hb.trans hb2⟩
  clear hv
  go_enter Try.func29, Try.ntmps29
  go_wp2_with fail
  refine Calls.mono CC.out ?_
  rintro e W ⟨rfl, hr, hb, hz⟩
  obtain ⟨u, W', r, HE⟩ := ADD.out W hr hb
  clear hr hb hz
  go_wp2
  go_ret
  exact ⟨u, rfl, HE.out⟩

/-- A row's block, and a cell of it written. -/
theorem own_row {W : World} {base e size N : Nat} {v : Value} {xs : List Value} (ho : W.ownsRow base e size v N xs) (h : 0 < N) : ∃ hb cap cur, v = .slice (some ⟨hb, 0, none⟩) N cap ∧ base ≤ hb ∧ W.heap[hb]? = some (.cells cur e (0, 0)) ∧ N * size ≤ cur.size ∧ cur.toList.take (N * size) = xs := by
  obtain ⟨h1, ⟨h2, h3⟩ | ⟨g, cap', cur, hv, h3, h4, h5, h6, h7, h8⟩⟩ := ho
  · omega
  · exact ⟨g, cap', cur, hv, h3, h4, by rw [h7]; exact Nat.mul_le_mul_right _ h5, h8⟩
end Go.Proofs.Ytceaklefdahfkab
