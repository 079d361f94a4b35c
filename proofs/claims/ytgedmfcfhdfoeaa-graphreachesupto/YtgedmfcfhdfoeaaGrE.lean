/- GraphReaches: the law, whole. -/
import Derived.Test.YtgedmfcfhdfoeaaGrD
namespace Go.Proofs.Ytgedmfcfhdfoeaa
open Go.RowKit GM Gux
set_option maxRecDepth 20000
/-- A list of one's own that is not empty. -/
theorem own_zk {w : World} {B n : Nat} {v : Value} {l : List Int} (h : w.ownsRow B 3 1 v n (zk l)) (hp : 0 < l.length) : ∃ g cap, v = .slice (some ⟨g, 0, none⟩) l.length cap ∧ l.length ≤ cap ∧ Ia g v l w := by
  obtain ⟨h0, h1⟩ := h
  have hn : n = l.length := by simpa [zk] using h0.symm
  subst hn
  rcases h1 with ⟨rfl, h1⟩ | ⟨g, cap, cur, rfl, hB, hg, hnc, hcm, hcs, htk⟩
  · simp [zk] at h0; omega
  · refine ⟨g, cap, rfl, hnc, _, _, rfl, fun _ => ⟨0, rfl, (Array.getElem?_eq_some_iff.1 hg).1, fun j hj => ?_⟩⟩
    have h1 : cur.toList[j]? = (zk l)[j]? := by rw [← htk, List.getElem?_take, if_pos (by omega)]
    rw [zk_get l j hj] at h1
    rw [Nat.zero_add, cell_of_row _ _ _ _ _ _ hg]
    simpa using h1
theorem ia_m77 (w : World) : Ia w.heap.size (.slice (some ⟨w.heap.size, 0, none⟩) 1 1) [-77] (w.alloc (.cells #[.int .i64 (-77)] 3)) := by
  have hr := heap_alloc_new w (.cells #[.int .i64 (-77)] 3)
  refine ⟨_, _, rfl, fun _ => ⟨0, rfl, by simp, fun j hj => ?_⟩⟩
  have : j = 0 := by simpa using hj
  subst this
  exact (cell_of_row _ _ _ _ _ _ hr).trans rfl
attribute [local go_sem] Oper.semAt_some
attribute [local go_sem ↓] toSlZ toApI
set_option maxRecDepth 100000 in
set_option maxHeartbeats 6400000 in
theorem reachesL_any (N : Int) (E : List (Int × Int)) (hE : E.length ≤ 1073741824) (v : Value) (w : World) (hv : El v E w) (l : List Int) (rv : Value) {g0 : Nat} (hR : Ia g0 rv l w) (hl : l.length < 10000000) (hf : rv = .slice none 0 0 ∨ ∃ a m c, rv = .slice (some a) m c) (hcl : ∀ a m c, rv = .slice (some a) m c → m ≤ c) (a b : Int) :
    Calls Try.prog 4 #[grV N v, rv, .int .i64 a, .int .i64 b] w fun e w' => e = .returned (.bool true) ∧ Below w.heap.size w w' := by
  obtain ⟨W0, hW0⟩ : ∃ W0, (w.alloc (.cells #[.int .i64 N, v] 24)).alloc (.cells #[.bool false] 4) = W0 := ⟨_, rfl⟩
  obtain ⟨kP, hkP⟩ : ∃ k, w.heap.size = k := ⟨_, rfl⟩
  have b0 : Below w.heap.size w W0 := by rw [← hW0]; exact ((Below.refl _ w).alloc (Nat.le_refl _) _).alloc (by simp) _
  have rP : W0.heap[kP]? = some (.cells #[.int .i64 N, v] 24 (0, 0)) := by rw [← hW0, ← hkP]; exact heap_alloc2_old _ _ _
  have rR : W0.heap[kP + 1]? = some (.cells #[.bool false] 4 (0, 0)) := by rw [← hW0, ← hkP]; exact heap_alloc2_new _ _ _
  obtain ⟨kR, hkR⟩ : ∃ k, kP + 1 = k := ⟨_, rfl⟩
  rw [hkR] at rR
  have C1 := roomy_any N E hE v W0 (hv.below b0)
  have l0 : W0.cell? ⟨kP, 0, none⟩ = some (.int .i64 N) := (cell_of_row _ _ _ _ _ _ rP).trans rfl
  have l1 : W0.cell? ⟨kP, 1, none⟩ = some v := (cell_of_row _ _ _ _ _ _ rP).trans rfl
  have HW := mkHid (And.intro hv (And.intro hR (And.intro hl (And.intro hf (And.intro hcl (And.intro b0 (And.intro rP (And.intro rR (And.intro hkP (And.intro hkR hE))))))))))
  have HW0 := mkHid hW0
  obtain ⟨oR, cR, rfl, -⟩ := id hR
  unfold grV at C1 ⊢
  clear hv hR hl hf hcl b0 rP rR hE hW0
  refine callsIn_wide.1 (callsIn_of_wp_marks (n := 9) Try.func4 rfl trivial (wpIn_wide.2 ?_) rfl)
  simp only [Try.ntmps4, List.size_toArray, List.length_cons, List.length_nil, Nat.reduceAdd, Nat.reduceSub, Array.replicate_succ, Array.replicate_zero, List.push_toArray, List.append_toArray, List.nil_append, List.cons_append]
  go_upto_region 1 with fail
  try rw [hkP]
  try rw [hkR]
  try rw [HW0.out]
  go_wp2_with fail
  refine Calls.mono C1 ?_
  rintro e W1 ⟨g, cap, rfl, hcap, hfull, b1⟩
  obtain ⟨W2, hW2⟩ : ∃ W2, W1.alloc (.cells #[.int .i64 N, .slice (some ⟨g, 0, none⟩) E.length cap] 24) = W2 := ⟨_, rfl⟩
  obtain ⟨kH, hkH⟩ : ∃ k, W1.heap.size = k := ⟨_, rfl⟩
  have b2 : Below W1.heap.size W1 W2 := by rw [← hW2]; exact (Below.refl _ W1).alloc (Nat.le_refl _) _
  have rH : W2.heap[kH]? = some (.cells #[.int .i64 N, .slice (some ⟨g, 0, none⟩) E.length cap] 24 (0, 0)) := by rw [← hW2, ← hkH]; exact heap_alloc_new _ _
  have b02 : Below W0.heap.size W0 W2 := b1.trans (b2.mono b1.size)
  have bw2 := HW.out.2.2.2.2.2.1.trans (b02.mono HW.out.2.2.2.2.2.1.size)
  obtain ⟨v1, W3, s3, o3, g3⟩ := run_apZ W2 W2.heap.size 0 32 g0 (.slice none 0 0) (.slice oR l.length cR) [] l (World.ownsRow_nil _ _ _ _) (HW.out.2.1.below bw2) HW.out.2.2.2.1 (by have := HW.out.2.2.1; omega) (Nat.le_refl _) HW.out.2.2.2.2.1
  rw [List.nil_append, Nat.zero_add] at o3
  have b23 : Below W2.heap.size W2 W3 := below_grown (Below.refl _ W2) g3 (Nat.le_refl _) (fun g hg => by cases hg)
  obtain ⟨v2, W4, s4, o4, g4⟩ := run_apZ (W3.alloc (.cells #[.int .i64 (-77)] 3)) W2.heap.size l.length 32 W3.heap.size v1 (.slice (some ⟨W3.heap.size, 0, none⟩) 1 1) l [-77] (o3.alloc _) (ia_m77 W3) (.inr ⟨_, _, _, rfl⟩) (by have := HW.out.2.2.1; simp; omega) (by have := b23.size; simp; omega) (fun a m c h => by injection h with h1 h2 h3; omega)
  have b34 : Below W2.heap.size W3 W4 := below_grown ((Below.refl _ W3).alloc b23.size _) g4 (by have := b23.size; simp; omega) (fun g hg => (o3.lt g hg).1)
  obtain ⟨bO, cO, rfl, hcO, hIO⟩ := own_zk o4 (by simp)
  rw [List.length_append, List.length_singleton] at hcO
  rw [show (l ++ [(-77 : Int)]).length = l.length + 1 by simp] at s4 hIO
  obtain ⟨oo1, cc1, rfl⟩ := own_size o3
  have b24 : Below W2.heap.size W2 W4 := b23.trans b34
  have bw4 := bw2.trans (b24.mono bw2.size)
  have b14 := b2.trans (b24.mono b2.size)
  have b04 := b02.trans (b24.mono b02.size)
  have hLr : Lr N E l v (.slice oR l.length cR) g0 g cap bO cO kP kR kH w W4 := by
    obtain ⟨hv, hR, hl, -, -, b0, rP, rR, hkP, hkR, hE⟩ := HW.out
    exact ⟨bw4, hv.below bw4, hR.below bw4, hfull.below b14, hcap, hIO, hcO, (b04.block _ (Array.getElem?_eq_some_iff.1 rP).1).trans rP, (b24.block _ (Array.getElem?_eq_some_iff.1 rH).1).trans rH, (b04.block _ (Array.getElem?_eq_some_iff.1 rR).1).trans rR, by omega, hE, hl⟩
  have HL := mkHid hLr
  have HWW := mkHid hW2
  clear C1 hcap hfull b1 b2 rH b02 bw2 o3 g3 b23 o4 g4 b34 hcO hIO b24 bw4 b14 b04 hLr hW2
  dsimp only
  go_upto_region 2 with fail
  try rw [hkH]
  try rw [HWW.out]
  go_upto_region 4 with fail
  rename_i Q0 K1 hk1
  have HK1 := mkHid hk1
  clear hk1
  go_wp2_with fail
  refine HK1.out _ _ ?_
  exact lr5 w W4 HL.out
end Go.Proofs.Ytgedmfcfhdfoeaa
