/- The sieve: none, Len, Width, Scanner, Scan. -/
import Derived.Test.YtceaklefdahfkabSv7
namespace Go.Proofs.Ytceaklefdahfkab
open Go.RowKit
theorem own_down {w : World} {B B' e n s : Nat} {v : Value} {xs : List Value} (h : w.ownsRow B e s v n xs) (hb : B' ≤ B) : w.ownsRow B' e s v n xs := by
  obtain ⟨h1, h2⟩ := h
  refine ⟨h1, ?_⟩
  rcases h2 with h2 | ⟨g, cap, cur, q1, q2, q3⟩
  · exact .inl h2
  · exact .inr ⟨g, cap, cur, q1, by omega, q3⟩
def Sve (g gt : Nat) (w : World) : Prop := w.heap[g]? = some (.cells #[.pointer (some ⟨gt, 0, none⟩)] 86 (0, 0))
theorem none_nil (w : World) : Calls Try.prog 50 #[.pointer none] w fun e w' => e = .returned (.bool true) ∧ w' = w := by
  go_enter Try.func50, Try.ntmps50
  go_wp2
  go_ret
  exact ⟨rfl, rfl⟩
theorem none_any (g gt : Nat) (w : World) (h : Sve g gt w) : Calls Try.prog 50 #[.pointer (some ⟨g, 0, none⟩)] w fun e w' => e = .returned (.bool false) ∧ w' = w := by
  have c0 : w.cell? ⟨g, 0, none⟩ = some (.pointer (some ⟨gt, 0, none⟩)) := (cell_of_row w g 0 _ _ _ h).trans rfl
  clear h
  go_enter Try.func50, Try.ntmps50
  go_wp2
  go_ret
  exact ⟨rfl, rfl⟩
theorem len_nil (w : World) : Calls Try.prog 51 #[.pointer none] w fun e w' => e = .returned (.int .i64 0) ∧ w' = w := by
  have CN : Hid _ := none_nil w
  go_enter Try.func51, Try.ntmps51
  go_wp2_with fail
  refine Calls.mono CN.out ?_
  rintro e W ⟨rfl, rfl⟩
  go_wp2
  go_ret
  exact ⟨rfl, rfl⟩
theorem width_nil (w : World) : Calls Try.prog 53 #[.pointer none] w fun e w' => e = .returned (.int .i64 0) ∧ w' = w := by
  have CN : Hid _ := none_nil w
  go_enter Try.func53, Try.ntmps53
  go_wp2_with fail
  refine Calls.mono CN.out ?_
  rintro e W ⟨rfl, rfl⟩
  go_wp2
  go_ret
  exact ⟨rfl, rfl⟩
theorem scanner_nil (w : World) : Calls Try.prog 19 #[.pointer none] w fun e w' => e = .returned (.pointer none) ∧ w' = w := by
  have CN : Hid _ := none_nil w
  go_enter Try.func19, Try.ntmps19
  go_wp2_with fail
  refine Calls.mono CN.out ?_
  rintro e W ⟨rfl, rfl⟩
  go_wp2
  go_ret
  exact ⟨rfl, rfl⟩
theorem len_any (g gt : Nat) (t : Tbl) (w : World) (h : Sve g gt w) (ht : Tab gt t w) : Calls Try.prog 51 #[.pointer (some ⟨g, 0, none⟩)] w fun e w' => e = .returned (.int .i64 (t.values.length : Int)) ∧ w' = w := by
  have CN : Hid _ := none_any g gt w h
  have c0 : w.cell? ⟨g, 0, none⟩ = some (.pointer (some ⟨gt, 0, none⟩)) := (cell_of_row w g 0 _ _ _ h).trans rfl
  obtain ⟨vl, vd, vf, vb, vr, vv, q0, q1, q2, q3, q4, q5, q6⟩ := ht
  obtain ⟨o, c, rfl, _⟩ := q6.form
  have c6 : w.cell? ⟨gt, 6, none⟩ = some (.slice o t.values.length c) := (cell_of_row w gt 6 _ _ _ q0).trans rfl
  clear h q0 q1 q2 q3 q4 q5 q6
  go_enter Try.func51, Try.ntmps51
  go_wp2_with fail
  refine Calls.mono CN.out ?_
  rintro e W ⟨rfl, rfl⟩
  go_wp2
  go_ret
  exact ⟨rfl, rfl⟩
theorem width_any (g gt : Nat) (t : Tbl) (w : World) (h : Sve g gt w) (ht : Tab gt t w) : Calls Try.prog 53 #[.pointer (some ⟨g, 0, none⟩)] w fun e w' => e = .returned (.int .i64 (t.width : Int)) ∧ w' = w := by
  have CN : Hid _ := none_any g gt w h
  have c0 : w.cell? ⟨g, 0, none⟩ = some (.pointer (some ⟨gt, 0, none⟩)) := (cell_of_row w g 0 _ _ _ h).trans rfl
  obtain ⟨vl, vd, vf, vb, vr, vv, q0, q1, q2, q3, q4, q5, q6⟩ := ht
  have c6 : w.cell? ⟨gt, 0, none⟩ = some (.int .i64 (t.width : Int)) := (cell_of_row w gt 0 _ _ _ q0).trans rfl
  clear h q0 q1 q2 q3 q4 q5 q6
  go_enter Try.func53, Try.ntmps53
  go_wp2_with fail
  refine Calls.mono CN.out ?_
  rintro e W ⟨rfl, rfl⟩
  go_wp2
  go_ret
  exact ⟨rfl, rfl⟩
theorem scanner_any (g gt : Nat) (w : World) (h : Sve g gt w) : Calls Try.prog 19 #[.pointer (some ⟨g, 0, none⟩)] w fun e w' => e = .returned (.pointer (some ⟨w.heap.size, 0, none⟩)) ∧ Scn w.heap.size gt 0 0 0 w' ∧ Below w.heap.size w w' ∧ w'.heap.size = w.heap.size + 1 := by
  have CN : Hid _ := none_any g gt w h
  have c0 : w.cell? ⟨g, 0, none⟩ = some (.pointer (some ⟨gt, 0, none⟩)) := (cell_of_row w g 0 _ _ _ h).trans rfl
  clear h
  go_enter Try.func19, Try.ntmps19
  go_wp2_with fail
  refine Calls.mono CN.out ?_
  rintro e W ⟨rfl, rfl⟩
  go_wp2
  go_ret
  exact ⟨rfl, heap_alloc_new _ _, ⟨rfl, rfl, rfl, by simp, fun j hj => heap_alloc_old _ _ (h := hj)⟩, by simp⟩
theorem feed_nil (pv : Value) (w : World) : Calls Try.prog 21 #[.pointer none, pv] w fun e w' => e = .returned (.slice none 0 0) ∧ w' = w := by
  go_enter Try.func21, Try.ntmps21
  go_wp2
  go_ret
  exact ⟨rfl, rfl⟩
theorem scan_nil (pv : Value) (w : World) : Calls Try.prog 11 #[.pointer none, pv] w fun e w' => e = .returned (.slice none 0 0) ∧ w' = w := by
  have CN : Hid _ := scanner_nil w
  have CF : Hid _ := feed_nil pv w
  go_enter Try.func11, Try.ntmps11
  go_wp2_with fail
  refine Calls.mono CN.out ?_
  rintro e W ⟨rfl, rfl⟩
  go_wp2_with fail
  refine Calls.mono CF.out ?_
  rintro e W ⟨rfl, rfl⟩
  go_wp2
  go_ret
  exact ⟨rfl, rfl⟩
theorem scan_any (g gt : Nat) (t : Tbl) (hw : Wk t) (G : Nat → Prop) (hG : Gd t G) (hs0 : G 0) (p : List Nat) (hpb : Byt p) (hpl : p.length ≤ 1099511627776) (pv : Value) (w : World) (h : Sve g gt w) (htk : TabK w.heap.size gt t w) (hp : Si .u8 pv p w) :
    Calls Try.prog 11 #[.pointer (some ⟨g, 0, none⟩), pv] w fun e w' => ∃ v, e = .returned v ∧ w'.ownsRow w.heap.size 39 2 v (fnd t 0 0 p).length (hc (fnd t 0 0 p)) ∧ Below w.heap.size w w' := by
  have CN : Hid _ := scanner_any g gt w h
  have CF : Hid (∀ W, Scn w.heap.size gt 0 0 0 W → Below w.heap.size w W → W.heap.size = w.heap.size + 1 → Calls Try.prog 21 #[.pointer (some ⟨w.heap.size, 0, none⟩), pv] W fun e w' => ∃ v, e = .returned v ∧ w'.ownsRow w.heap.size 39 2 v (fnd t 0 0 p).length (hc (fnd t 0 0 p)) ∧ Below w.heap.size w w') := fun W h1 h2 h3 =>
    (feed_any w.heap.size gt t hw G hG 0 0 0 hs0 (by omega) p hpb hpl pv W h1 (htk.keep h2.size fun j _ hj => h2.block j hj) (hp.below h2)).mono fun e w' ⟨v, hv, ho, _, q1, q2, q3, q4, q5⟩ => ⟨v, hv, own_down ho (by omega), h2.trans ⟨q1, q2, q3, q4, fun j hj => q5 j (by omega) (by omega)⟩⟩
  clear h htk hp hw hG hs0 hpb
  go_enter Try.func11, Try.ntmps11
  go_wp2_with fail
  refine Calls.mono CN.out ?_
  rintro e W ⟨rfl, k1, k2, k3⟩
  have CG := CF.out W k1 k2 k3
  clear k1 k2 k3
  go_wp2_with fail
  refine Calls.mono CG ?_
  rintro e W' ⟨v, rfl, k1, k2⟩
  have H : Hid _ := And.intro k1 k2
  clear k1 k2
  go_wp2
  go_ret
  exact ⟨v, rfl, H.out⟩
end Go.Proofs.Ytceaklefdahfkab
