import Derived.Test.YtageaeebiopmbaaDoorShHasher
namespace Go.Proofs.YtageaeebiopmbaaDoor.Sha
open Go.RowKit
theorem set_row {w : World} {g t i : Nat} {cs : Array Value} (v : Value) (h : w.heap[g]? = some (.cells cs t (0, 0))) : (w.setCell ⟨g, i, none⟩ v).heap[g]? = some (.cells (cs.setIfInBounds i v) t (0, 0)) := heap_setCell_same _ _ _ _ _ _ h
theorem hs_set8 (st rest : List Nat) (n : Nat) (hst : st.length = 8) (s0 s1 s2 s3 s4 s5 s6 s7 : Nat) :
    ((((((((hs st rest n).setIfInBounds 0 (.int .u32 (s0 : Int))).setIfInBounds 1 (.int .u32 (s1 : Int))).setIfInBounds 2 (.int .u32 (s2 : Int))).setIfInBounds 3 (.int .u32 (s3 : Int))).setIfInBounds 4 (.int .u32 (s4 : Int))).setIfInBounds 5 (.int .u32 (s5 : Int))).setIfInBounds 6 (.int .u32 (s6 : Int))).setIfInBounds 7 (.int .u32 (s7 : Int)) = hs [s0, s1, s2, s3, s4, s5, s6, s7] rest n := by
  match st, hst with
  | [_, _, _, _, _, _, _, _], _ => simp only [hs, List.map_cons, List.map_nil, List.cons_append, List.nil_append, List.setIfInBounds_toArray, List.set_cons_zero, List.set_cons_succ]
theorem hs_row8 (w : World) (g : Nat) (st rest : List Nat) (n : Nat) (hst : st.length = 8) (s0 s1 s2 s3 s4 s5 s6 s7 : Nat) (h : w.heap[g]? = some (.cells (hs st rest n) 78 (0, 0))) :
    ((((((((w.setCell ⟨g, 0, none⟩ (.int .u32 (s0 : Int))).setCell ⟨g, 1, none⟩ (.int .u32 (s1 : Int))).setCell ⟨g, 2, none⟩ (.int .u32 (s2 : Int))).setCell ⟨g, 3, none⟩ (.int .u32 (s3 : Int))).setCell ⟨g, 4, none⟩ (.int .u32 (s4 : Int))).setCell ⟨g, 5, none⟩ (.int .u32 (s5 : Int))).setCell ⟨g, 6, none⟩ (.int .u32 (s6 : Int))).setCell ⟨g, 7, none⟩ (.int .u32 (s7 : Int))).heap[g]? = some (.cells (hs [s0, s1, s2, s3, s4, s5, s6, s7] rest n) 78 (0, 0)) := by
  rw [← hs_set8 st rest n hst s0 s1 s2 s3 s4 s5 s6 s7]
  exact set_row (i := 7) _ (set_row (i := 6) _ (set_row (i := 5) _ (set_row (i := 4) _ (set_row (i := 3) _ (set_row (i := 2) _ (set_row (i := 1) _ (set_row (i := 0) _ h)))))))
theorem touch8 (w : World) (g : Nat) (v0 v1 v2 v3 v4 v5 v6 v7 : Value) :
    Touch g w ((((((((w.setCell ⟨g, 0, none⟩ v0).setCell ⟨g, 1, none⟩ v1).setCell ⟨g, 2, none⟩ v2).setCell ⟨g, 3, none⟩ v3).setCell ⟨g, 4, none⟩ v4).setCell ⟨g, 5, none⟩ v5).setCell ⟨g, 6, none⟩ v6).setCell ⟨g, 7, none⟩ v7) :=
  ((((((((Touch.refl g w).setCell v0).setCell v1).setCell v2).setCell v3).setCell v4).setCell v5).setCell v6).setCell v7
set_option maxHeartbeats 1000000 in
theorem begin_go (g : Nat) (st rest : List Nat) (n : Nat) (hst : st.length = 8) (hrs : rest.length = 64) (hn : (n : Int) ≠ 0) (w : World) (hh : Hid (w.heap[g]? = some (.cells (hs st rest n) 78 (0, 0)))) :
    Calls Tryd.prog 39 #[.pointer (some ⟨g, 0, none⟩)] w fun e w' => e = .returned (.tuple #[]) ∧ w' = w := by
  have cn : w.cell? ⟨g, 72, none⟩ = some (.int .i64 (n : Int)) := by rw [cell_of_row w _ _ _ _ _ hh.out, hs_len _ _ _ hst hrs]
  go_enter Tryd.func39, Tryd.ntmps39
  go_wp2
  go_end0
  exact ⟨rfl, rfl⟩
set_option maxHeartbeats 1000000 in
theorem begin_new (g : Nat) (st rest : List Nat) (hst : st.length = 8) (hrs : rest.length = 64) (s0 s1 s2 s3 s4 s5 s6 s7 : Nat) (w : World) (hh : Hid (w.heap[g]? = some (.cells (hs st rest 0) 78 (0, 0))))
    (k0 : w.cell? ⟨3, 0, none⟩ = some (.int .u32 (s0 : Int))) (k1 : w.cell? ⟨3, 1, none⟩ = some (.int .u32 (s1 : Int))) (k2 : w.cell? ⟨3, 2, none⟩ = some (.int .u32 (s2 : Int))) (k3 : w.cell? ⟨3, 3, none⟩ = some (.int .u32 (s3 : Int)))
    (k4 : w.cell? ⟨3, 4, none⟩ = some (.int .u32 (s4 : Int))) (k5 : w.cell? ⟨3, 5, none⟩ = some (.int .u32 (s5 : Int))) (k6 : w.cell? ⟨3, 6, none⟩ = some (.int .u32 (s6 : Int))) (k7 : w.cell? ⟨3, 7, none⟩ = some (.int .u32 (s7 : Int))) :
    Calls Tryd.prog 39 #[.pointer (some ⟨g, 0, none⟩)] w fun e w' => e = .returned (.tuple #[]) ∧ w'.heap[g]? = some (.cells (hs [s0, s1, s2, s3, s4, s5, s6, s7] rest 0) 78 (0, 0)) ∧ Touch g w w' := by
  have cn : w.cell? ⟨g, 72, none⟩ = some (.int .i64 0) := by rw [cell_of_row w _ _ _ _ _ hh.out, hs_len _ _ _ hst hrs]; rfl
  have cs : ∀ i, i < 8 → w.cell? ⟨g, i, none⟩ = some (.int .u32 ((st.getD i 0 : Nat) : Int)) := fun i hi => by rw [cell_of_row w _ _ _ _ _ hh.out, hs_state _ _ _ hst i hi]
  have c0 := cs 0 (by decide)
  have c1 := cs 1 (by decide)
  have c2 := cs 2 (by decide)
  have c3 := cs 3 (by decide)
  have c4 := cs 4 (by decide)
  have c5 := cs 5 (by decide)
  have c6 := cs 6 (by decide)
  have c7 := cs 7 (by decide)
  have fz : ∀ i, w.frozen? ⟨g, i, none⟩ = false := fun i => frozen_of_row w _ i _ _ hh.out
  clear cs
  go_enter Tryd.func39, Tryd.ntmps39
  go_wp2
  go_end0
  exact ⟨rfl, hs_row8 w g st rest 0 hst s0 s1 s2 s3 s4 s5 s6 s7 hh.out, touch8 w g _ _ _ _ _ _ _ _⟩
end Go.Proofs.YtageaeebiopmbaaDoor.Sha
