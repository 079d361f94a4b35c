/- hasUnused, checkRefs. -/
import Derived.Test.YtffghlbgbfhfdaaDoorFg1
namespace Go.Proofs.YtffghlbgbfhfdaaDoor
open Go.RowKit Go.Shelf Go.Sort
theorem cell_al (w : World) (b i : Nat) (h : b < w.heap.size) (X : Obj) : (w.alloc X).cell? ⟨b, i, none⟩ = w.cell? ⟨b, i, none⟩ := World.cell?_of_block (w := w) (heap_alloc_old w X (h := h))
theorem cell_al2 (w : World) (b i : Nat) (h : b < w.heap.size) (X Y : Obj) : ((w.alloc X).alloc Y).cell? ⟨b, i, none⟩ = w.cell? ⟨b, i, none⟩ := (cell_al _ b i (by simp; omega) Y).trans (cell_al w b i h X)
theorem out_nil (s : ByteArray) : decide (0 < s.size) = !decide (s.toList = []) := by
  rw [ByteArray.toList_eq]
  have h1 : s.size = s.data.toList.length := rfl
  cases h : s.data.toList with
  | nil => rw [h] at h1; simp [h1]
  | cons x r => rw [h] at h1; simp [h1]
theorem len_nil (n : Nat) : decide (0 < n) = !decide ((n : Int) = 0) := by
  by_cases h : n = 0
  · subst h; rfl
  · rw [decide_eq_true (by omega), decide_eq_false (by omega)]; rfl
theorem unV_eq (f : Fg) : unV f = ((decide (f.k ≠ 1 ∧ f.k ≠ 2) && !decide ((f.L.length : Int) = 0)) || (decide (f.k ≠ 2) && f.self) || (decide (f.k ≠ 3) && !decide (f.out.toList = [])) || (decide (f.k ≠ 4) && decide (f.ix ≠ 0))) := by
  unfold unV
  rw [out_nil, len_nil]
set_option maxRecDepth 100000 in
set_option maxHeartbeats 1000000 in
theorem un_1 (f : Fg) (o : Option Addr) (c : Nat) (hv : f.v = .slice o f.L.length c) (hk1 : f.k = 1) (w : World) (hk : Tk w) :
    Calls Tryd.prog 14 #[.agg (fing f)] w fun e w' => e = .returned (.bool (unV f)) ∧ Below w.heap.size w w' := by
  have f0 : (fing f)[0]? = some (.int .i64 1) := by rw [← hk1]; exact fing_head f 0 (by omega)
  have f1 : (fing f)[1]? = some (.slice o f.L.length c) := by rw [← hv]; exact fing_head f 1 (by omega)
  have f2 : (fing f)[2]? = some (.bool f.self) := fing_head f 2 (by omega)
  have f3 : (fing f)[3]? = some (.string f.out) := fing_head f 3 (by omega)
  have f4 : (fing f)[4]? = some (.int .i64 f.ix) := fing_head f 4 (by omega)
  have k7 := fun X Y => (cell_al2 w 0 3 hk.sz X Y).trans hk.u1
  rw [unV_eq, hk1]
  clear hk
  go_enter Tryd.func14, Tryd.ntmps14
  go_wp2_with fail
  all_goals
    go_ret
    refine ⟨?_, ((Below.refl _ w).alloc (Nat.le_refl _) _).alloc (by simp) _⟩
    clear f0 f1 f2 f3 f4 k7 hk1 hv
    simp_all
set_option maxRecDepth 100000 in
set_option maxHeartbeats 1000000 in
theorem un_2 (f : Fg) (o : Option Addr) (c : Nat) (hv : f.v = .slice o f.L.length c) (hk1 : f.k = 2) (w : World) (hk : Tk w) :
    Calls Tryd.prog 14 #[.agg (fing f)] w fun e w' => e = .returned (.bool (unV f)) ∧ Below w.heap.size w w' := by
  have f0 : (fing f)[0]? = some (.int .i64 2) := by rw [← hk1]; exact fing_head f 0 (by omega)
  have f1 : (fing f)[1]? = some (.slice o f.L.length c) := by rw [← hv]; exact fing_head f 1 (by omega)
  have f2 : (fing f)[2]? = some (.bool f.self) := fing_head f 2 (by omega)
  have f3 : (fing f)[3]? = some (.string f.out) := fing_head f 3 (by omega)
  have f4 : (fing f)[4]? = some (.int .i64 f.ix) := fing_head f 4 (by omega)
  have k7 := fun X Y => (cell_al2 w 0 5 hk.sz X Y).trans hk.u2
  rw [unV_eq, hk1]
  clear hk
  go_enter Tryd.func14, Tryd.ntmps14
  go_wp2_with fail
  all_goals
    go_ret
    refine ⟨?_, ((Below.refl _ w).alloc (Nat.le_refl _) _).alloc (by simp) _⟩
    clear f0 f1 f2 f3 f4 k7 hk1 hv
    simp_all
set_option maxRecDepth 100000 in
set_option maxHeartbeats 1000000 in
theorem un_3 (f : Fg) (o : Option Addr) (c : Nat) (hv : f.v = .slice o f.L.length c) (hk1 : f.k = 3) (w : World) (hk : Tk w) :
    Calls Tryd.prog 14 #[.agg (fing f)] w fun e w' => e = .returned (.bool (unV f)) ∧ Below w.heap.size w w' := by
  have f0 : (fing f)[0]? = some (.int .i64 3) := by rw [← hk1]; exact fing_head f 0 (by omega)
  have f1 : (fing f)[1]? = some (.slice o f.L.length c) := by rw [← hv]; exact fing_head f 1 (by omega)
  have f2 : (fing f)[2]? = some (.bool f.self) := fing_head f 2 (by omega)
  have f3 : (fing f)[3]? = some (.string f.out) := fing_head f 3 (by omega)
  have f4 : (fing f)[4]? = some (.int .i64 f.ix) := fing_head f 4 (by omega)
  have k7 := fun X Y => (cell_al2 w 0 7 hk.sz X Y).trans hk.u3
  rw [unV_eq, hk1]
  clear hk
  go_enter Tryd.func14, Tryd.ntmps14
  go_wp2_with fail
  all_goals
    go_ret
    refine ⟨?_, ((Below.refl _ w).alloc (Nat.le_refl _) _).alloc (by simp) _⟩
    clear f0 f1 f2 f3 f4 k7 hk1 hv
    simp_all
set_option maxRecDepth 100000 in
set_option maxHeartbeats 1000000 in
theorem un_4 (f : Fg) (o : Option Addr) (c : Nat) (hv : f.v = .slice o f.L.length c) (hk1 : f.k = 4) (w : World) (hk : Tk w) :
    Calls Tryd.prog 14 #[.agg (fing f)] w fun e w' => e = .returned (.bool (unV f)) ∧ Below w.heap.size w w' := by
  have f0 : (fing f)[0]? = some (.int .i64 4) := by rw [← hk1]; exact fing_head f 0 (by omega)
  have f1 : (fing f)[1]? = some (.slice o f.L.length c) := by rw [← hv]; exact fing_head f 1 (by omega)
  have f2 : (fing f)[2]? = some (.bool f.self) := fing_head f 2 (by omega)
  have f3 : (fing f)[3]? = some (.string f.out) := fing_head f 3 (by omega)
  have f4 : (fing f)[4]? = some (.int .i64 f.ix) := fing_head f 4 (by omega)
  have k7 := fun X Y => (cell_al2 w 0 9 hk.sz X Y).trans hk.u4
  rw [unV_eq, hk1]
  clear hk
  go_enter Tryd.func14, Tryd.ntmps14
  go_wp2_with fail
  all_goals
    go_ret
    refine ⟨?_, ((Below.refl _ w).alloc (Nat.le_refl _) _).alloc (by simp) _⟩
    clear f0 f1 f2 f3 f4 k7 hk1 hv
    simp_all
end Go.Proofs.YtffghlbgbfhfdaaDoor
