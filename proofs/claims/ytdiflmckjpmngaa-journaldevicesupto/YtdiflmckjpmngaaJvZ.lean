/- JournalDevices: does of a Sync. -/
import Derived.Test.YtdiflmckjpmngaaJvY
namespace Go.Proofs.Ytdiflmckjpmngaa
open Go.RowKit
theorem rw_set2 [Inhabited HoleT] {lo v : Nat} {W Z : World} {ov : Value} (hlo : lo ≤ W.heap.size) (hH : holeB ≤ W.heap.size) (hvW : v < W.heap.size) (hov : ∀ g, ov.ownBlock = some g → g < W.heap.size) (hZ : Below W.heap.size W Z) {o o2 : Nat} {u u2 : Value} :
    (∀ l s, Bq (Qd lo W v ov) W s l → Bq (Qd lo ((Z.setCell ⟨v, o, none⟩ u).setCell ⟨v, o2, none⟩ u2) v ov) ((Z.setCell ⟨v, o, none⟩ u).setCell ⟨v, o2, none⟩ u2) s l) ∧ (∀ l s, Bq (fun g => W.heap.size ≤ g ∧ g < Z.heap.size) Z s l → Bq (Qd lo ((Z.setCell ⟨v, o, none⟩ u).setCell ⟨v, o2, none⟩ u2) v ov) ((Z.setCell ⟨v, o, none⟩ u).setCell ⟨v, o2, none⟩ u2) s l) ∧ Fv W ((Z.setCell ⟨v, o, none⟩ u).setCell ⟨v, o2, none⟩ u2) v := by
  have oth : ∀ j, j ≠ v → ((Z.setCell ⟨v, o, none⟩ u).setCell ⟨v, o2, none⟩ u2).heap[j]? = Z.heap[j]? := fun j hj => (heap_setCell_other _ _ _ _ (by show j ≠ v; exact hj)).trans (heap_setCell_other _ _ _ _ (by show j ≠ v; exact hj))
  have hs : ((Z.setCell ⟨v, o, none⟩ u).setCell ⟨v, o2, none⟩ u2).heap.size = Z.heap.size := by simp
  have hzs := hZ.size
  refine ⟨fun l s h => h.keep (fun j hj => (oth j hj.2.2.1).trans (hZ.block j hj.2.1)) (fun j hj => ⟨hj.1, by rw [hs]; have := hj.2.1; omega, hj.2.2⟩), fun l s h => h.keep (fun j hj => oth j (by have := hj.1; omega)) (fun j hj => ⟨⟨by have := hj.1; omega, hole_ok (Nat.le_trans hH hj.1)⟩, by rw [hs]; exact hj.2, by have := hj.1; omega, fun e => by have := hov j e; have := hj.1; omega⟩), ?_⟩
  have b2 : Below 0 Z ((Z.setCell ⟨v, o, none⟩ u).setCell ⟨v, o2, none⟩ u2) := ((Below.refl 0 Z).setCell (Nat.zero_le _) _).setCell (Nat.zero_le _) _
  exact ⟨b2.os.trans hZ.os, b2.tape.trans hZ.tape, b2.output.trans hZ.output, by rw [hs]; exact hzs, fun j hj hn => (oth j hn).trans (hZ.block j hj)⟩
section
attribute [local go_sem ↓] toApB Go.wp_at_zero Go.wp_at_succ
set_option maxRecDepth 100000 in
set_option maxHeartbeats 3200000 in
theorem does_syn0 [Inhabited HoleT] {lo v : Nat} {W : World} {oo : Option Addr} {on oc : Nat} {B : List Nat × List Nat} {x y : Fl} (h : Rw lo W v (.slice oo on oc) B x y) (hlo : lo ≤ W.heap.size) (hH : holeB ≤ W.heap.size) (hov : ∀ g, (Value.slice oo on oc).ownBlock = some g → g < W.heap.size) (po : Option Addr) (pn pc : Nat) (n : Int) :
    Calls Try.prog 35 #[.pointer (some ⟨v, 0, none⟩), .agg #[.int .i64 1, .int .i64 0, .slice po pn pc, .int .i64 n]] W fun e w' => e = .returned (.tuple #[]) ∧ Rw lo w' v (.slice oo on oc) B (x.1 ++ x.2, []) y ∧ Fv W w' v := by
  obtain ⟨b0, b1, s0, s1, l0, l1, hr, hb0, hb1, hs0, hs1, hl0, hl1⟩ := h.row
  have hvW : v < W.heap.size := (Array.getElem?_eq_some_iff.1 hr).1
  have hQ : ∀ j, Qd lo W v (.slice oo on oc) j → j < W.heap.size := fun j hj => hj.2.1
  have hroom := h.lims
  obtain ⟨A, hA⟩ : ∃ A, W.alloc (.cells #[.int .i64 1, .int .i64 0, .slice po pn pc, .int .i64 n] 68) = A := ⟨_, rfl⟩
  have bA : Below W.heap.size W A := by rw [← hA]; exact (Below.refl _ W).alloc (Nat.le_refl _) _
  have hzA : A.heap.size = W.heap.size + 1 := by rw [← hA]; simp
  have bD : Below W.heap.size W A.drew := ⟨bA.os, bA.tape, bA.output, bA.size, bA.block⟩
  have C : Hid _ := copR_any A.drew s0 x.1 ((hs0.bl hQ).below bD) (by unfold LIM; omega)
  obtain ⟨Y, hY⟩ : ∃ Y, A.drew.alloc (.cells (bs x.1).toArray 5) = Y := ⟨_, rfl⟩
  have bY : Below W.heap.size W Y := by rw [← hY]; exact bD.alloc bD.size _
  have hzY : Y.heap.size = W.heap.size + 2 := by rw [← hY]; show (A.drew.alloc _).heap.size = _; simp; exact hzA
  have rY : Y.heap[W.heap.size + 1]? = some (.cells (bs x.1).toArray 5 (0, 0)) := by
    rw [← hY]
    have := heap_alloc_new A.drew (.cells (bs x.1).toArray 5)
    rwa [show A.drew.heap.size = W.heap.size + 1 from hzA] at this
  have oY : Y.ownsRow (W.heap.size + 1) 5 1 (.slice (some ⟨W.heap.size + 1, 0, none⟩) x.1.length x.1.length) x.1.length (bs x.1) := ⟨by rw [bs_len]; omega, .inr ⟨W.heap.size + 1, _, _, rfl, Nat.le_refl _, rY, Nat.le_refl _, by unfold maxLen; omega, by simp [bs_len], by rw [Nat.mul_one]; exact List.take_of_length_le (by rw [bs_len]; exact Nat.le_refl _)⟩⟩
  have hpY : Bq (fun _ => True) Y l0 x.2 := hl0.keep (fun j hj => bY.block j hj.2.1) (fun _ _ => trivial)
  obtain ⟨v', Z, hap, ho, hg, hat⟩ := run_apQ Y (W.heap.size + 1) _ _ l0 _ x.2 oY hpY (by unfold LIM; omega) (by omega)
  have bZ : Below W.heap.size W Z := ⟨hg.os.trans bY.os, hg.tape.trans bY.tape, hg.output.trans bY.output, Nat.le_trans bY.size hg.size, fun j hj => (hg.block j (by omega) (fun e => by simp [Value.ownBlock] at e; omega)).trans (bY.block j hj)⟩
  have rZ := (bZ.block v hvW).trans hr
  have hown : Bq (fun g => W.heap.size ≤ g ∧ g < Z.heap.size) Z v' (x.1 ++ x.2) := bq_own (n := x.1.length + x.2.length) (by rw [bs_app]; exact ho) (fun b hb => by rcases List.mem_append.1 hb with q | q; obtain ⟨_, _, _, _, _, _, hh, _⟩ := hs0; exact hh b q; obtain ⟨_, _, _, _, _, _, hh, _⟩ := hl0; exact hh b q) (fun g hg2 => ⟨by have := (ho.lt g hg2).1; omega, (ho.lt g hg2).2⟩) (by rw [List.length_append])
  obtain ⟨k1, k2, k3⟩ := rw_set2 (o := 3) (o2 := 5) (u := v') (u2 := .slice none 0 0) hlo hH hvW hov bZ
  have rZ1 : (Z.setCell ⟨v, 3, none⟩ v').heap[v]? = some (.cells #[b0, b1, .slice oo on oc, v', s1, l0, l1] 64 (0, 0)) := heap_setCell_same _ _ _ _ _ _ rZ
  have HF : Hid (Rw lo ((Z.setCell ⟨v, 3, none⟩ v').setCell ⟨v, 5, none⟩ (.slice none 0 0)) v (.slice oo on oc) B (x.1 ++ x.2, []) y ∧ Fv W ((Z.setCell ⟨v, 3, none⟩ v').setCell ⟨v, 5, none⟩ (.slice none 0 0)) v) := by
    refine ⟨⟨⟨b0, b1, v', s1, .slice none 0 0, l1, heap_setCell_same _ _ _ _ _ _ rZ1, k1 _ _ hb0, k1 _ _ hb1, k2 _ _ hown, k1 _ _ hs1, bq_nil _ _, k1 _ _ hl1⟩, h.lov, by show (x.1 ++ x.2).length + 0 ≤ _; rw [List.length_append]; exact h.lims.1, h.lims.2⟩, k3⟩
  obtain ⟨o', n', c', hv'⟩ := own_sl' ho
  obtain ⟨os, cs, hss, -⟩ := id hs0
  obtain ⟨ol, cl, hll, -⟩ := id hl0
  subst hv' hss hll
  have a3 : A.drew.cell? ⟨v, 3, none⟩ = some (.slice os x.1.length cs) := by show A.cell? _ = _; rw [cell_of_row _ _ _ _ _ _ ((bA.block v hvW).trans hr)]; rfl
  have a5 : A.drew.cell? ⟨v, 5, none⟩ = some (.slice ol x.2.length cl) := by show A.cell? _ = _; rw [cell_of_row _ _ _ _ _ _ ((bA.block v hvW).trans hr)]; rfl
  have a5Y : Y.cell? ⟨v, 5, none⟩ = some (.slice ol x.2.length cl) := by rw [cell_of_row _ _ _ _ _ _ ((bY.block v hvW).trans hr)]; rfl
  have z3 : Z.cell? ⟨v, 3, none⟩ = some (.slice os x.1.length cs) := by rw [cell_of_row _ _ _ _ _ _ rZ]; rfl
  have f3 : Z.frozen? ⟨v, 3, none⟩ = false := frozen_of_row _ _ _ _ _ rZ
  have z5 : (Z.setCell ⟨v, 3, none⟩ (.slice o' n' c')).cell? ⟨v, 5, none⟩ = some (.slice ol x.2.length cl) := by rw [cell_of_row _ _ _ _ _ _ rZ1]; rfl
  have f5 : (Z.setCell ⟨v, 3, none⟩ (.slice o' n' c')).frozen? ⟨v, 5, none⟩ = false := frozen_of_row _ _ _ _ _ rZ1
  have HA : Hid (W.alloc (.cells #[.int .i64 1, .int .i64 0, .slice po pn pc, .int .i64 n] 68) = A) := hA
  rw [show A.drew.heap.size = W.heap.size + 1 from hzA] at C
  rw [hY] at C
  clear h hr hb0 hb1 hs0 hs1 hl0 hl1 hvW hQ hA bA hzA bD hY bY hzY rY oY hpY ho hg hat bZ rZ rZ1 hown k1 k2 k3 hlo hH hov hroom
  go_enter Try.func35, Try.ntmps35
  go_wp2_with fail
  rw [HA.out]
  go_region_with (go_at_call 32; refine Calls.mono C.out ?_; rintro e Y' ⟨rfl, hy⟩; have hy2 := hy.symm; subst hy2)
  all_goals
    go_wp2_with fail
    go_end0
    exact ⟨rfl, HF.out⟩
set_option maxRecDepth 100000 in
set_option maxHeartbeats 3200000 in
theorem does_syn1 [Inhabited HoleT] {lo v : Nat} {W : World} {oo : Option Addr} {on oc : Nat} {B : List Nat × List Nat} {x y : Fl} (h : Rw lo W v (.slice oo on oc) B x y) (hlo : lo ≤ W.heap.size) (hH : holeB ≤ W.heap.size) (hov : ∀ g, (Value.slice oo on oc).ownBlock = some g → g < W.heap.size) (po : Option Addr) (pn pc : Nat) (n : Int) :
    Calls Try.prog 35 #[.pointer (some ⟨v, 0, none⟩), .agg #[.int .i64 1, .int .i64 1, .slice po pn pc, .int .i64 n]] W fun e w' => e = .returned (.tuple #[]) ∧ Rw lo w' v (.slice oo on oc) B x (y.1 ++ y.2, []) ∧ Fv W w' v := by
  obtain ⟨b0, b1, s0, s1, l0, l1, hr, hb0, hb1, hs0, hs1, hl0, hl1⟩ := h.row
  have hvW : v < W.heap.size := (Array.getElem?_eq_some_iff.1 hr).1
  have hQ : ∀ j, Qd lo W v (.slice oo on oc) j → j < W.heap.size := fun j hj => hj.2.1
  have hroom := h.lims
  obtain ⟨A, hA⟩ : ∃ A, W.alloc (.cells #[.int .i64 1, .int .i64 1, .slice po pn pc, .int .i64 n] 68) = A := ⟨_, rfl⟩
  have bA : Below W.heap.size W A := by rw [← hA]; exact (Below.refl _ W).alloc (Nat.le_refl _) _
  have hzA : A.heap.size = W.heap.size + 1 := by rw [← hA]; simp
  have bD : Below W.heap.size W A.drew := ⟨bA.os, bA.tape, bA.output, bA.size, bA.block⟩
  have C : Hid _ := copR_any A.drew s1 y.1 ((hs1.bl hQ).below bD) (by unfold LIM; omega)
  obtain ⟨Y, hY⟩ : ∃ Y, A.drew.alloc (.cells (bs y.1).toArray 5) = Y := ⟨_, rfl⟩
  have bY : Below W.heap.size W Y := by rw [← hY]; exact bD.alloc bD.size _
  have hzY : Y.heap.size = W.heap.size + 2 := by rw [← hY]; show (A.drew.alloc _).heap.size = _; simp; exact hzA
  have rY : Y.heap[W.heap.size + 1]? = some (.cells (bs y.1).toArray 5 (0, 0)) := by
    rw [← hY]
    have := heap_alloc_new A.drew (.cells (bs y.1).toArray 5)
    rwa [show A.drew.heap.size = W.heap.size + 1 from hzA] at this
  have oY : Y.ownsRow (W.heap.size + 1) 5 1 (.slice (some ⟨W.heap.size + 1, 0, none⟩) y.1.length y.1.length) y.1.length (bs y.1) := ⟨by rw [bs_len]; omega, .inr ⟨W.heap.size + 1, _, _, rfl, Nat.le_refl _, rY, Nat.le_refl _, by unfold maxLen; omega, by simp [bs_len], by rw [Nat.mul_one]; exact List.take_of_length_le (by rw [bs_len]; exact Nat.le_refl _)⟩⟩
  have hpY : Bq (fun _ => True) Y l1 y.2 := hl1.keep (fun j hj => bY.block j hj.2.1) (fun _ _ => trivial)
  obtain ⟨v', Z, hap, ho, hg, hat⟩ := run_apQ Y (W.heap.size + 1) _ _ l1 _ y.2 oY hpY (by unfold LIM; omega) (by omega)
  have bZ : Below W.heap.size W Z := ⟨hg.os.trans bY.os, hg.tape.trans bY.tape, hg.output.trans bY.output, Nat.le_trans bY.size hg.size, fun j hj => (hg.block j (by omega) (fun e => by simp [Value.ownBlock] at e; omega)).trans (bY.block j hj)⟩
  have rZ := (bZ.block v hvW).trans hr
  have hown : Bq (fun g => W.heap.size ≤ g ∧ g < Z.heap.size) Z v' (y.1 ++ y.2) := bq_own (n := y.1.length + y.2.length) (by rw [bs_app]; exact ho) (fun b hb => by rcases List.mem_append.1 hb with q | q; obtain ⟨_, _, _, _, _, _, hh, _⟩ := hs1; exact hh b q; obtain ⟨_, _, _, _, _, _, hh, _⟩ := hl1; exact hh b q) (fun g hg2 => ⟨by have := (ho.lt g hg2).1; omega, (ho.lt g hg2).2⟩) (by rw [List.length_append])
  obtain ⟨k1, k2, k3⟩ := rw_set2 (o := 4) (o2 := 6) (u := v') (u2 := .slice none 0 0) hlo hH hvW hov bZ
  have rZ1 : (Z.setCell ⟨v, 4, none⟩ v').heap[v]? = some (.cells #[b0, b1, .slice oo on oc, s0, v', l0, l1] 64 (0, 0)) := heap_setCell_same _ _ _ _ _ _ rZ
  have HF : Hid (Rw lo ((Z.setCell ⟨v, 4, none⟩ v').setCell ⟨v, 6, none⟩ (.slice none 0 0)) v (.slice oo on oc) B x (y.1 ++ y.2, []) ∧ Fv W ((Z.setCell ⟨v, 4, none⟩ v').setCell ⟨v, 6, none⟩ (.slice none 0 0)) v) := by
    refine ⟨⟨⟨b0, b1, s0, v', l0, .slice none 0 0, heap_setCell_same _ _ _ _ _ _ rZ1, k1 _ _ hb0, k1 _ _ hb1, k1 _ _ hs0, k2 _ _ hown, k1 _ _ hl0, bq_nil _ _⟩, h.lov, h.lims.1, by show (y.1 ++ y.2).length + 0 ≤ _; rw [List.length_append]; exact h.lims.2⟩, k3⟩
  obtain ⟨o', n', c', hv'⟩ := own_sl' ho
  obtain ⟨os, cs, hss, -⟩ := id hs1
  obtain ⟨ol, cl, hll, -⟩ := id hl1
  subst hv' hss hll
  have a3 : A.drew.cell? ⟨v, 4, none⟩ = some (.slice os y.1.length cs) := by show A.cell? _ = _; rw [cell_of_row _ _ _ _ _ _ ((bA.block v hvW).trans hr)]; rfl
  have a5 : A.drew.cell? ⟨v, 6, none⟩ = some (.slice ol y.2.length cl) := by show A.cell? _ = _; rw [cell_of_row _ _ _ _ _ _ ((bA.block v hvW).trans hr)]; rfl
  have a5Y : Y.cell? ⟨v, 6, none⟩ = some (.slice ol y.2.length cl) := by rw [cell_of_row _ _ _ _ _ _ ((bY.block v hvW).trans hr)]; rfl
  have z3 : Z.cell? ⟨v, 4, none⟩ = some (.slice os y.1.length cs) := by rw [cell_of_row _ _ _ _ _ _ rZ]; rfl
  have f3 : Z.frozen? ⟨v, 4, none⟩ = false := frozen_of_row _ _ _ _ _ rZ
  have z5 : (Z.setCell ⟨v, 4, none⟩ (.slice o' n' c')).cell? ⟨v, 6, none⟩ = some (.slice ol y.2.length cl) := by rw [cell_of_row _ _ _ _ _ _ rZ1]; rfl
  have f5 : (Z.setCell ⟨v, 4, none⟩ (.slice o' n' c')).frozen? ⟨v, 6, none⟩ = false := frozen_of_row _ _ _ _ _ rZ1
  have HA : Hid (W.alloc (.cells #[.int .i64 1, .int .i64 1, .slice po pn pc, .int .i64 n] 68) = A) := hA
  rw [show A.drew.heap.size = W.heap.size + 1 from hzA] at C
  rw [hY] at C
  clear h hr hb0 hb1 hs0 hs1 hl0 hl1 hvW hQ hA bA hzA bD hY bY hzY rY oY hpY ho hg hat bZ rZ rZ1 hown k1 k2 k3 hlo hH hov hroom
  go_enter Try.func35, Try.ntmps35
  go_wp2_with fail
  rw [HA.out]
  go_region_with (go_at_call 32; refine Calls.mono C.out ?_; rintro e Y' ⟨rfl, hy⟩; have hy2 := hy.symm; subst hy2)
  all_goals
    go_wp2_with fail
    go_end0
    exact ⟨rfl, HF.out⟩
end
end Go.Proofs.Ytdiflmckjpmngaa
