/- JournalDevices: does. -/
import Derived.Test.YtdiflmckjpmngaaJvX
import Derived.Deep.RegionWith
import Derived.Deep.DrawnRows
namespace Go.Proofs.Ytdiflmckjpmngaa
open Go.RowKit
/-- Block v alone is written. -/
structure Fv (W w' : World) (v : Nat) : Prop where
  os : w'.os = W.os
  tape : w'.tape = W.tape
  output : w'.output = W.output
  size : W.heap.size ≤ w'.heap.size
  block : ∀ j, j < W.heap.size → j ≠ v → w'.heap[j]? = W.heap[j]?
def Qp (W : World) (v g : Nat) : Prop := g < W.heap.size ∧ g ≠ v
/-- A cell of the device is set to new bytes. -/
theorem rw_set [Inhabited HoleT] {lo v : Nat} {W Z : World} {ov : Value} (hlo : lo ≤ W.heap.size) (hH : holeB ≤ W.heap.size) (hvW : v < W.heap.size) (hov : ∀ g, ov.ownBlock = some g → g < W.heap.size) (hZ : Below W.heap.size W Z) (o : Nat) (u : Value) :
    (∀ l s, Bq (Qd lo W v ov) W s l → Bq (Qd lo (Z.setCell ⟨v, o, none⟩ u) v ov) (Z.setCell ⟨v, o, none⟩ u) s l) ∧ (∀ l s, Bq (fun g => W.heap.size ≤ g ∧ g < Z.heap.size) Z s l → Bq (Qd lo (Z.setCell ⟨v, o, none⟩ u) v ov) (Z.setCell ⟨v, o, none⟩ u) s l) ∧ Fv W (Z.setCell ⟨v, o, none⟩ u) v := by
  have oth : ∀ j, j ≠ v → (Z.setCell ⟨v, o, none⟩ u).heap[j]? = Z.heap[j]? := fun j hj => heap_setCell_other _ _ _ _ (by show j ≠ v; exact hj)
  have hs : (Z.setCell ⟨v, o, none⟩ u).heap.size = Z.heap.size := by simp
  have hzs := hZ.size
  refine ⟨fun l s h => h.keep (fun j hj => (oth j hj.2.2.1).trans (hZ.block j hj.2.1)) (fun j hj => ⟨hj.1, by rw [hs]; have := hj.2.1; omega, hj.2.2⟩), fun l s h => h.keep (fun j hj => oth j (by have := hj.1; omega)) (fun j hj => ⟨⟨by have := hj.1; omega, hole_ok (Nat.le_trans hH hj.1)⟩, by rw [hs]; exact hj.2, by have := hj.1; omega, fun e => by have := hov j e; have := hj.1; omega⟩), ?_⟩
  have b2 : Below 0 Z (Z.setCell ⟨v, o, none⟩ u) := (Below.refl 0 Z).setCell (Nat.zero_le _) _
  exact ⟨b2.os.trans hZ.os, b2.tape.trans hZ.tape, b2.output.trans hZ.output, by rw [hs]; exact hzs, fun j hj hn => (oth j hn).trans (hZ.block j hj)⟩
theorem own_sl' {w : World} {lo e sz n : Nat} {v : Value} {xs : List Value} (h : w.ownsRow lo e sz v n xs) : ∃ o m c, v = .slice o m c := by
  rcases h.2 with ⟨h1, _⟩ | ⟨g, cap, cur, h1, _⟩
  · exact ⟨_, _, _, h1⟩
  · exact ⟨_, _, _, h1⟩
section
attribute [local go_sem ↓] toApB Go.wp_at_zero Go.wp_at_succ
set_option maxRecDepth 100000 in
set_option maxHeartbeats 3200000 in
theorem does_app0 [Inhabited HoleT] {lo v : Nat} {W : World} {oo : Option Addr} {on oc : Nat} {B : List Nat × List Nat} {x y : Fl} (h : Rw lo W v (.slice oo on oc) B x y) (hlo : lo ≤ W.heap.size) (hH : holeB ≤ W.heap.size) (hov : ∀ g, (Value.slice oo on oc).ownBlock = some g → g < W.heap.size) (pv : Value) (p : List Nat) (hp : Bq (Qp W v) W pv p) (n : Int) (hroom : x.1.length + x.2.length + p.length ≤ 50000000000000) :
    Calls Try.prog 35 #[.pointer (some ⟨v, 0, none⟩), .agg #[.int .i64 0, .int .i64 0, pv, .int .i64 n]] W fun e w' => e = .returned (.tuple #[]) ∧ Rw lo w' v (.slice oo on oc) B (x.1, x.2 ++ p) y ∧ Fv W w' v := by
  obtain ⟨b0, b1, s0, s1, l0, l1, hr, hb0, hb1, hs0, hs1, hl0, hl1⟩ := h.row
  have hvW : v < W.heap.size := (Array.getElem?_eq_some_iff.1 hr).1
  have hQ : ∀ j, Qd lo W v (.slice oo on oc) j → j < W.heap.size := fun j hj => hj.2.1
  obtain ⟨A, hA⟩ : ∃ A, W.alloc (.cells #[.int .i64 0, .int .i64 0, pv, .int .i64 n] 68) = A := ⟨_, rfl⟩
  have bA : Below W.heap.size W A := by rw [← hA]; exact (Below.refl _ W).alloc (Nat.le_refl _) _
  have hzA : A.heap.size = W.heap.size + 1 := by rw [← hA]; simp
  have rA : A.heap[W.heap.size]? = some (.cells #[.int .i64 0, .int .i64 0, pv, .int .i64 n] 68 (0, 0)) := by rw [← hA]; exact heap_alloc_new _ _
  have bD : Below W.heap.size W A.drew := ⟨bA.os, bA.tape, bA.output, bA.size, bA.block⟩
  have C : Hid _ := copR_any A.drew l0 x.2 ((hl0.bl hQ).below bD) (by unfold LIM; omega)
  obtain ⟨Y, hY⟩ : ∃ Y, A.drew.alloc (.cells (bs x.2).toArray 5) = Y := ⟨_, rfl⟩
  have bY : Below W.heap.size W Y := by rw [← hY]; exact bD.alloc bD.size _
  have hzY : Y.heap.size = W.heap.size + 2 := by rw [← hY]; show (A.drew.alloc _).heap.size = _; simp; exact hzA
  have rY : Y.heap[W.heap.size + 1]? = some (.cells (bs x.2).toArray 5 (0, 0)) := by
    rw [← hY]
    have := heap_alloc_new A.drew (.cells (bs x.2).toArray 5)
    rwa [show A.drew.heap.size = W.heap.size + 1 from hzA] at this
  have oY : Y.ownsRow (W.heap.size + 1) 5 1 (.slice (some ⟨W.heap.size + 1, 0, none⟩) x.2.length x.2.length) x.2.length (bs x.2) := ⟨by rw [bs_len]; omega, .inr ⟨W.heap.size + 1, _, _, rfl, Nat.le_refl _, rY, Nat.le_refl _, by unfold maxLen; omega, by simp [bs_len], by rw [Nat.mul_one]; exact List.take_of_length_le (by rw [bs_len]; exact Nat.le_refl _)⟩⟩
  have hpY : Bq (fun _ => True) Y pv p := hp.keep (fun j hj => bY.block j hj.1) (fun _ _ => trivial)
  obtain ⟨v', Z, hap, ho, hg, hat⟩ := run_apQ Y (W.heap.size + 1) _ _ pv _ p oY hpY (by unfold LIM; omega) (by omega)
  have bZ : Below W.heap.size W Z := ⟨hg.os.trans bY.os, hg.tape.trans bY.tape, hg.output.trans bY.output, Nat.le_trans bY.size hg.size, fun j hj => (hg.block j (by omega) (fun e => by simp [Value.ownBlock] at e; omega)).trans (bY.block j hj)⟩
  have rZ := (bZ.block v hvW).trans hr
  have hown : Bq (fun g => W.heap.size ≤ g ∧ g < Z.heap.size) Z v' (x.2 ++ p) := bq_own (n := x.2.length + p.length) (by rw [bs_app]; exact ho) (fun b hb => by rcases List.mem_append.1 hb with q | q; obtain ⟨_, _, _, _, _, _, hh, _⟩ := hl0; exact hh b q; obtain ⟨_, _, _, _, _, _, hh, _⟩ := hp; exact hh b q) (fun g hg2 => ⟨by have := (ho.lt g hg2).1; omega, (ho.lt g hg2).2⟩) (by rw [List.length_append])
  obtain ⟨k1, k2, k3⟩ := rw_set (o := 5) (u := v') hlo hH hvW hov bZ
  have HF : Hid (Rw lo (Z.setCell ⟨v, 5, none⟩ v') v (.slice oo on oc) B (x.1, x.2 ++ p) y ∧ Fv W (Z.setCell ⟨v, 5, none⟩ v') v) := by
    refine ⟨⟨⟨b0, b1, s0, s1, v', l1, heap_setCell_same _ _ _ _ _ _ rZ, k1 _ _ hb0, k1 _ _ hb1, k1 _ _ hs0, k1 _ _ hs1, k2 _ _ hown, k1 _ _ hl1⟩, h.lov, by show x.1.length + (x.2 ++ p).length ≤ _; rw [List.length_append]; omega, h.lims.2⟩, k3⟩
  obtain ⟨o', n', c', hv'⟩ := own_sl' ho
  obtain ⟨ol, cl, hll, -⟩ := id hl0
  obtain ⟨op, cp, hpp, -⟩ := id hp
  subst hv' hll hpp
  have a5 : A.drew.cell? ⟨v, 5, none⟩ = some (.slice ol x.2.length cl) := by show A.cell? _ = _; rw [cell_of_row _ _ _ _ _ _ ((bA.block v hvW).trans hr)]; rfl
  have p2 : A.drew.cell? ⟨W.heap.size, 2, none⟩ = some (.slice op p.length cp) := by show A.cell? _ = _; rw [cell_of_row _ _ _ _ _ _ rA]; rfl
  have p2Y : Y.cell? ⟨W.heap.size, 2, none⟩ = some (.slice op p.length cp) := by rw [← hY]; exact below_cell ((Below.refl _ A.drew).alloc (Nat.le_refl _) _) p2
  have z5 : Z.cell? ⟨v, 5, none⟩ = some (.slice ol x.2.length cl) := by rw [cell_of_row _ _ _ _ _ _ rZ]; rfl
  have f5 : Z.frozen? ⟨v, 5, none⟩ = false := frozen_of_row _ _ _ _ _ rZ
  have HA : Hid (W.alloc (.cells #[.int .i64 0, .int .i64 0, .slice op p.length cp, .int .i64 n] 68) = A ∧ A.drew.alloc (.cells (bs x.2).toArray 5) = Y ∧ A.drew.heap.size = W.heap.size + 1) := ⟨hA, hY, hzA⟩
  rw [show A.drew.heap.size = W.heap.size + 1 from hzA] at C
  rw [hY] at C
  clear h hr hb0 hb1 hs0 hs1 hl0 hl1 hvW hQ hA bA hzA rA bD hY bY hzY rY oY hpY ho hg hat bZ rZ hown k1 k2 k3 hp hlo hH hov hroom
  go_enter Try.func35, Try.ntmps35
  go_wp2_with fail
  rw [HA.out.1]
  go_region_with (go_at_call 32; refine Calls.mono C.out ?_; rintro e Y' ⟨rfl, hy⟩; have hy2 := hy.symm; subst hy2)
  all_goals
    go_wp2_with fail
    go_end0
    exact ⟨rfl, HF.out⟩
set_option maxRecDepth 100000 in
set_option maxHeartbeats 3200000 in
theorem does_app1 [Inhabited HoleT] {lo v : Nat} {W : World} {oo : Option Addr} {on oc : Nat} {B : List Nat × List Nat} {x y : Fl} (h : Rw lo W v (.slice oo on oc) B x y) (hlo : lo ≤ W.heap.size) (hH : holeB ≤ W.heap.size) (hov : ∀ g, (Value.slice oo on oc).ownBlock = some g → g < W.heap.size) (pv : Value) (p : List Nat) (hp : Bq (Qp W v) W pv p) (n : Int) (hroom : y.1.length + y.2.length + p.length ≤ 50000000000000) :
    Calls Try.prog 35 #[.pointer (some ⟨v, 0, none⟩), .agg #[.int .i64 0, .int .i64 1, pv, .int .i64 n]] W fun e w' => e = .returned (.tuple #[]) ∧ Rw lo w' v (.slice oo on oc) B x (y.1, y.2 ++ p) ∧ Fv W w' v := by
  obtain ⟨b0, b1, s0, s1, l0, l1, hr, hb0, hb1, hs0, hs1, hl0, hl1⟩ := h.row
  have hvW : v < W.heap.size := (Array.getElem?_eq_some_iff.1 hr).1
  have hQ : ∀ j, Qd lo W v (.slice oo on oc) j → j < W.heap.size := fun j hj => hj.2.1
  obtain ⟨A, hA⟩ : ∃ A, W.alloc (.cells #[.int .i64 0, .int .i64 1, pv, .int .i64 n] 68) = A := ⟨_, rfl⟩
  have bA : Below W.heap.size W A := by rw [← hA]; exact (Below.refl _ W).alloc (Nat.le_refl _) _
  have hzA : A.heap.size = W.heap.size + 1 := by rw [← hA]; simp
  have rA : A.heap[W.heap.size]? = some (.cells #[.int .i64 0, .int .i64 1, pv, .int .i64 n] 68 (0, 0)) := by rw [← hA]; exact heap_alloc_new _ _
  have bD : Below W.heap.size W A.drew := ⟨bA.os, bA.tape, bA.output, bA.size, bA.block⟩
  have C : Hid _ := copR_any A.drew l1 y.2 ((hl1.bl hQ).below bD) (by unfold LIM; omega)
  obtain ⟨Y, hY⟩ : ∃ Y, A.drew.alloc (.cells (bs y.2).toArray 5) = Y := ⟨_, rfl⟩
  have bY : Below W.heap.size W Y := by rw [← hY]; exact bD.alloc bD.size _
  have hzY : Y.heap.size = W.heap.size + 2 := by rw [← hY]; show (A.drew.alloc _).heap.size = _; simp; exact hzA
  have rY : Y.heap[W.heap.size + 1]? = some (.cells (bs y.2).toArray 5 (0, 0)) := by
    rw [← hY]
    have := heap_alloc_new A.drew (.cells (bs y.2).toArray 5)
    rwa [show A.drew.heap.size = W.heap.size + 1 from hzA] at this
  have oY : Y.ownsRow (W.heap.size + 1) 5 1 (.slice (some ⟨W.heap.size + 1, 0, none⟩) y.2.length y.2.length) y.2.length (bs y.2) := ⟨by rw [bs_len]; omega, .inr ⟨W.heap.size + 1, _, _, rfl, Nat.le_refl _, rY, Nat.le_refl _, by unfold maxLen; omega, by simp [bs_len], by rw [Nat.mul_one]; exact List.take_of_length_le (by rw [bs_len]; exact Nat.le_refl _)⟩⟩
  have hpY : Bq (fun _ => True) Y pv p := hp.keep (fun j hj => bY.block j hj.1) (fun _ _ => trivial)
  obtain ⟨v', Z, hap, ho, hg, hat⟩ := run_apQ Y (W.heap.size + 1) _ _ pv _ p oY hpY (by unfold LIM; omega) (by omega)
  have bZ : Below W.heap.size W Z := ⟨hg.os.trans bY.os, hg.tape.trans bY.tape, hg.output.trans bY.output, Nat.le_trans bY.size hg.size, fun j hj => (hg.block j (by omega) (fun e => by simp [Value.ownBlock] at e; omega)).trans (bY.block j hj)⟩
  have rZ := (bZ.block v hvW).trans hr
  have hown : Bq (fun g => W.heap.size ≤ g ∧ g < Z.heap.size) Z v' (y.2 ++ p) := bq_own (n := y.2.length + p.length) (by rw [bs_app]; exact ho) (fun b hb => by rcases List.mem_append.1 hb with q | q; obtain ⟨_, _, _, _, _, _, hh, _⟩ := hl1; exact hh b q; obtain ⟨_, _, _, _, _, _, hh, _⟩ := hp; exact hh b q) (fun g hg2 => ⟨by have := (ho.lt g hg2).1; omega, (ho.lt g hg2).2⟩) (by rw [List.length_append])
  obtain ⟨k1, k2, k3⟩ := rw_set (o := 6) (u := v') hlo hH hvW hov bZ
  have HF : Hid (Rw lo (Z.setCell ⟨v, 6, none⟩ v') v (.slice oo on oc) B x (y.1, y.2 ++ p) ∧ Fv W (Z.setCell ⟨v, 6, none⟩ v') v) := by
    refine ⟨⟨⟨b0, b1, s0, s1, l0, v', heap_setCell_same _ _ _ _ _ _ rZ, k1 _ _ hb0, k1 _ _ hb1, k1 _ _ hs0, k1 _ _ hs1, k1 _ _ hl0, k2 _ _ hown⟩, h.lov, h.lims.1, by show y.1.length + (y.2 ++ p).length ≤ _; rw [List.length_append]; omega⟩, k3⟩
  obtain ⟨o', n', c', hv'⟩ := own_sl' ho
  obtain ⟨ol, cl, hll, -⟩ := id hl1
  obtain ⟨op, cp, hpp, -⟩ := id hp
  subst hv' hll hpp
  have a5 : A.drew.cell? ⟨v, 6, none⟩ = some (.slice ol y.2.length cl) := by show A.cell? _ = _; rw [cell_of_row _ _ _ _ _ _ ((bA.block v hvW).trans hr)]; rfl
  have p2 : A.drew.cell? ⟨W.heap.size, 2, none⟩ = some (.slice op p.length cp) := by show A.cell? _ = _; rw [cell_of_row _ _ _ _ _ _ rA]; rfl
  have p2Y : Y.cell? ⟨W.heap.size, 2, none⟩ = some (.slice op p.length cp) := by rw [← hY]; exact below_cell ((Below.refl _ A.drew).alloc (Nat.le_refl _) _) p2
  have z5 : Z.cell? ⟨v, 6, none⟩ = some (.slice ol y.2.length cl) := by rw [cell_of_row _ _ _ _ _ _ rZ]; rfl
  have f5 : Z.frozen? ⟨v, 6, none⟩ = false := frozen_of_row _ _ _ _ _ rZ
  have HA : Hid (W.alloc (.cells #[.int .i64 0, .int .i64 1, .slice op p.length cp, .int .i64 n] 68) = A ∧ A.drew.alloc (.cells (bs y.2).toArray 5) = Y ∧ A.drew.heap.size = W.heap.size + 1) := ⟨hA, hY, hzA⟩
  rw [show A.drew.heap.size = W.heap.size + 1 from hzA] at C
  rw [hY] at C
  clear h hr hb0 hb1 hs0 hs1 hl0 hl1 hvW hQ hA bA hzA rA bD hY bY hzY rY oY hpY ho hg hat bZ rZ hown k1 k2 k3 hp hlo hH hov hroom
  go_enter Try.func35, Try.ntmps35
  go_wp2_with fail
  rw [HA.out.1]
  go_region_with (go_at_call 32; refine Calls.mono C.out ?_; rintro e Y' ⟨rfl, hy⟩; have hy2 := hy.symm; subst hy2)
  all_goals
    go_wp2_with fail
    go_end0
    exact ⟨rfl, HF.out⟩
end
end Go.Proofs.Ytdiflmckjpmngaa
