/- JournalDevices: does of a Cut. -/
import Derived.Test.YtdiflmckjpmngaaJvZ
import Derived.BigQuiet
namespace Go.Proofs.Ytdiflmckjpmngaa
open Go.RowKit
theorem run_slK (w : World) (oa : Option Addr) (n c h : Nat) (hh : h ≤ c) : (slB (.slice oa n c) none (some (.int .i64 (h : Int))) none).run Try.prog w = .ok (.slice oa h c) w := by
  have := run_slice_h (P := Try.prog) w 25 oa n c uB .i64 (h : Int) (by omega) (by omega)
  unfold slB
  rw [this, elemB, run_size5]
  have e : oa.map (fun a => a.add (0 * 1)) = oa := by
    cases oa with
    | none => rfl
    | some a => obtain ⟨b, o, s⟩ := a; rfl
  simp only [Result.andThen, sliced, Int.toNat_natCast, e, Nat.sub_zero, ite_self]
theorem Bq.take {Q : Nat → Prop} {W : World} {oa : Option Addr} {n cap : Nat} {l : List Nat} (h : Bq Q W (.slice oa n cap) l) (k : Nat) (hk : k ≤ l.length) : Bq Q W (.slice oa k cap) (l.take k) := by
  obtain ⟨oa', cap', he, h1, h2, h3, h4, h5⟩ := h
  injection he with e1 e2 e3
  subst e1 e3
  have hl : (l.take k).length = k := by rw [List.length_take]; omega
  refine ⟨oa, cap, by rw [hl], h1, by rw [hl]; omega, h3, fun y hy => h4 y (List.mem_of_mem_take hy), fun j u hu => h5 j u ?_⟩
  rw [bs_take] at hu
  have hj : j < k := by have := (List.getElem?_eq_some_iff.1 hu).1; rw [List.length_take] at this; omega
  rwa [List.getElem?_take_of_lt hj] at hu
theorem bq_new {W : World} (l : List Nat) (hb : Byt l) (hl : l.length ≤ LIM) : Bq (fun g => W.heap.size ≤ g ∧ g < (W.alloc (.cells (bs l).toArray 5)).heap.size) (W.alloc (.cells (bs l).toArray 5)) (.slice (some ⟨W.heap.size, 0, none⟩) l.length l.length) l := by
  refine ⟨some ⟨W.heap.size, 0, none⟩, l.length, rfl, ⟨(fun e => by cases e), (fun a e => by cases e; rfl)⟩, Nat.le_refl _, by unfold LIM at hl; unfold maxLen; omega, hb, fun j u hu => ⟨W.heap.size, 0, rfl, ⟨Nat.le_refl _, by simp⟩, ?_⟩⟩
  rw [Nat.zero_add, cell_of_row _ _ _ _ _ _ (heap_alloc_new _ _)]
  simpa using hu
section
attribute [local go_sem ↓] toSlB Go.wp_at_zero Go.wp_at_succ
set_option maxRecDepth 100000 in
set_option maxHeartbeats 3200000 in
theorem does_cut00 [Inhabited HoleT] {lo v : Nat} {W : World} {oo : Option Addr} {on oc : Nat} {B : List Nat × List Nat} {x y : Fl} (h : Rw lo W v (.slice oo on oc) B x y) (hlo : lo ≤ W.heap.size) (hH : holeB ≤ W.heap.size) (hov : ∀ g, (Value.slice oo on oc).ownBlock = some g → g < W.heap.size) (po : Option Addr) (pn pc : Nat) (n : Nat) (hn : n < x.1.length) :
    Calls Try.prog 35 #[.pointer (some ⟨v, 0, none⟩), .agg #[.int .i64 2, .int .i64 0, .slice po pn pc, .int .i64 (n : Int)]] W fun e w' => e = .returned (.tuple #[]) ∧ Rw lo w' v (.slice oo on oc) B (x.1.take n, []) y ∧ Fv W w' v := by
  obtain ⟨b0, b1, s0, s1, l0, l1, hr, hb0, hb1, hs0, hs1, hl0, hl1⟩ := h.row
  have hvW : v < W.heap.size := (Array.getElem?_eq_some_iff.1 hr).1
  obtain ⟨os, cs, hss, -, hsc, -⟩ := id hs0
  obtain ⟨ol, cl, hll, -, hlc, -⟩ := id hl0
  subst hss hll
  have HB : Hid (∀ D, Below W.heap.size W D → D.heap.size = W.heap.size + 1 → Calls Try.prog 32 #[.slice os n cs] D fun e w' => e = .returned (.slice (some ⟨W.heap.size + 1, 0, none⟩) n n) ∧ w' = D.alloc (.cells (bs (x.1.take n)).toArray 5)) := fun D bD hz => by
    have hk : (x.1.take n).length = n := by rw [List.length_take]; omega
    have := copR_any D (.slice os n cs) (x.1.take n) (((hs0.take n (by omega)).bl (fun j hj => hj.2.1)).below bD) (by rw [hk]; have := h.lims; unfold LIM; omega)
    rw [hz, hk] at this
    exact this
  have HZ : Hid (∀ D, Below W.heap.size W D → D.heap.size = W.heap.size + 1 → ∃ Z, Z = D.alloc (.cells (bs (x.1.take n)).toArray 5) ∧ Z.cell? ⟨v, 3, none⟩ = some (.slice os x.1.length cs) ∧ Z.frozen? ⟨v, 3, none⟩ = false ∧ Z.cell? ⟨v, 5, none⟩ = some (.slice ol x.2.length cl) ∧ Z.frozen? ⟨v, 5, none⟩ = false ∧ (Z.setCell ⟨v, 3, none⟩ (.slice (some ⟨W.heap.size + 1, 0, none⟩) n n)).cell? ⟨v, 5, none⟩ = some (.slice ol x.2.length cl) ∧ (Z.setCell ⟨v, 3, none⟩ (.slice (some ⟨W.heap.size + 1, 0, none⟩) n n)).frozen? ⟨v, 5, none⟩ = false ∧ Hid (Rw lo ((Z.setCell ⟨v, 3, none⟩ (.slice (some ⟨W.heap.size + 1, 0, none⟩) n n)).setCell ⟨v, 5, none⟩ (.slice none 0 0)) v (.slice oo on oc) B (x.1.take n, []) y ∧ Fv W ((Z.setCell ⟨v, 3, none⟩ (.slice (some ⟨W.heap.size + 1, 0, none⟩) n n)).setCell ⟨v, 5, none⟩ (.slice none 0 0)) v)) := fun D bD hz => by
    have hk : (x.1.take n).length = n := by rw [List.length_take]; omega
    obtain ⟨Z, hZ⟩ : ∃ Z, D.alloc (.cells (bs (x.1.take n)).toArray 5) = Z := ⟨_, rfl⟩
    have bZ : Below W.heap.size W Z := by rw [← hZ]; exact bD.alloc bD.size _
    have rZ := (bZ.block v hvW).trans hr
    have hown : Bq (fun g => W.heap.size ≤ g ∧ g < Z.heap.size) Z (.slice (some ⟨W.heap.size + 1, 0, none⟩) n n) (x.1.take n) := by
      have := bq_new (W := D) (x.1.take n) (fun b hb => by obtain ⟨_, _, _, _, _, _, hh, _⟩ := hs0; exact hh b (List.mem_of_mem_take hb)) (by rw [hk]; have := h.lims; unfold LIM; omega)
      rw [hz, hZ, hk] at this
      exact this.keep (fun _ _ => rfl) (fun j hj => ⟨by have := hj.1; omega, hj.2⟩)
    obtain ⟨k1, k2, k3⟩ := rw_set2 (o := 3) (o2 := 5) (u := (.slice (some ⟨W.heap.size + 1, 0, none⟩) n n)) (u2 := .slice none 0 0) hlo hH hvW hov bZ
    have rZ1 : (Z.setCell ⟨v, 3, none⟩ (.slice (some ⟨W.heap.size + 1, 0, none⟩) n n)).heap[v]? = some (.cells #[b0, b1, .slice oo on oc, (.slice (some ⟨W.heap.size + 1, 0, none⟩) n n), s1, (.slice ol x.2.length cl), l1] 64 (0, 0)) := heap_setCell_same _ _ _ _ _ _ rZ
    refine ⟨Z, hZ.symm, by rw [cell_of_row _ _ _ _ _ _ rZ]; rfl, frozen_of_row _ _ _ _ _ rZ, by rw [cell_of_row _ _ _ _ _ _ rZ]; rfl, frozen_of_row _ _ _ _ _ rZ, by rw [cell_of_row _ _ _ _ _ _ (heap_setCell_same _ _ _ _ _ _ rZ)]; rfl, frozen_of_row _ _ _ _ _ (heap_setCell_same _ _ _ _ _ _ rZ), ⟨⟨b0, b1, (.slice (some ⟨W.heap.size + 1, 0, none⟩) n n), s1, .slice none 0 0, l1, heap_setCell_same _ _ _ _ _ _ rZ1, k1 _ _ hb0, k1 _ _ hb1, k2 _ _ hown, k1 _ _ hs1, bq_nil _ _, k1 _ _ hl1⟩, h.lov, by show (x.1.take n).length + 0 ≤ _; rw [List.length_take]; have := h.lims; omega, h.lims.2⟩, k3⟩
  obtain ⟨A, hA⟩ : ∃ A, W.alloc (.cells #[.int .i64 2, .int .i64 0, .slice po pn pc, .int .i64 (n : Int)] 68) = A := ⟨_, rfl⟩
  have bA : Below W.heap.size W A := by rw [← hA]; exact (Below.refl _ W).alloc (Nat.le_refl _) _
  have hzA : A.heap.size = W.heap.size + 1 := by rw [← hA]; simp
  have rA : A.heap[W.heap.size]? = some (.cells #[.int .i64 2, .int .i64 0, .slice po pn pc, .int .i64 (n : Int)] 68 (0, 0)) := by rw [← hA]; exact heap_alloc_new _ _
  have a3 : ∀ q, (A.drewN q).cell? ⟨v, 3, none⟩ = some (.slice os x.1.length cs) := fun q => by show A.cell? _ = _; rw [cell_of_row _ _ _ _ _ _ ((bA.block v hvW).trans hr)]; rfl
  have a5 : ∀ q, (A.drewN q).cell? ⟨v, 5, none⟩ = some (.slice ol x.2.length cl) := fun q => by show A.cell? _ = _; rw [cell_of_row _ _ _ _ _ _ ((bA.block v hvW).trans hr)]; rfl
  have p3 : ∀ q, (A.drewN q).cell? ⟨W.heap.size, 3, none⟩ = some (.int .i64 (n : Int)) := fun q => by show A.cell? _ = _; rw [cell_of_row _ _ _ _ _ _ rA]; rfl
  have hsl := fun w => run_slK w os x.1.length cs n (by omega)
  have w1 : (n : Int) < (x.1.length : Int) := by omega
  have HA : Hid (W.alloc (.cells #[.int .i64 2, .int .i64 0, .slice po pn pc, .int .i64 (n : Int)] 68) = A ∧ Below W.heap.size W A ∧ A.heap.size = W.heap.size + 1) := ⟨hA, bA, hzA⟩
  clear h hr hb0 hb1 hs0 hs1 hl0 hl1 hvW hA bA hzA rA hlo hH hov hsc hlc hn
  go_enter Try.func35, Try.ntmps35
  go_wp2_with fail
  rw [HA.out.1]
  go_quiet (fail)
  go_wp2_with fail
  obtain ⟨E, hE⟩ : ∃ E, A.drewN nq = E := ⟨_, rfl⟩
  have bD : Below W.heap.size W E.drew := by rw [← hE]; exact ⟨HA.out.2.1.os, HA.out.2.1.tape, HA.out.2.1.output, HA.out.2.1.size, HA.out.2.1.block⟩
  have hzD : E.drew.heap.size = W.heap.size + 1 := by rw [← hE]; exact HA.out.2.2
  have C : Hid _ := HB.out E.drew bD hzD
  obtain ⟨Z, hZ, z3, f3, z5, f5, z6, f6, HF⟩ := HZ.out E.drew bD hzD
  have d3 : E.drew.cell? ⟨v, 3, none⟩ = some (.slice os x.1.length cs) := by rw [← hE]; exact a3 nq
  have d5 : E.drew.cell? ⟨v, 5, none⟩ = some (.slice ol x.2.length cl) := by rw [← hE]; exact a5 nq
  have dp : E.drew.cell? ⟨W.heap.size, 3, none⟩ = some (.int .i64 (n : Int)) := by rw [← hE]; exact p3 nq
  have hZ2 : Hid (Z = E.drew.alloc (.cells (bs (x.1.take n)).toArray 5)) := hZ
  rw [hE]
  clear a3 a5 p3 HB HZ bD hzD hZ hE
  go_region_with (go_at_call 32; refine Calls.mono C.out ?_; rintro e Y' ⟨rfl, hy⟩; rw [← hZ2.out] at hy; have hy2 := hy.symm; subst hy2)
  all_goals
    go_wp2_with fail
    go_end0
    exact ⟨rfl, HF.out⟩
set_option maxRecDepth 100000 in
set_option maxHeartbeats 3200000 in
theorem does_cut01 [Inhabited HoleT] {lo v : Nat} {W : World} {oo : Option Addr} {on oc : Nat} {B : List Nat × List Nat} {x y : Fl} (h : Rw lo W v (.slice oo on oc) B x y) (hlo : lo ≤ W.heap.size) (hH : holeB ≤ W.heap.size) (hov : ∀ g, (Value.slice oo on oc).ownBlock = some g → g < W.heap.size) (po : Option Addr) (pn pc : Nat) (n : Nat) (hn : ¬ n < x.1.length) (hn2 : n ≤ x.1.length + x.2.length) :
    Calls Try.prog 35 #[.pointer (some ⟨v, 0, none⟩), .agg #[.int .i64 2, .int .i64 0, .slice po pn pc, .int .i64 (n : Int)]] W fun e w' => e = .returned (.tuple #[]) ∧ Rw lo w' v (.slice oo on oc) B (x.1, x.2.take (n - x.1.length)) y ∧ Fv W w' v := by
  obtain ⟨K, hK⟩ : ∃ K, n - x.1.length = K := ⟨_, rfl⟩
  rw [hK]
  obtain ⟨b0, b1, s0, s1, l0, l1, hr, hb0, hb1, hs0, hs1, hl0, hl1⟩ := h.row
  have hvW : v < W.heap.size := (Array.getElem?_eq_some_iff.1 hr).1
  obtain ⟨os, cs, hss, -, hsc, -⟩ := id hs0
  obtain ⟨ol, cl, hll, -, hlc, -⟩ := id hl0
  subst hss hll
  have HB : Hid (∀ D, Below W.heap.size W D → D.heap.size = W.heap.size + 1 → Calls Try.prog 32 #[.slice ol K cl] D fun e w' => e = .returned (.slice (some ⟨W.heap.size + 1, 0, none⟩) K K) ∧ w' = D.alloc (.cells (bs (x.2.take K)).toArray 5)) := fun D bD hz => by
    have hk : (x.2.take K).length = K := by rw [List.length_take]; omega
    have := copR_any D (.slice ol K cl) (x.2.take K) (((hl0.take K (by omega)).bl (fun j hj => hj.2.1)).below bD) (by rw [hk]; have := h.lims; unfold LIM; omega)
    rw [hz, hk] at this
    exact this
  have HZ : Hid (∀ D, Below W.heap.size W D → D.heap.size = W.heap.size + 1 → ∃ Z, Z = D.alloc (.cells (bs (x.2.take K)).toArray 5) ∧ Z.cell? ⟨v, 3, none⟩ = some (.slice os x.1.length cs) ∧ Z.frozen? ⟨v, 3, none⟩ = false ∧ Z.cell? ⟨v, 5, none⟩ = some (.slice ol x.2.length cl) ∧ Z.frozen? ⟨v, 5, none⟩ = false ∧ (Z.setCell ⟨v, 3, none⟩ (.slice (some ⟨W.heap.size + 1, 0, none⟩) K K)).cell? ⟨v, 5, none⟩ = some (.slice ol x.2.length cl) ∧ (Z.setCell ⟨v, 3, none⟩ (.slice (some ⟨W.heap.size + 1, 0, none⟩) K K)).frozen? ⟨v, 5, none⟩ = false ∧ Hid (Rw lo (Z.setCell ⟨v, 5, none⟩ (.slice (some ⟨W.heap.size + 1, 0, none⟩) K K)) v (.slice oo on oc) B (x.1, x.2.take K) y ∧ Fv W (Z.setCell ⟨v, 5, none⟩ (.slice (some ⟨W.heap.size + 1, 0, none⟩) K K)) v)) := fun D bD hz => by
    have hk : (x.2.take K).length = K := by rw [List.length_take]; omega
    obtain ⟨Z, hZ⟩ : ∃ Z, D.alloc (.cells (bs (x.2.take K)).toArray 5) = Z := ⟨_, rfl⟩
    have bZ : Below W.heap.size W Z := by rw [← hZ]; exact bD.alloc bD.size _
    have rZ := (bZ.block v hvW).trans hr
    have hown : Bq (fun g => W.heap.size ≤ g ∧ g < Z.heap.size) Z (.slice (some ⟨W.heap.size + 1, 0, none⟩) K K) (x.2.take K) := by
      have := bq_new (W := D) (x.2.take K) (fun b hb => by obtain ⟨_, _, _, _, _, _, hh, _⟩ := hl0; exact hh b (List.mem_of_mem_take hb)) (by rw [hk]; have := h.lims; unfold LIM; omega)
      rw [hz, hZ, hk] at this
      exact this.keep (fun _ _ => rfl) (fun j hj => ⟨by have := hj.1; omega, hj.2⟩)
    obtain ⟨k1, k2, k3⟩ := rw_set (o := 5) (u := (.slice (some ⟨W.heap.size + 1, 0, none⟩) K K)) hlo hH hvW hov bZ
    refine ⟨Z, hZ.symm, by rw [cell_of_row _ _ _ _ _ _ rZ]; rfl, frozen_of_row _ _ _ _ _ rZ, by rw [cell_of_row _ _ _ _ _ _ rZ]; rfl, frozen_of_row _ _ _ _ _ rZ, by rw [cell_of_row _ _ _ _ _ _ (heap_setCell_same _ _ _ _ _ _ rZ)]; rfl, frozen_of_row _ _ _ _ _ (heap_setCell_same _ _ _ _ _ _ rZ), ⟨⟨b0, b1, (.slice os x.1.length cs), s1, (.slice (some ⟨W.heap.size + 1, 0, none⟩) K K), l1, heap_setCell_same _ _ _ _ _ _ rZ, k1 _ _ hb0, k1 _ _ hb1, k1 _ _ hs0, k1 _ _ hs1, k2 _ _ hown, k1 _ _ hl1⟩, h.lov, by show x.1.length + (x.2.take K).length ≤ _; rw [List.length_take]; have := h.lims; omega, h.lims.2⟩, k3⟩
  obtain ⟨A, hA⟩ : ∃ A, W.alloc (.cells #[.int .i64 2, .int .i64 0, .slice po pn pc, .int .i64 (n : Int)] 68) = A := ⟨_, rfl⟩
  have bA : Below W.heap.size W A := by rw [← hA]; exact (Below.refl _ W).alloc (Nat.le_refl _) _
  have hzA : A.heap.size = W.heap.size + 1 := by rw [← hA]; simp
  have rA : A.heap[W.heap.size]? = some (.cells #[.int .i64 2, .int .i64 0, .slice po pn pc, .int .i64 (n : Int)] 68 (0, 0)) := by rw [← hA]; exact heap_alloc_new _ _
  have a3 : ∀ q, (A.drewN q).cell? ⟨v, 3, none⟩ = some (.slice os x.1.length cs) := fun q => by show A.cell? _ = _; rw [cell_of_row _ _ _ _ _ _ ((bA.block v hvW).trans hr)]; rfl
  have a5 : ∀ q, (A.drewN q).cell? ⟨v, 5, none⟩ = some (.slice ol x.2.length cl) := fun q => by show A.cell? _ = _; rw [cell_of_row _ _ _ _ _ _ ((bA.block v hvW).trans hr)]; rfl
  have p3 : ∀ q, (A.drewN q).cell? ⟨W.heap.size, 3, none⟩ = some (.int .i64 (n : Int)) := fun q => by show A.cell? _ = _; rw [cell_of_row _ _ _ _ _ _ rA]; rfl
  have hsl := fun w => run_slK w ol x.2.length cl K (by omega)
  have w1 : ¬ ((n : Int) < (x.1.length : Int)) := by omega
  have w2 : IntKind.i64.wrap ((n : Int) - (x.1.length : Int)) = (K : Int) := by rw [IntKind.wrap_i64]; have := h.lims; omega
  have HA : Hid (W.alloc (.cells #[.int .i64 2, .int .i64 0, .slice po pn pc, .int .i64 (n : Int)] 68) = A ∧ Below W.heap.size W A ∧ A.heap.size = W.heap.size + 1) := ⟨hA, bA, hzA⟩
  clear h hr hb0 hb1 hs0 hs1 hl0 hl1 hvW hA bA hzA rA hlo hH hov hsc hlc hn hn2 hK
  go_enter Try.func35, Try.ntmps35
  go_wp2_with fail
  rw [HA.out.1]
  go_quiet (fail)
  go_wp2_with fail
  obtain ⟨E, hE⟩ : ∃ E, A.drewN nq = E := ⟨_, rfl⟩
  have bD : Below W.heap.size W E.drew := by rw [← hE]; exact ⟨HA.out.2.1.os, HA.out.2.1.tape, HA.out.2.1.output, HA.out.2.1.size, HA.out.2.1.block⟩
  have hzD : E.drew.heap.size = W.heap.size + 1 := by rw [← hE]; exact HA.out.2.2
  have C : Hid _ := HB.out E.drew bD hzD
  obtain ⟨Z, hZ, z3, f3, z5, f5, z6, f6, HF⟩ := HZ.out E.drew bD hzD
  have d3 : E.drew.cell? ⟨v, 3, none⟩ = some (.slice os x.1.length cs) := by rw [← hE]; exact a3 nq
  have d5 : E.drew.cell? ⟨v, 5, none⟩ = some (.slice ol x.2.length cl) := by rw [← hE]; exact a5 nq
  have dp : E.drew.cell? ⟨W.heap.size, 3, none⟩ = some (.int .i64 (n : Int)) := by rw [← hE]; exact p3 nq
  have hZ2 : Hid (Z = E.drew.alloc (.cells (bs (x.2.take K)).toArray 5)) := hZ
  rw [hE]
  clear a3 a5 p3 HB HZ bD hzD hZ hE
  go_region_with (go_at_call 32; refine Calls.mono C.out ?_; rintro e Y' ⟨rfl, hy⟩; rw [← hZ2.out] at hy; have hy2 := hy.symm; subst hy2)
  all_goals
    go_wp2_with fail
    go_end0
    exact ⟨rfl, HF.out⟩
set_option maxRecDepth 100000 in
set_option maxHeartbeats 3200000 in
theorem does_cut10 [Inhabited HoleT] {lo v : Nat} {W : World} {oo : Option Addr} {on oc : Nat} {B : List Nat × List Nat} {x y : Fl} (h : Rw lo W v (.slice oo on oc) B x y) (hlo : lo ≤ W.heap.size) (hH : holeB ≤ W.heap.size) (hov : ∀ g, (Value.slice oo on oc).ownBlock = some g → g < W.heap.size) (po : Option Addr) (pn pc : Nat) (n : Nat) (hn : n < y.1.length) :
    Calls Try.prog 35 #[.pointer (some ⟨v, 0, none⟩), .agg #[.int .i64 2, .int .i64 1, .slice po pn pc, .int .i64 (n : Int)]] W fun e w' => e = .returned (.tuple #[]) ∧ Rw lo w' v (.slice oo on oc) B x (y.1.take n, []) ∧ Fv W w' v := by
  obtain ⟨b0, b1, s0, s1, l0, l1, hr, hb0, hb1, hs0, hs1, hl0, hl1⟩ := h.row
  have hvW : v < W.heap.size := (Array.getElem?_eq_some_iff.1 hr).1
  obtain ⟨os, cs, hss, -, hsc, -⟩ := id hs1
  obtain ⟨ol, cl, hll, -, hlc, -⟩ := id hl1
  subst hss hll
  have HB : Hid (∀ D, Below W.heap.size W D → D.heap.size = W.heap.size + 1 → Calls Try.prog 32 #[.slice os n cs] D fun e w' => e = .returned (.slice (some ⟨W.heap.size + 1, 0, none⟩) n n) ∧ w' = D.alloc (.cells (bs (y.1.take n)).toArray 5)) := fun D bD hz => by
    have hk : (y.1.take n).length = n := by rw [List.length_take]; omega
    have := copR_any D (.slice os n cs) (y.1.take n) (((hs1.take n (by omega)).bl (fun j hj => hj.2.1)).below bD) (by rw [hk]; have := h.lims; unfold LIM; omega)
    rw [hz, hk] at this
    exact this
  have HZ : Hid (∀ D, Below W.heap.size W D → D.heap.size = W.heap.size + 1 → ∃ Z, Z = D.alloc (.cells (bs (y.1.take n)).toArray 5) ∧ Z.cell? ⟨v, 4, none⟩ = some (.slice os y.1.length cs) ∧ Z.frozen? ⟨v, 4, none⟩ = false ∧ Z.cell? ⟨v, 6, none⟩ = some (.slice ol y.2.length cl) ∧ Z.frozen? ⟨v, 6, none⟩ = false ∧ (Z.setCell ⟨v, 4, none⟩ (.slice (some ⟨W.heap.size + 1, 0, none⟩) n n)).cell? ⟨v, 6, none⟩ = some (.slice ol y.2.length cl) ∧ (Z.setCell ⟨v, 4, none⟩ (.slice (some ⟨W.heap.size + 1, 0, none⟩) n n)).frozen? ⟨v, 6, none⟩ = false ∧ Hid (Rw lo ((Z.setCell ⟨v, 4, none⟩ (.slice (some ⟨W.heap.size + 1, 0, none⟩) n n)).setCell ⟨v, 6, none⟩ (.slice none 0 0)) v (.slice oo on oc) B x (y.1.take n, []) ∧ Fv W ((Z.setCell ⟨v, 4, none⟩ (.slice (some ⟨W.heap.size + 1, 0, none⟩) n n)).setCell ⟨v, 6, none⟩ (.slice none 0 0)) v)) := fun D bD hz => by
    have hk : (y.1.take n).length = n := by rw [List.length_take]; omega
    obtain ⟨Z, hZ⟩ : ∃ Z, D.alloc (.cells (bs (y.1.take n)).toArray 5) = Z := ⟨_, rfl⟩
    have bZ : Below W.heap.size W Z := by rw [← hZ]; exact bD.alloc bD.size _
    have rZ := (bZ.block v hvW).trans hr
    have hown : Bq (fun g => W.heap.size ≤ g ∧ g < Z.heap.size) Z (.slice (some ⟨W.heap.size + 1, 0, none⟩) n n) (y.1.take n) := by
      have := bq_new (W := D) (y.1.take n) (fun b hb => by obtain ⟨_, _, _, _, _, _, hh, _⟩ := hs1; exact hh b (List.mem_of_mem_take hb)) (by rw [hk]; have := h.lims; unfold LIM; omega)
      rw [hz, hZ, hk] at this
      exact this.keep (fun _ _ => rfl) (fun j hj => ⟨by have := hj.1; omega, hj.2⟩)
    obtain ⟨k1, k2, k3⟩ := rw_set2 (o := 4) (o2 := 6) (u := (.slice (some ⟨W.heap.size + 1, 0, none⟩) n n)) (u2 := .slice none 0 0) hlo hH hvW hov bZ
    have rZ1 : (Z.setCell ⟨v, 4, none⟩ (.slice (some ⟨W.heap.size + 1, 0, none⟩) n n)).heap[v]? = some (.cells #[b0, b1, .slice oo on oc, s0, (.slice (some ⟨W.heap.size + 1, 0, none⟩) n n), l0, (.slice ol y.2.length cl)] 64 (0, 0)) := heap_setCell_same _ _ _ _ _ _ rZ
    refine ⟨Z, hZ.symm, by rw [cell_of_row _ _ _ _ _ _ rZ]; rfl, frozen_of_row _ _ _ _ _ rZ, by rw [cell_of_row _ _ _ _ _ _ rZ]; rfl, frozen_of_row _ _ _ _ _ rZ, by rw [cell_of_row _ _ _ _ _ _ (heap_setCell_same _ _ _ _ _ _ rZ)]; rfl, frozen_of_row _ _ _ _ _ (heap_setCell_same _ _ _ _ _ _ rZ), ⟨⟨b0, b1, s0, (.slice (some ⟨W.heap.size + 1, 0, none⟩) n n), l0, .slice none 0 0, heap_setCell_same _ _ _ _ _ _ rZ1, k1 _ _ hb0, k1 _ _ hb1, k1 _ _ hs0, k2 _ _ hown, k1 _ _ hl0, bq_nil _ _⟩, h.lov, h.lims.1, by show (y.1.take n).length + 0 ≤ _; rw [List.length_take]; have := h.lims; omega⟩, k3⟩
  obtain ⟨A, hA⟩ : ∃ A, W.alloc (.cells #[.int .i64 2, .int .i64 1, .slice po pn pc, .int .i64 (n : Int)] 68) = A := ⟨_, rfl⟩
  have bA : Below W.heap.size W A := by rw [← hA]; exact (Below.refl _ W).alloc (Nat.le_refl _) _
  have hzA : A.heap.size = W.heap.size + 1 := by rw [← hA]; simp
  have rA : A.heap[W.heap.size]? = some (.cells #[.int .i64 2, .int .i64 1, .slice po pn pc, .int .i64 (n : Int)] 68 (0, 0)) := by rw [← hA]; exact heap_alloc_new _ _
  have a3 : ∀ q, (A.drewN q).cell? ⟨v, 4, none⟩ = some (.slice os y.1.length cs) := fun q => by show A.cell? _ = _; rw [cell_of_row _ _ _ _ _ _ ((bA.block v hvW).trans hr)]; rfl
  have a5 : ∀ q, (A.drewN q).cell? ⟨v, 6, none⟩ = some (.slice ol y.2.length cl) := fun q => by show A.cell? _ = _; rw [cell_of_row _ _ _ _ _ _ ((bA.block v hvW).trans hr)]; rfl
  have p3 : ∀ q, (A.drewN q).cell? ⟨W.heap.size, 3, none⟩ = some (.int .i64 (n : Int)) := fun q => by show A.cell? _ = _; rw [cell_of_row _ _ _ _ _ _ rA]; rfl
  have hsl := fun w => run_slK w os y.1.length cs n (by omega)
  have w1 : (n : Int) < (y.1.length : Int) := by omega
  have HA : Hid (W.alloc (.cells #[.int .i64 2, .int .i64 1, .slice po pn pc, .int .i64 (n : Int)] 68) = A ∧ Below W.heap.size W A ∧ A.heap.size = W.heap.size + 1) := ⟨hA, bA, hzA⟩
  clear h hr hb0 hb1 hs0 hs1 hl0 hl1 hvW hA bA hzA rA hlo hH hov hsc hlc hn
  go_enter Try.func35, Try.ntmps35
  go_wp2_with fail
  rw [HA.out.1]
  go_quiet (fail)
  go_wp2_with fail
  obtain ⟨E, hE⟩ : ∃ E, A.drewN nq = E := ⟨_, rfl⟩
  have bD : Below W.heap.size W E.drew := by rw [← hE]; exact ⟨HA.out.2.1.os, HA.out.2.1.tape, HA.out.2.1.output, HA.out.2.1.size, HA.out.2.1.block⟩
  have hzD : E.drew.heap.size = W.heap.size + 1 := by rw [← hE]; exact HA.out.2.2
  have C : Hid _ := HB.out E.drew bD hzD
  obtain ⟨Z, hZ, z3, f3, z5, f5, z6, f6, HF⟩ := HZ.out E.drew bD hzD
  have d3 : E.drew.cell? ⟨v, 4, none⟩ = some (.slice os y.1.length cs) := by rw [← hE]; exact a3 nq
  have d5 : E.drew.cell? ⟨v, 6, none⟩ = some (.slice ol y.2.length cl) := by rw [← hE]; exact a5 nq
  have dp : E.drew.cell? ⟨W.heap.size, 3, none⟩ = some (.int .i64 (n : Int)) := by rw [← hE]; exact p3 nq
  have hZ2 : Hid (Z = E.drew.alloc (.cells (bs (y.1.take n)).toArray 5)) := hZ
  rw [hE]
  clear a3 a5 p3 HB HZ bD hzD hZ hE
  go_region_with (go_at_call 32; refine Calls.mono C.out ?_; rintro e Y' ⟨rfl, hy⟩; rw [← hZ2.out] at hy; have hy2 := hy.symm; subst hy2)
  all_goals
    go_wp2_with fail
    go_end0
    exact ⟨rfl, HF.out⟩
set_option maxRecDepth 100000 in
set_option maxHeartbeats 3200000 in
theorem does_cut11 [Inhabited HoleT] {lo v : Nat} {W : World} {oo : Option Addr} {on oc : Nat} {B : List Nat × List Nat} {x y : Fl} (h : Rw lo W v (.slice oo on oc) B x y) (hlo : lo ≤ W.heap.size) (hH : holeB ≤ W.heap.size) (hov : ∀ g, (Value.slice oo on oc).ownBlock = some g → g < W.heap.size) (po : Option Addr) (pn pc : Nat) (n : Nat) (hn : ¬ n < y.1.length) (hn2 : n ≤ y.1.length + y.2.length) :
    Calls Try.prog 35 #[.pointer (some ⟨v, 0, none⟩), .agg #[.int .i64 2, .int .i64 1, .slice po pn pc, .int .i64 (n : Int)]] W fun e w' => e = .returned (.tuple #[]) ∧ Rw lo w' v (.slice oo on oc) B x (y.1, y.2.take (n - y.1.length)) ∧ Fv W w' v := by
  obtain ⟨K, hK⟩ : ∃ K, n - y.1.length = K := ⟨_, rfl⟩
  rw [hK]
  obtain ⟨b0, b1, s0, s1, l0, l1, hr, hb0, hb1, hs0, hs1, hl0, hl1⟩ := h.row
  have hvW : v < W.heap.size := (Array.getElem?_eq_some_iff.1 hr).1
  obtain ⟨os, cs, hss, -, hsc, -⟩ := id hs1
  obtain ⟨ol, cl, hll, -, hlc, -⟩ := id hl1
  subst hss hll
  have HB : Hid (∀ D, Below W.heap.size W D → D.heap.size = W.heap.size + 1 → Calls Try.prog 32 #[.slice ol K cl] D fun e w' => e = .returned (.slice (some ⟨W.heap.size + 1, 0, none⟩) K K) ∧ w' = D.alloc (.cells (bs (y.2.take K)).toArray 5)) := fun D bD hz => by
    have hk : (y.2.take K).length = K := by rw [List.length_take]; omega
    have := copR_any D (.slice ol K cl) (y.2.take K) (((hl1.take K (by omega)).bl (fun j hj => hj.2.1)).below bD) (by rw [hk]; have := h.lims; unfold LIM; omega)
    rw [hz, hk] at this
    exact this
  have HZ : Hid (∀ D, Below W.heap.size W D → D.heap.size = W.heap.size + 1 → ∃ Z, Z = D.alloc (.cells (bs (y.2.take K)).toArray 5) ∧ Z.cell? ⟨v, 4, none⟩ = some (.slice os y.1.length cs) ∧ Z.frozen? ⟨v, 4, none⟩ = false ∧ Z.cell? ⟨v, 6, none⟩ = some (.slice ol y.2.length cl) ∧ Z.frozen? ⟨v, 6, none⟩ = false ∧ (Z.setCell ⟨v, 4, none⟩ (.slice (some ⟨W.heap.size + 1, 0, none⟩) K K)).cell? ⟨v, 6, none⟩ = some (.slice ol y.2.length cl) ∧ (Z.setCell ⟨v, 4, none⟩ (.slice (some ⟨W.heap.size + 1, 0, none⟩) K K)).frozen? ⟨v, 6, none⟩ = false ∧ Hid (Rw lo (Z.setCell ⟨v, 6, none⟩ (.slice (some ⟨W.heap.size + 1, 0, none⟩) K K)) v (.slice oo on oc) B x (y.1, y.2.take K) ∧ Fv W (Z.setCell ⟨v, 6, none⟩ (.slice (some ⟨W.heap.size + 1, 0, none⟩) K K)) v)) := fun D bD hz => by
    have hk : (y.2.take K).length = K := by rw [List.length_take]; omega
    obtain ⟨Z, hZ⟩ : ∃ Z, D.alloc (.cells (bs (y.2.take K)).toArray 5) = Z := ⟨_, rfl⟩
    have bZ : Below W.heap.size W Z := by rw [← hZ]; exact bD.alloc bD.size _
    have rZ := (bZ.block v hvW).trans hr
    have hown : Bq (fun g => W.heap.size ≤ g ∧ g < Z.heap.size) Z (.slice (some ⟨W.heap.size + 1, 0, none⟩) K K) (y.2.take K) := by
      have := bq_new (W := D) (y.2.take K) (fun b hb => by obtain ⟨_, _, _, _, _, _, hh, _⟩ := hl1; exact hh b (List.mem_of_mem_take hb)) (by rw [hk]; have := h.lims; unfold LIM; omega)
      rw [hz, hZ, hk] at this
      exact this.keep (fun _ _ => rfl) (fun j hj => ⟨by have := hj.1; omega, hj.2⟩)
    obtain ⟨k1, k2, k3⟩ := rw_set (o := 6) (u := (.slice (some ⟨W.heap.size + 1, 0, none⟩) K K)) hlo hH hvW hov bZ
    refine ⟨Z, hZ.symm, by rw [cell_of_row _ _ _ _ _ _ rZ]; rfl, frozen_of_row _ _ _ _ _ rZ, by rw [cell_of_row _ _ _ _ _ _ rZ]; rfl, frozen_of_row _ _ _ _ _ rZ, by rw [cell_of_row _ _ _ _ _ _ (heap_setCell_same _ _ _ _ _ _ rZ)]; rfl, frozen_of_row _ _ _ _ _ (heap_setCell_same _ _ _ _ _ _ rZ), ⟨⟨b0, b1, s0, (.slice os y.1.length cs), l0, (.slice (some ⟨W.heap.size + 1, 0, none⟩) K K), heap_setCell_same _ _ _ _ _ _ rZ, k1 _ _ hb0, k1 _ _ hb1, k1 _ _ hs0, k1 _ _ hs1, k1 _ _ hl0, k2 _ _ hown⟩, h.lov, h.lims.1, by show y.1.length + (y.2.take K).length ≤ _; rw [List.length_take]; have := h.lims; omega⟩, k3⟩
  obtain ⟨A, hA⟩ : ∃ A, W.alloc (.cells #[.int .i64 2, .int .i64 1, .slice po pn pc, .int .i64 (n : Int)] 68) = A := ⟨_, rfl⟩
  have bA : Below W.heap.size W A := by rw [← hA]; exact (Below.refl _ W).alloc (Nat.le_refl _) _
  have hzA : A.heap.size = W.heap.size + 1 := by rw [← hA]; simp
  have rA : A.heap[W.heap.size]? = some (.cells #[.int .i64 2, .int .i64 1, .slice po pn pc, .int .i64 (n : Int)] 68 (0, 0)) := by rw [← hA]; exact heap_alloc_new _ _
  have a3 : ∀ q, (A.drewN q).cell? ⟨v, 4, none⟩ = some (.slice os y.1.length cs) := fun q => by show A.cell? _ = _; rw [cell_of_row _ _ _ _ _ _ ((bA.block v hvW).trans hr)]; rfl
  have a5 : ∀ q, (A.drewN q).cell? ⟨v, 6, none⟩ = some (.slice ol y.2.length cl) := fun q => by show A.cell? _ = _; rw [cell_of_row _ _ _ _ _ _ ((bA.block v hvW).trans hr)]; rfl
  have p3 : ∀ q, (A.drewN q).cell? ⟨W.heap.size, 3, none⟩ = some (.int .i64 (n : Int)) := fun q => by show A.cell? _ = _; rw [cell_of_row _ _ _ _ _ _ rA]; rfl
  have hsl := fun w => run_slK w ol y.2.length cl K (by omega)
  have w1 : ¬ ((n : Int) < (y.1.length : Int)) := by omega
  have w2 : IntKind.i64.wrap ((n : Int) - (y.1.length : Int)) = (K : Int) := by rw [IntKind.wrap_i64]; have := h.lims; omega
  have HA : Hid (W.alloc (.cells #[.int .i64 2, .int .i64 1, .slice po pn pc, .int .i64 (n : Int)] 68) = A ∧ Below W.heap.size W A ∧ A.heap.size = W.heap.size + 1) := ⟨hA, bA, hzA⟩
  clear h hr hb0 hb1 hs0 hs1 hl0 hl1 hvW hA bA hzA rA hlo hH hov hsc hlc hn hn2 hK
  go_enter Try.func35, Try.ntmps35
  go_wp2_with fail
  rw [HA.out.1]
  go_quiet (fail)
  go_wp2_with fail
  obtain ⟨E, hE⟩ : ∃ E, A.drewN nq = E := ⟨_, rfl⟩
  have bD : Below W.heap.size W E.drew := by rw [← hE]; exact ⟨HA.out.2.1.os, HA.out.2.1.tape, HA.out.2.1.output, HA.out.2.1.size, HA.out.2.1.block⟩
  have hzD : E.drew.heap.size = W.heap.size + 1 := by rw [← hE]; exact HA.out.2.2
  have C : Hid _ := HB.out E.drew bD hzD
  obtain ⟨Z, hZ, z3, f3, z5, f5, z6, f6, HF⟩ := HZ.out E.drew bD hzD
  have d3 : E.drew.cell? ⟨v, 4, none⟩ = some (.slice os y.1.length cs) := by rw [← hE]; exact a3 nq
  have d5 : E.drew.cell? ⟨v, 6, none⟩ = some (.slice ol y.2.length cl) := by rw [← hE]; exact a5 nq
  have dp : E.drew.cell? ⟨W.heap.size, 3, none⟩ = some (.int .i64 (n : Int)) := by rw [← hE]; exact p3 nq
  have hZ2 : Hid (Z = E.drew.alloc (.cells (bs (y.2.take K)).toArray 5)) := hZ
  rw [hE]
  clear a3 a5 p3 HB HZ bD hzD hZ hE
  go_region_with (go_at_call 32; refine Calls.mono C.out ?_; rintro e Y' ⟨rfl, hy⟩; rw [← hZ2.out] at hy; have hy2 := hy.symm; subst hy2)
  all_goals
    go_wp2_with fail
    go_end0
    exact ⟨rfl, HF.out⟩
end
end Go.Proofs.Ytdiflmckjpmngaa
