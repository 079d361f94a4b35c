/- Several texts in one: GuN, GuE. -/
import Derived.Test.YtgedmfcfhdfoeaaGxI
import Derived.Test.YtgedmfcfhdfoeaaGuC
import Derived.Test.YtgedmfcfhdfoeaaJaB
import Derived.Deep.QuietTactic
import Derived.BigQuiet
/- Graphs: the normal form's edges, node by node (mathematics). -/
namespace Go.Proofs.Ytgedmfcfhdfoeaa
open GM
theorem nrmU_mem {N : Nat} {E : List (Nat × Nat)} {a b : Nat} : (a, b) ∈ nrm N E ↔ a < N ∧ b < N ∧ (a, b) ∈ E := by
  unfold nrm
  rw [List.mem_flatMap]
  constructor
  · rintro ⟨x, hx, h⟩
    rw [List.mem_map] at h
    obtain ⟨y, hy, e⟩ := h
    rw [List.mem_filter, List.mem_range] at hy
    cases e
    exact ⟨List.mem_range.1 hx, hy.1, of_decide_eq_true hy.2⟩
  · rintro ⟨h1, h2, h3⟩
    refine ⟨a, List.mem_range.2 h1, List.mem_map.2 ⟨b, List.mem_filter.2 ⟨List.mem_range.2 h2, decide_eq_true h3⟩, rfl⟩⟩
theorem nrmU_rise (N : Nat) (E : List (Nat × Nat)) : (nrm N E).Pairwise fun p q => p.1 < q.1 ∨ p.1 = q.1 ∧ p.2 < q.2 := by
  unfold nrm
  rw [List.pairwise_flatMap]
  constructor
  · intro a _
    rw [List.pairwise_map]
    exact (List.pairwise_lt_range.filter _).imp fun h => .inr ⟨rfl, h⟩
  · refine List.pairwise_lt_range.imp ?_
    intro a b hab x hx y hy
    rw [List.mem_map] at hx hy
    obtain ⟨_, _, rfl⟩ := hx
    obtain ⟨_, _, rfl⟩ := hy
    exact .inl hab
theorem ndU_mem {N : Nat} {E : List (Nat × Nat)} {x y : Nat} : y ∈ ndF N E x ↔ y < N ∧ (x, y) ∈ E := by
  unfold ndF trL
  rw [List.mem_filter, List.mem_range]
  exact and_congr_right fun _ => by rw [decide_eq_true_iff]; exact nds_all E x y
theorem ndU_rise (N : Nat) (E : List (Nat × Nat)) (v : Nat) : (ndF N E v).Pairwise (· < ·) := List.Pairwise.filter _ List.pairwise_lt_range
theorem rise_eq {A B : List Nat} (hA : A.Pairwise (· < ·)) (hB : B.Pairwise (· < ·)) (h : ∀ x, x ∈ A ↔ x ∈ B) : A = B :=
  List.Perm.eq_of_pairwise (le := (· < ·)) (fun a b _ _ h1 h2 => by omega) hA hB ((List.perm_ext_iff_of_nodup (hA.imp fun k e => by omega) (hB.imp fun k e => by omega)).2 h)
theorem trnU_get {E : List (Nat × Nat)} {i x y : Nat} (h : E[i]? = some (x, y)) : (trn E)[i]? = some (y, x) := by
  unfold trn
  rw [List.getElem?_map, h]
  rfl
theorem trnU_len (E : List (Nat × Nat)) : (trn E).length = E.length := by simp [trn]
/-- Node by node, the normal form's edges are what each node needs. -/
theorem nds_nrm {N : Nat} {E : List (Nat × Nat)} {a : Nat} (ha : a < N) : nds (trn (nrm N E)) (nrm N E).length a = ndF N E a := by
  refine rise_eq ?_ (ndU_rise N E a) fun x => ?_
  · unfold nds
    rw [List.take_of_length_le (by rw [trnU_len]; exact Nat.le_refl _)]
    rw [List.pairwise_map]
    unfold trn
    rw [List.filter_map, List.pairwise_map]
    refine List.Pairwise.imp_of_mem ?_ ((nrmU_rise N E).filter _)
    intro p q hp hq h
    have e1 : p.1 = a := by simpa using (List.mem_filter.1 hp).2
    have e2 : q.1 = a := by simpa using (List.mem_filter.1 hq).2
    show p.2 < q.2
    rcases h with k | k
    · omega
    · exact k.2
  · rw [← trnU_len, nds_all, mem_trn, nrmU_mem, ndU_mem]
    exact ⟨fun h => ⟨h.2.1, h.2.2⟩, fun h => ⟨ha, h.1, h.2⟩⟩
end Go.Proofs.Ytgedmfcfhdfoeaa

/- Graphs: what the nodes need, the document's. -/
namespace Go.Proofs.Ytgedmfcfhdfoeaa
open Go.RowKit GM
set_option maxRecDepth 20000
/-- What needs answers. -/
def NdP (N : Nat) (F : Nat → List Nat) (w : World) (e : Ending) (w' : World) : Prop := ∃ g' V', e = .returned (.slice (some ⟨g', 0, none⟩) N N) ∧ Rws g' N F V' w' ∧ Below w.heap.size w w' ∧ w.heap.size ≤ g'
attribute [local go_sem ↓] toMkV toMkW toApI toApE
set_option maxRecDepth 100000 in
set_option maxHeartbeats 3200000 in
theorem needsR_any (N : Nat) (hN : N ≤ 8192) (E : List (Nat × Nat)) (hE : ∀ e ∈ E, e.1 < N ∧ e.2 < N) (hn : E.length ≤ 1048576) (v : Value) (w : World) (hv : El v (zE E) w) :
    Calls Try.prog 43 #[grV (N : Int) v] w (NdP N (ndF N E) w) := by
  obtain ⟨kG, hkG⟩ : ∃ k, w.heap.size = k := ⟨_, rfl⟩
  obtain ⟨W0, hW0⟩ : ∃ W0, w.alloc (.cells #[.int .i64 (N : Int), v] 24) = W0 := ⟨_, rfl⟩
  have b0 : Below w.heap.size w W0 := by rw [← hW0]; exact (Below.refl _ w).alloc (Nat.le_refl _) _
  have r0 : W0.heap[kG]? = some (.cells #[.int .i64 (N : Int), v] 24 (0, 0)) := by rw [← hW0, ← hkG]; exact heap_alloc_new _ _
  have C1 := normed_any N hN E hE (by omega) v W0 (hv.below b0)
  have l0 : W0.cell? ⟨kG, 0, none⟩ = some (.int .i64 (N : Int)) := (cell_of_row _ _ _ _ _ _ r0).trans rfl
  have l1 : W0.cell? ⟨kG, 1, none⟩ = some v := (cell_of_row _ _ _ _ _ _ r0).trans rfl
  have HQ := mkHid (And.intro b0 (And.intro r0 (And.intro hN (And.intro hE hn))))
  unfold grV at C1 ⊢
  clear hv b0 r0 hN hE hn
  go_enter Try.func43, Try.ntmps43
  go_wp2_with fail
  try rw [hkG]
  try rw [hW0]
  refine C1.mono ?_
  rintro e W1 ⟨u, rfl, elu, b1, -⟩
  obtain ⟨o, c, hu, -, ho⟩ := elu.form
  rw [zE_len] at hu ho
  subst hu
  obtain ⟨m, hm⟩ : ∃ k, (nrm N E).length = k := ⟨_, rfl⟩
  rw [hm] at ho ⊢
  obtain ⟨kN, hkN⟩ : ∃ k, W1.heap.size = k := ⟨_, rfl⟩
  obtain ⟨Y, hY⟩ : ∃ Y, W1.alloc (.cells #[.int .i64 (N : Int), .slice o m c] 24) = Y := ⟨_, rfl⟩
  have bY : Below W1.heap.size W1 Y := by rw [← hY]; exact (Below.refl _ W1).alloc (Nat.le_refl _) _
  have rY : Y.heap[kN]? = some (.cells #[.int .i64 (N : Int), .slice o m c] 24 (0, 0)) := by rw [← hY, ← hkN]; exact heap_alloc_new _ _
  have b0Y := HQ.out.1.trans ((b1.trans (bY.mono b1.size)).mono HQ.out.1.size)
  have y0 : Y.cell? ⟨kG, 0, none⟩ = some (.int .i64 (N : Int)) := cell_belowX bY (cell_belowX b1 l0)
  obtain ⟨W2, s2, R2, b2⟩ := run_mkV Y N (by have := HQ.out.2.2.1; omega)
  obtain ⟨gN, hgN⟩ : ∃ gN, Y.heap.size = gN := ⟨_, rfl⟩
  have hkg : kN < gN := by rw [← hgN]; exact (Array.getElem?_eq_some_iff.1 rY).1
  rw [hgN] at s2 R2
  have HO : Hid ((0 < m → ∃ eb eo, o = some ⟨eb, eo, none⟩ ∧ eb < kN ∧ ∀ i (a b : Nat), (nrm N E)[i]? = some (a, b) → Y.cell? ⟨eb, eo + i * 2, none⟩ = some (.int .i64 (a : Int)) ∧ Y.cell? ⟨eb, eo + i * 2 + 1, none⟩ = some (.int .i64 (b : Int))) ∧ kN < gN ∧ Below w.heap.size w Y ∧ Y.heap.size = gN ∧ (nrm N E).length = m ∧ m ≤ 67108864) := by
    refine ⟨fun hl => ?_, hkg, b0Y, hgN, hm, ?_⟩
    · obtain ⟨eb, eo, e, hb, h3⟩ := ho hl
      refine ⟨eb, eo, e, by rw [← hkN]; exact hb, fun i a b hab => ?_⟩
      have := h3 i (by rw [← hm]; exact (List.getElem?_eq_some_iff.1 hab).1)
      rw [zE_get (nrm N E) i a b hab] at this
      exact ⟨cell_belowX bY this.1, cell_belowX bY this.2⟩
    · rw [← hm, ← edg_norm]
      have h1 := edg_len (trL (nds E E.length) N) N (fun a => trL_len _ N a) N
      have h2 : N * N ≤ 8192 * 8192 := Nat.mul_le_mul HQ.out.2.2.1 HQ.out.2.2.1
      omega
  have HI0 : Hid (Rws gN N (nds (trn (nrm N E)) 0) (fun _ => .slice none 0 0) W2 ∧ Below Y.heap.size Y W2) := ⟨R2.congr fun j _ => (nds_zero _ j).symm, b2⟩
  have HYR := mkHid rY
  clear C1 elu b1 ho hm bY rY b0Y R2 b2 hkg hgN l0 l1
  dsimp only
  go_upto_region 2 with fail
  try rw [hkN]
  try rw [hY]
  clear hY hkN
  go_wp2_with fail
  go_loopw [5] (fun i wr => ∃ (k : Nat) (U : Nat → Value), i = .int .i64 (k : Int) ∧ k ≤ m ∧ Hid (Rws gN N (nds (trn (nrm N E)) k) U wr ∧ Below Y.heap.size Y wr)) (fun i _ => m - (intOf i).toNat)
  case atStart => exact ⟨0, _, rfl, Nat.zero_le _, HI0⟩
  case round =>
    clear HI0 s2 y0
    obtain ⟨k, U, rfl, hk, HI⟩ := hrel
    have hYr := HYR.out
    have n1 : wr.cell? ⟨kN, 1, none⟩ = some (.slice o m c) := cell_belowX HI.out.2 ((cell_of_row _ _ _ _ _ _ hYr).trans rfl)
    by_cases hlt : k < m
    · obtain ⟨ho, hkg, b0Y, hgN, hm, hml⟩ := HO.out
      obtain ⟨x, y, hxy⟩ : ∃ x y, (nrm N E)[k]? = some (x, y) := ⟨_, _, List.getElem?_eq_getElem (by omega)⟩
      have hmem := nrmU_mem.1 (List.mem_of_getElem? hxy)
      obtain ⟨eb, eo, rfl, hb, hc⟩ := ho (by omega)
      have c1 := cell_belowX HI.out.2 (hc k x y hxy).1
      have c2 := cell_belowX HI.out.2 (hc k x y hxy).2
      obtain ⟨D, hD⟩ : ∃ D, wr.drew = D := ⟨_, rfl⟩
      have bD : Below wr.heap.size wr D := by rw [← hD]; exact below_drew _
      have RD : Rws gN N (nds (trn (nrm N E)) k) U D := HI.out.1.below bD
      obtain ⟨-, o2, cc2, hU, -⟩ := own_get (RD.own x hmem.1)
      obtain ⟨l, hl⟩ : ∃ l, l = (nds (trn (nrm N E)) k x).length := ⟨_, rfl⟩
      rw [← hl] at hU
      have cU := (RD.cell x hmem.1).1
      rw [hU] at cU
      obtain ⟨v', W3, sA, cA, fA, RA, bA, oA⟩ := RD.add2 x y hmem.1 (by have := nds_len (trn (nrm N E)) k x; omega)
      rw [hU] at sA cA
      obtain ⟨o3, c3, rfl⟩ : ∃ o3 c3, v' = .slice o3 (l + 1) c3 := by
        have := RA.own x hmem.1
        rw [upd_same, upd_same, List.length_append, List.length_singleton, ← hl] at this
        exact own_size this
      have hzY : kN < Y.heap.size := (Array.getElem?_eq_some_iff.1 hYr).1
      have sD : gN ≤ D.heap.size := by have := HI.out.2.size; have := bD.size; omega
      have hoY : ∀ q i u, q < gN → Y.cell? ⟨q, i, none⟩ = some u → D.cell? ⟨q, i, none⟩ = some u ∧ (D.alloc (.cells #[.int .i64 (y : Int)] 3)).cell? ⟨q, i, none⟩ = some u ∧ W3.cell? ⟨q, i, none⟩ = some u := fun q i u hq h => by
        have e1 : D.cell? ⟨q, i, none⟩ = some u := cell_belowX bD (cell_belowX HI.out.2 h)
        have hq2 : q < D.heap.size := by omega
        exact ⟨e1, (World.cell?_of_block (w := D) (a := ⟨q, i, none⟩) (heap_alloc_old D _ (h := hq2))).trans e1, (World.cell?_of_block (w := D) (a := ⟨q, i, none⟩) (oA q hq2 (fun e => by have := ((HI.out.1.own x hmem.1).lt _ e).1; omega))).trans e1⟩
      have d1 : Y.cell? ⟨kN, 1, none⟩ = some (.slice (some ⟨eb, eo, none⟩) m c) := (cell_of_row _ _ _ _ _ _ hYr).trans rfl
      obtain ⟨e1, e2, e3⟩ := hoY kN 1 _ hkg d1
      obtain ⟨f1, f2, f3⟩ := hoY eb (eo + k * 2 + 1) _ (by omega) (hc k x y hxy).2
      have aU : (D.alloc (.cells #[.int .i64 (y : Int)] 3)).cell? ⟨gN, x, none⟩ = some (.slice o2 l cc2) := (World.cell?_of_block (w := D) (a := ⟨gN, x, none⟩) (heap_alloc_old D _ (h := RD.lt))).trans cU
      have HNEW : Hid (Rws gN N (nds (trn (nrm N E)) (k + 1)) (upd U x (.slice o3 (l + 1) c3)) (W3.setCell ⟨gN, x, none⟩ (.slice o3 (l + 1) c3)) ∧ Below Y.heap.size Y (W3.setCell ⟨gN, x, none⟩ (.slice o3 (l + 1) c3))) := by
        have bw := bA gN (Nat.le_refl _)
        refine ⟨RA.congr fun i _ => ?_, ?_⟩
        · have hg := trnU_get hxy
          by_cases hi : i = x
          · rw [hi, upd_same, nds_same (trn (nrm N E)) k y x hg]
          · rw [upd_other _ _ _ _ hi, nds_other (trn (nrm N E)) k y x i hg hi]
        · rw [hgN]
          have q1 := HI.out.2
          rw [hgN] at q1
          exact q1.trans ((bD.mono (by have := HI.out.2.size; omega)).trans bw)
      have k1 := ltI hlt
      have k0 := geI k
      have x1 := ltI hmem.1
      have x0 := geI x
      have wk := wrapI k (by omega)
      have HJ := mkHid hlt
      clear bD RD hU hl RA bA oA hoY d1 hzY sD hc hk hlt hxy HI hmem ho hkg b0Y hgN hm hml hb hYr
      go_wp2_with fail
      go_region
      go_wp2
      exact ⟨⟨k + 1, _, by first | rfl | (rw [wk]; rfl), HJ.out, HNEW⟩, by first | exact measI _ _ HJ.out | (rw [wk]; exact measI _ _ HJ.out)⟩
    · have i1 := nltI hlt
      have e := eqI hk hlt
      have HZ : Hid (Rws gN N (ndF N E) U wr ∧ Below w.heap.size w wr ∧ w.heap.size ≤ gN) := by
        obtain ⟨ho, hkg, b0Y, hgN, hm, hml⟩ := HO.out
        have h1 := HI.out.1
        rw [e, ← hm] at h1
        exact ⟨h1.congr fun j hj => nds_nrm hj, b0Y.trans (HI.out.2.mono b0Y.size), by have := b0Y.size; omega⟩
      clear e hk hlt HI hYr
      go_wp2_with fail
      go_ret
      exact ⟨gN, U, rfl, HZ.out.1, HZ.out.2.1, HZ.out.2.2⟩
end Go.Proofs.Ytgedmfcfhdfoeaa
