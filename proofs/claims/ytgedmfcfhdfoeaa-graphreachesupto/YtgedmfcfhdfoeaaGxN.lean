/- needsOf, with its lists in memory of its own. -/
import Derived.Test.YtgedmfcfhdfoeaaGi
namespace Go.Proofs.Ytgedmfcfhdfoeaa
open Go.RowKit GM
attribute [local go_sem ↓] toMkV toMkW toApI toApE
set_option maxRecDepth 100000 in
set_option maxHeartbeats 2000000 in
theorem needsOf_new (N : Nat) (hN : N ≤ 8192) (E : List (Nat × Nat)) (hE : ∀ e ∈ E, e.1 < N ∧ e.2 < N) (hn : E.length ≤ 1073741824) (v : Value) (w : World) (hv : El v (zE E) w) :
    Calls Try.prog 31 #[grV (N : Int) v] w fun e w' => ∃ g' V', e = .returned (.slice (some ⟨g', 0, none⟩) N N) ∧ Rws g' N (trL (nds E E.length) N) V' w' ∧ Below w.heap.size w w' ∧ w.heap.size ≤ g' := by
  obtain ⟨o, c, rfl, hl, ho⟩ := hv.form
  unfold grV
  rw [zE_len] at hl ho ⊢
  obtain ⟨W0, hW0⟩ : ∃ W0, w.alloc (.cells #[.int .i64 (N : Int), .slice o E.length c] 24) = W0 := ⟨_, rfl⟩
  have b0 : Below w.heap.size w W0 := by rw [← hW0]; exact (Below.refl _ w).alloc (Nat.le_refl _) _
  have r0 : W0.heap[w.heap.size]? = some (.cells #[.int .i64 (N : Int), .slice o E.length c] 24 (0, 0)) := by rw [← hW0]; exact heap_alloc_new _ _
  obtain ⟨W1, s1, R1, b1⟩ := run_mkV W0 N (by omega)
  obtain ⟨gN, hgN⟩ : ∃ gN, W0.heap.size = gN := ⟨_, rfl⟩
  have hgz : w.heap.size < gN := by rw [← hgN]; exact (Array.getElem?_eq_some_iff.1 r0).1
  rw [hgN] at s1 R1
  have q0 : W0.cell? ⟨w.heap.size, 0, none⟩ = some (.int .i64 (N : Int)) := (cell_of_row _ _ _ _ _ _ r0).trans rfl
  have HI : Hid (Rws gN N (nds E 0) (fun _ => .slice none 0 0) W1 ∧ Below w.heap.size w W1 ∧ W1.heap[w.heap.size]? = some (.cells #[.int .i64 (N : Int), .slice o E.length c] 24 (0, 0))) := ⟨R1.congr fun j _ => (nds_zero E j).symm, b0.trans (b1.mono b0.size), (b1.block _ (Array.getElem?_eq_some_iff.1 r0).1).trans r0⟩
  have q1 : W1.cell? ⟨w.heap.size, 1, none⟩ = some (.slice o E.length c) := (cell_of_row _ _ _ _ _ _ HI.out.2.2).trans rfl
  rw [← hW0] at s1
  have HN : Hid (N ≤ 8192 ∧ E.length ≤ 1073741824 ∧ w.heap.size < gN) := ⟨hN, hn, hgz⟩
  have HE : Hid (∀ e ∈ E, e.1 < N ∧ e.2 < N) := hE
  have HO : Hid (0 < E.length → ∃ b off, o = some ⟨b, off, none⟩ ∧ b < w.heap.size ∧ ∀ j, j < E.length → w.cell? ⟨b, off + j * 2, none⟩ = some (.int .i64 ((zE E).getD j (0, 0)).1) ∧ w.cell? ⟨b, off + j * 2 + 1, none⟩ = some (.int .i64 ((zE E).getD j (0, 0)).2)) := ho
  clear R1 b1 b0 r0 hE hN hn hl hv ho hgz hW0 hgN
  go_enter Try.func31, Try.ntmps31
  go_wp2_with fail
  go_loopw [12] (fun i wr => ∃ (k : Nat) (U : Nat → Value), i = .int .i64 (k : Int) ∧ k ≤ E.length ∧ Hid (Rws gN N (nds E k) U wr ∧ Below w.heap.size w wr ∧ wr.heap[w.heap.size]? = some (.cells #[.int .i64 (N : Int), .slice o E.length c] 24 (0, 0)))) (fun i _ => E.length - (intOf i).toNat)
  case atStart => exact ⟨0, _, rfl, Nat.zero_le _, HI⟩
  case round =>
    clear HI s1 q0 q1
    obtain ⟨k, U, rfl, hk, HI⟩ := hrel
    by_cases hlt : k < E.length
    · have hk1 : (k : Int) < (E.length : Int) := by omega
      have hk0 : (0 : Int) ≤ (k : Int) := by omega
      obtain ⟨x, y, hxy⟩ : ∃ x y, E[k]? = some (x, y) := ⟨_, _, List.getElem?_eq_getElem hlt⟩
      obtain ⟨hxN, hyN⟩ : x < N ∧ y < N := HE.out _ (List.mem_of_getElem? hxy)
      obtain ⟨b, off, rfl, hb, hc⟩ := HO.out (by omega)
      have c1 := (World.cell?_of_block (w := w) (HI.out.2.1.block b hb)).trans (hc k hlt).1
      have c2 := (World.cell?_of_block (w := w) (HI.out.2.1.block b hb)).trans (hc k hlt).2
      rw [zE_get E k x y hxy] at c1 c2
      have c1' : wr.cell? ⟨b, off + k * 2, none⟩ = some (.int .i64 (x : Int)) := c1
      have c2' : wr.cell? ⟨b, off + k * 2 + 1, none⟩ = some (.int .i64 (y : Int)) := c2
      obtain ⟨W, hW⟩ : ∃ W, wr.alloc (.cells #[.int .i64 (x : Int), .int .i64 (y : Int)] 52) = W := ⟨_, rfl⟩
      obtain ⟨D, hD⟩ : ∃ D, W.drew = D := ⟨_, rfl⟩
      have bD : Below wr.heap.size wr D := by rw [← hD, ← hW]; exact ((Below.refl _ wr).alloc (Nat.le_refl _) _).trans ((below_drew _).mono (by simp))
      have rD : D.heap[wr.heap.size]? = some (.cells #[.int .i64 (x : Int), .int .i64 (y : Int)] 52 (0, 0)) := by rw [← hD, ← hW]; exact heap_alloc_new _ _
      have RD : Rws gN N (nds E k) U D := HI.out.1.below bD
      obtain ⟨-, o2, cc2, hU, -⟩ := own_get (RD.own y hyN)
      obtain ⟨m, hm⟩ : ∃ m, m = (nds E k y).length := ⟨_, rfl⟩
      rw [← hm] at hU
      have cU := (RD.cell y hyN).1
      rw [hU] at cU
      obtain ⟨v', W2, sA, cA, fA, RA, bA, oA⟩ := RD.add2 y x hyN (by have := nds_len E k y; have := HN.out.2.1; omega)
      rw [hU] at sA cA
      obtain ⟨o3, c3, rfl⟩ : ∃ o3 c3, v' = .slice o3 (m + 1) c3 := by
        have := RA.own y hyN
        rw [upd_same, upd_same, List.length_append, List.length_singleton, ← hm] at this
        exact own_size this
      have e0 : D.cell? ⟨wr.heap.size, 0, none⟩ = some (.int .i64 (x : Int)) := (cell_of_row _ _ _ _ _ _ rD).trans rfl
      have e1 : D.cell? ⟨wr.heap.size, 1, none⟩ = some (.int .i64 (y : Int)) := (cell_of_row _ _ _ _ _ _ rD).trans rfl
      have oldA : ∀ q i, q < D.heap.size → (D.alloc (.cells #[.int .i64 (x : Int)] 3)).cell? ⟨q, i, none⟩ = D.cell? ⟨q, i, none⟩ := fun q i hq => World.cell?_of_block (w := D) (heap_alloc_old D _ (h := hq))
      have hzD : wr.heap.size < D.heap.size := (Array.getElem?_eq_some_iff.1 rD).1
      have a0 := (oldA wr.heap.size 0 hzD).trans e0
      have a1 := (oldA wr.heap.size 1 hzD).trans e1
      have aU := (oldA gN y RD.lt).trans cU
      have rW2 := (oA wr.heap.size hzD (fun e => by have := ((HI.out.1.own y hyN).lt _ e).2; omega)).trans rD
      have w0 : W2.cell? ⟨wr.heap.size, 0, none⟩ = some (.int .i64 (x : Int)) := (cell_of_row _ _ _ _ _ _ rW2).trans rfl
      have w1 : W2.cell? ⟨wr.heap.size, 1, none⟩ = some (.int .i64 (y : Int)) := (cell_of_row _ _ _ _ _ _ rW2).trans rfl
      have HNEW : Hid (Rws gN N (nds E (k + 1)) (upd U y (.slice o3 (m + 1) c3)) (W2.setCell ⟨gN, y, none⟩ (.slice o3 (m + 1) c3)) ∧ Below w.heap.size w (W2.setCell ⟨gN, y, none⟩ (.slice o3 (m + 1) c3)) ∧ (W2.setCell ⟨gN, y, none⟩ (.slice o3 (m + 1) c3)).heap[w.heap.size]? = some (.cells #[.int .i64 (N : Int), .slice (some ⟨b, off, none⟩) E.length c] 24 (0, 0))) := by
        have bw := bA (w.heap.size + 1) HN.out.2.2
        have lt0 : w.heap.size < wr.heap.size := (Array.getElem?_eq_some_iff.1 HI.out.2.2).1
        have bq : Below w.heap.size w D := HI.out.2.1.trans (bD.mono HI.out.2.1.size)
        refine ⟨RA.congr fun i _ => ?_, bq.trans (bA _ (by have := HN.out.2.2; omega)), (bw.block w.heap.size (by omega)).trans ((bD.block _ lt0).trans HI.out.2.2)⟩
        by_cases hi : i = y
        · rw [hi, upd_same, nds_same E k x y hxy]
        · rw [upd_other _ _ _ _ hi, nds_other E k x y i hxy hi]
      have hy1 : (y : Int) < (N : Int) := by omega
      have hy0 : (0 : Int) ≤ (y : Int) := by omega
      have HW : Hid (wr.alloc (.cells #[.int .i64 (x : Int), .int .i64 (y : Int)] 52) = W) := hW
      have HJ : Hid (k < E.length) := hlt
      clear bD rD RD hU hm RA bA oA rW2 oldA hzD hc c1 c2 hW hxN hyN hk hlt hxy HI
      go_wp2_with fail
      rw [HW.out]
      clear c1' c2' hk1 hk0
      go_region
      have hk2 : (k : Int) + 1 < 9223372036854775808 := by have := HN.out.2.1; have := HJ.out; omega
      go_wp2
      go_roundw
      case rel => exact ⟨k + 1, _, rfl, HJ.out, HNEW⟩
      case measure => have := HJ.out; simp only [intOf]; omega
    · have hk1 : ¬ ((k : Int) < (E.length : Int)) := by omega
      have hke : k = E.length := by omega
      subst hke
      have HC := turned_any N HN.out.1 (nds E E.length) (fun b _ a ha => nds_lt HE.out _ b a ha) (fun b => by have := nds_len E E.length b; have := HN.out.2.1; omega) gN U wr HI.out.1
      have HCC : Hid _ := HC
      have HB : Hid (Below w.heap.size w wr) := HI.out.2.1
      clear HC HI
      go_wp2_with fail
      refine Calls.mono HCC.out ?_
      rintro e W2 ⟨g', V', rfl, hr, hb, hg⟩
      have HR : Hid (Rws g' N (trL (nds E E.length) N) V' W2 ∧ Below w.heap.size w W2 ∧ w.heap.size ≤ g') := ⟨hr, HB.out.trans (hb.mono HB.out.size), Nat.le_trans HB.out.size hg⟩
      clear HCC hr hb hg
      go_wp2
      go_ret
      exact ⟨g', V', rfl, HR.out.1, HR.out.2.1, HR.out.2.2⟩
end Go.Proofs.Ytgedmfcfhdfoeaa
