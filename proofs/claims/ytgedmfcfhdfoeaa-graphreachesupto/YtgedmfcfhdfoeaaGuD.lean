/- Graphs: the document's edges turned; its Norm and Transpose. -/
import Derived.Test.YtgedmfcfhdfoeaaGuC
namespace Go.Proofs.Ytgedmfcfhdfoeaa
open Go.RowKit GM
theorem trn_snoc (A : List (Nat × Nat)) (x y : Nat) : trn (A ++ [(x, y)]) = trn A ++ [(y, x)] := by simp [trn]
theorem trn_len (A : List (Nat × Nat)) : (trn A).length = A.length := by simp [trn]
theorem trn_in {n : Nat} {F : List (Nat × Nat)} (h : ∀ e ∈ F, e.1 < n ∧ e.2 < n) : ∀ e ∈ trn F, e.1 < n ∧ e.2 < n := by
  intro e he
  obtain ⟨a, b⟩ := e
  have := h _ ((mem_trn F a b).1 he)
  exact ⟨this.2, this.1⟩
attribute [local go_sem ↓] toApE
set_option maxRecDepth 100000 in
set_option maxHeartbeats 2000000 in
theorem turnedR_any (n : Nat) (hn : n ≤ 8192) (F : List (Nat × Nat)) (hF : ∀ e ∈ F, e.1 < n ∧ e.2 < n) (hl : F.length ≤ 1073741824) (v : Value) (w : World) (hv : El v (zE F) w) :
    Calls Try.prog 50 #[grV (n : Int) v] w fun e w' => ∃ u, e = .returned (grV (n : Int) u) ∧ El u (zE (nrm n (trn F))) w' ∧ Below w.heap.size w w' ∧ ∀ q, u.ownBlock = some q → w.heap.size + 2 ≤ q := by
  unfold grV
  obtain ⟨oo, cc, rfl, -, ho⟩ := hv.form
  rw [zE_len] at ho ⊢
  obtain ⟨W0, hW0⟩ : ∃ W0, (w.alloc (.cells #[.int .i64 (n : Int), .slice oo F.length cc] 24)).alloc (.cells #[.int .i64 0, .slice none 0 0] 24) = W0 := ⟨_, rfl⟩
  have b0 : Below w.heap.size w W0 := by rw [← hW0]; exact ((Below.refl _ w).alloc (Nat.le_refl _) _).alloc (by simp) _
  have r0 : W0.heap[w.heap.size]? = some (.cells #[.int .i64 (n : Int), .slice oo F.length cc] 24 (0, 0)) := by rw [← hW0]; exact heap_alloc2_old _ _ _
  have r1 : W0.heap[w.heap.size + 1]? = some (.cells #[.int .i64 0, .slice none 0 0] 24 (0, 0)) := by rw [← hW0]; exact heap_alloc2_new _ _ _
  have HP : Hid (∀ X, Below W0.heap.size W0 X → X.cell? ⟨w.heap.size, 0, none⟩ = some (.int .i64 (n : Int)) ∧ X.cell? ⟨w.heap.size, 1, none⟩ = some (.slice oo F.length cc) ∧ X.heap[w.heap.size + 1]? = some (.cells #[.int .i64 0, .slice none 0 0] 24 (0, 0)) ∧ Below w.heap.size w X) := fun X h => by
    have l0 := (Array.getElem?_eq_some_iff.1 r0).1
    have l1 := (Array.getElem?_eq_some_iff.1 r1).1
    have e := (h.block _ l0).trans r0
    exact ⟨(cell_of_row _ _ _ _ _ _ e).trans rfl, (cell_of_row _ _ _ _ _ _ e).trans rfl, (h.block _ l1).trans r1, b0.trans (h.mono b0.size)⟩
  have HZ0 : Hid (w.heap.size + 2 ≤ W0.heap.size) := (Array.getElem?_eq_some_iff.1 r1).1
  have HO : Hid (∀ k, k < F.length → ∀ x y, F[k]? = some (x, y) → ∃ b off, oo = some ⟨b, off, none⟩ ∧ b < w.heap.size ∧ w.cell? ⟨b, off + k * 2, none⟩ = some (.int .i64 (x : Int)) ∧ w.cell? ⟨b, off + k * 2 + 1, none⟩ = some (.int .i64 (y : Int))) := fun k hk x y hxy => by
    obtain ⟨b, off, h1, h2, h3⟩ := ho (by omega)
    have c1 := (h3 k hk).1
    have c2 := (h3 k hk).2
    rw [zE_get F k x y hxy] at c1 c2
    exact ⟨b, off, h1, h2, c1, c2⟩
  have HN : Hid (n ≤ 8192 ∧ (∀ e ∈ F, e.1 < n ∧ e.2 < n) ∧ F.length ≤ 1073741824) := ⟨hn, hF, hl⟩
  have HI0 : Hid (W0.ownsRow W0.heap.size 52 2 (.slice none 0 0) 0 (ec (zE (trn (F.take 0)))) ∧ Below W0.heap.size W0 W0) := ⟨World.ownsRow_nil _ _ _ _, Below.refl _ _⟩
  have HW0 : Hid ((w.alloc (.cells #[.int .i64 (n : Int), .slice oo F.length cc] 24)).alloc (.cells #[.int .i64 0, .slice none 0 0] 24) = W0) := hW0
  clear hW0 b0 r0 r1 hv hF hl hn ho
  go_enter Try.func50, Try.ntmps50
  go_wp2_with fail
  rw [HW0.out]
  go_loopw [3, 4] (fun ov i wr => ∃ k : Nat, i = .int .i64 (k : Int) ∧ k ≤ F.length ∧ Hid (wr.ownsRow W0.heap.size 52 2 ov k (ec (zE (trn (F.take k)))) ∧ Below W0.heap.size W0 wr)) (fun _ i _ => F.length - (intOf i).toNat)
  case atStart => exact ⟨0, rfl, Nat.zero_le _, HI0⟩
  case round =>
    clear HI0
    obtain ⟨k, rfl, hk, HI⟩ := hrel
    obtain ⟨ov, cv, hov⟩ := own_size HI.out.1
    subst hov
    obtain ⟨p0, p1, p2, p3⟩ := HP.out wr HI.out.2
    by_cases hlt : k < F.length
    · have hk1 : (k : Int) < (F.length : Int) := by omega
      have hk0 : (0 : Int) ≤ (k : Int) := by omega
      obtain ⟨x, y, hxy⟩ : ∃ x y, F[k]? = some (x, y) := ⟨_, _, List.getElem?_eq_getElem hlt⟩
      obtain ⟨b, off, rfl, hb, hc1, hc2⟩ := HO.out k hlt x y hxy
      obtain ⟨D, hD⟩ : ∃ D, wr.drew = D := ⟨_, rfl⟩
      have bD : Below W0.heap.size W0 D := by rw [← hD]; exact ⟨HI.out.2.os, HI.out.2.tape, HI.out.2.output, HI.out.2.size, HI.out.2.block⟩
      have oD : D.ownsRow W0.heap.size 52 2 (.slice ov k cv) k (ec (zE (trn (F.take k)))) := by rw [← hD]; exact own_keep2 HI.out.1 fun _ _ => rfl
      obtain ⟨-, d1, -, d3⟩ := HP.out D bD
      have c1 := (World.cell?_of_block (w := w) (d3.block b hb)).trans hc1
      have c2 := (World.cell?_of_block (w := w) (d3.block b hb)).trans hc2
      obtain ⟨v', W2, sA, oA, gA⟩ := run_apE1 D W0.heap.size k 22 _ _ (y : Int) (x : Int) oD (by have := HN.out.2.2; omega) bD.size
      obtain ⟨o3, c3, rfl⟩ := own_size oA
      have HNEW : Hid (W2.ownsRow W0.heap.size 52 2 (.slice o3 (k + 1) c3) (k + 1) (ec (zE (trn (F.take (k + 1))))) ∧ Below W0.heap.size W0 W2) := by
        have e : trn (F.take (k + 1)) = trn (F.take k) ++ [(y, x)] := by rw [List.take_add_one, hxy]; exact trn_snoc _ x y
        refine ⟨?_, ?_⟩
        · rw [e, zE_snoc]; exact oA
        · have bl := below_grown ((Below.refl _ D).alloc (B := W0.heap.size) bD.size (.cells #[.int .i64 (y : Int), .int .i64 (x : Int)] 52)) gA (by have := bD.size; simp; omega) (fun g e => (oD.lt g e).1)
          exact bD.trans bl
      have HJ : Hid (k < F.length) := hlt
      clear bD oD d3 hc1 hc2 oA gA hxy hk hlt HI hb p2 p3
      go_wp2_with fail
      go_region
      clear c1 c2 sA d1 p0 p1 hk1 hk0 hD
      have hk2 : (k : Int) + 1 < 9223372036854775808 := by have := HN.out.2.2; have := HJ.out; omega
      go_wp2
      go_roundw
      case rel => exact ⟨k + 1, rfl, HJ.out, HNEW⟩
      case measure => have := HJ.out; simp only [intOf]; omega
    · have hk1 : ¬ ((k : Int) < (F.length : Int)) := by omega
      have hke : k = F.length := by omega
      subst hke
      rw [List.take_length] at HI
      have CN := normed_any n HN.out.1 (trn F) (trn_in HN.out.2.1) (by rw [trn_len]; exact HN.out.2.2) _ wr (el_own HI.out.1).2
      unfold grV at CN
      have HCN : Hid _ := CN
      have HB : Hid (Below w.heap.size w wr ∧ wr.heap[w.heap.size + 1]? = some (.cells #[.int .i64 0, .slice none 0 0] 24 (0, 0))) := ⟨p3, p2⟩
      clear CN HI p2 p3 hk
      go_wp2_with fail
      refine Calls.mono HCN.out ?_
      rintro e WZ ⟨u, rfl, hu, bz, fz⟩
      have HG : Hid (El u (zE (nrm n (trn F))) WZ ∧ Below w.heap.size w WZ ∧ WZ.heap[w.heap.size + 1]? = some (.cells #[.int .i64 0, .slice none 0 0] 24 (0, 0))) := ⟨hu, HB.out.1.trans (bz.mono HB.out.1.size), (bz.block _ (Array.getElem?_eq_some_iff.1 HB.out.2).1).trans HB.out.2⟩
      have HLT : Hid (∀ q, u.ownBlock = some q → w.heap.size + 2 ≤ q) := fun q hq => by have := fz q hq; have := HB.out.1.size; omega
      obtain ⟨ou, cu, hou, -, -⟩ := hu.form
      subst hou
      have z0 : WZ.cell? ⟨w.heap.size + 1, 0, none⟩ = some (.int .i64 0) := (cell_of_row _ _ _ _ _ _ HG.out.2.2).trans rfl
      have z1 : WZ.cell? ⟨w.heap.size + 1, 1, none⟩ = some (.slice none 0 0) := (cell_of_row _ _ _ _ _ _ HG.out.2.2).trans rfl
      have f0 : WZ.frozen? ⟨w.heap.size + 1, 0, none⟩ = false := frozen_of_row _ _ _ _ _ HG.out.2.2
      have f1 : WZ.frozen? ⟨w.heap.size + 1, 1, none⟩ = false := frozen_of_row _ _ _ _ _ HG.out.2.2
      clear HCN hu bz fz p0 p1 HB
      go_wp2_with fail
      refine bodyPost_ret (results_G rfl _ _ (w.heap.size + 1) (.int .i64 (n : Int)) (.slice ou (zE (nrm n (trn F))).length cu) rfl (set2G _ _ HG.out.2.2)) rfl ⟨_, rfl, ?_, ?_, HLT.out⟩
      · exact HG.out.1.keep (by simp [World.setCell]) fun q hq _ => set2_other _ _ q (by have := HLT.out q hq; omega)
      · exact below_set2 _ _ (Nat.le_succ _) HG.out.2.1
end Go.Proofs.Ytgedmfcfhdfoeaa
