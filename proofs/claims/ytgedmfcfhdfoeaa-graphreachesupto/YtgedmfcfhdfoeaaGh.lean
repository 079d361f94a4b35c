/- Graphs: lists of needs as edges. -/
import Derived.Test.YtgedmfcfhdfoeaaGg
namespace Go.Proofs.Ytgedmfcfhdfoeaa
open Go.RowKit GM
theorem zE_snoc (A : List (Nat × Nat)) (x y : Nat) : zE (A ++ [(x, y)]) = zE A ++ [((x : Int), (y : Int))] := by simp [zE]
/-- A graph in the making. -/
structure Gst (w : World) (N : Nat) (A : List (Nat × Nat)) (ev : Value) (W : World) : Prop where
  bel : Below w.heap.size w W
  res : W.heap[w.heap.size]? = some (.cells #[.int .i64 0, .slice none 0 0] 24 (0, 0))
  loc : W.heap[w.heap.size + 1]? = some (.cells #[.int .i64 (N : Int), ev] 24 (0, 0))
  own : W.ownsRow (w.heap.size + 2) 52 2 ev A.length (ec (zE A))
theorem Gst.add {w : World} {N : Nat} {A : List (Nat × Nat)} {ev : Value} {W : World} (h : Gst w N A ev W) (x y : Nat) (hb : A.length + 1 ≤ 4398046511104) :
    ∃ o c W2, (apE 22 #[ev, .slice (some ⟨W.heap.size, 0, none⟩) 1 1]).run Try.prog (W.alloc (.cells #[.int .i64 (x : Int), .int .i64 (y : Int)] 52)) = .ok (.slice o (A.length + 1) c) W2 ∧ W2.cell? ⟨w.heap.size + 1, 1, none⟩ = some ev ∧ W2.frozen? ⟨w.heap.size + 1, 1, none⟩ = false ∧ Gst w N (A ++ [(x, y)]) (.slice o (A.length + 1) c) (W2.setCell ⟨w.heap.size + 1, 1, none⟩ (.slice o (A.length + 1) c)) := by
  have hz : w.heap.size + 1 < W.heap.size := (Array.getElem?_eq_some_iff.1 h.loc).1
  obtain ⟨v', W2, hr, ho, hg⟩ := run_apE1 W (w.heap.size + 2) A.length 22 ev (zE A) (x : Int) (y : Int) h.own hb (by omega)
  obtain ⟨o, c, rfl⟩ := own_size ho
  have old : ∀ k, k < w.heap.size + 2 → W2.heap[k]? = W.heap[k]? := fun k hk => grown_oldR hg k (by omega) (fun e => by have := (h.own.lt k e).1; omega)
  have l2 := (old (w.heap.size + 1) (by omega)).trans h.loc
  have hne : ∀ k, k ≠ w.heap.size + 1 → (W2.setCell ⟨w.heap.size + 1, 1, none⟩ (.slice o (A.length + 1) c)).heap[k]? = W2.heap[k]? := fun k hk => heap_setCell_other _ _ _ _ hk
  have bl := below_grown ((Below.refl _ W).alloc (B := w.heap.size + 2) (by omega) (.cells #[.int .i64 (x : Int), .int .i64 (y : Int)] 52)) hg (by simp; omega) (fun g e => (h.own.lt g e).1)
  refine ⟨o, c, W2, hr, (cell_of_row _ _ _ _ _ _ l2).trans rfl, frozen_of_row _ _ _ _ _ l2, ⟨?_, ?_, ?_, ?_⟩⟩
  · have q := h.bel.trans (bl.mono (by omega))
    exact ⟨q.os, q.tape, q.output, by simpa [World.setCell] using q.size, fun j hj => (hne j (by omega)).trans (q.block j hj)⟩
  · exact (hne _ (by omega)).trans ((old _ (by omega)).trans h.res)
  · exact (heap_setCell_same _ _ _ _ _ _ l2).trans rfl
  · rw [List.length_append, List.length_singleton, zE_snoc]
    exact own_keep2 ho fun k hk => hne k (by have := (ho.lt k hk).1; omega)
/-- The edges while a list is gone over. -/
def edS (L : Nat → List Nat) (k j : Nat) : List (Nat × Nat) := edg L k ++ ((L k).take j).map fun b => (k, b)
theorem edS_zero (L : Nat → List Nat) (k : Nat) : edS L k 0 = edg L k := by simp [edS]
theorem edS_succ (L : Nat → List Nat) (k j y : Nat) (h : (L k)[j]? = some y) : edS L k (j + 1) = edS L k j ++ [(k, y)] := by
  unfold edS
  rw [List.take_add_one, h]
  simp
theorem edS_end (L : Nat → List Nat) (k : Nat) : edS L k (L k).length = edg L (k + 1) := by
  unfold edS
  rw [List.take_length, edg_succ]
theorem edg_le (L : Nat → List Nat) {k n : Nat} (h : k ≤ n) : (edg L k).length ≤ (edg L n).length := by
  induction n with
  | zero => have : k = 0 := by omega
            rw [this]; exact Nat.le_refl _
  | succ n ih =>
    by_cases hk : k = n + 1
    · rw [hk]; exact Nat.le_refl _
    · rw [edg_succ, List.length_append]; have := ih (by omega); omega
theorem edS_le (L : Nat → List Nat) {k j n : Nat} (h : k < n) : (edS L k j).length ≤ (edg L n).length := by
  have h1 := edg_le L (k := k + 1) (n := n) h
  rw [← edS_end] at h1
  refine Nat.le_trans ?_ h1
  unfold edS
  simp
  omega
attribute [local go_sem ↓] toApE
set_option maxRecDepth 100000 in
set_option maxHeartbeats 2000000 in
theorem graph_any (N : Nat) (hN : N ≤ 8192) (L : Nat → List Nat) (hT : (edg L N).length ≤ 1073741824) (g : Nat) (V : Nat → Value) (w : World) (hr : Rws g N L V w) :
    Calls Try.prog 37 #[.slice (some ⟨g, 0, none⟩) N N] w fun e w' => ∃ v, e = .returned (grV (N : Int) v) ∧ El v (zE (edg L N)) w' ∧ Below w.heap.size w w' ∧ ∀ q, v.ownBlock = some q → w.heap.size ≤ q := by
  unfold grV
  obtain ⟨W0, hW0⟩ : ∃ W0, (w.alloc (.cells #[.int .i64 0, .slice none 0 0] 24)).alloc (.cells #[.int .i64 (N : Int), .slice none 0 0] 24) = W0 := ⟨_, rfl⟩
  have G0 : Gst w N (edg L 0) (.slice none 0 0) W0 := by
    refine ⟨by rw [← hW0]; exact ((Below.refl _ w).alloc (Nat.le_refl _) _).alloc (by simp) _, by rw [← hW0]; exact heap_alloc2_old _ _ _, by rw [← hW0]; exact heap_alloc2_new _ _ _, World.ownsRow_nil _ _ _ _⟩
  have HG0 : Hid (Gst w N (edg L 0) (.slice none 0 0) W0) := G0
  have HRL : Hid (Rws g N L V w) := hr
  have HN : Hid (N ≤ 8192 ∧ (edg L N).length ≤ 1073741824) := ⟨hN, hT⟩
  have HW0 : Hid ((w.alloc (.cells #[.int .i64 0, .slice none 0 0] 24)).alloc (.cells #[.int .i64 (N : Int), .slice none 0 0] 24) = W0) := hW0
  clear G0 hr hN hT hW0
  go_enter Try.func37, Try.ntmps37
  go_wp2_with fail
  rw [HW0.out]
  go_loopw [12] (fun i wr => ∃ (k : Nat) (ev : Value), i = .int .i64 (k : Int) ∧ k ≤ N ∧ Hid (Gst w N (edg L k) ev wr)) (fun i _ => N - (intOf i).toNat)
  case atStart => exact ⟨0, _, rfl, Nat.zero_le _, HG0⟩
  case round =>
    clear HG0
    obtain ⟨k, ev, rfl, hk, HI⟩ := hrel
    by_cases hlt : k < N
    · have hk1 : (k : Int) < (N : Int) := by omega
      have hk0 : (0 : Int) ≤ (k : Int) := by omega
      have cV : wr.cell? ⟨g, k, none⟩ = some (V k) := (World.cell?_of_block (w := w) (HI.out.bel.block g HRL.out.lt)).trans (HRL.out.cell k hlt).1
      obtain ⟨-, o, c, hVk, hVg⟩ := own_get (HRL.out.own k hlt)
      rw [hVk] at cV
      obtain ⟨len, hlen⟩ : ∃ len, len = (L k).length := ⟨_, rfl⟩
      rw [← hlen] at cV
      have HV : Hid (len = (L k).length ∧ (0 < (L k).length → ∃ b, o = some ⟨b, 0, none⟩ ∧ b < w.heap.size ∧ ∀ j, j < (L k).length → w.cell? ⟨b, j, none⟩ = some (.int .i64 (((L k).getD j 0 : Nat) : Int)))) := ⟨hlen, fun h => by obtain ⟨b, h1, h2, -, h4⟩ := hVg h; exact ⟨b, h1, h2, h4⟩⟩
      have HKN : Hid (k < N) := hlt
      clear hVk hVg hlen hlt hk
      go_wp2_with fail
      have HI0 : Hid (Gst w N (edS L k 0) ev wr) := by show Gst _ _ _ _ _; rw [edS_zero]; exact HI.out
      clear HI cV hk1
      go_loopw [20] (fun i wr2 => ∃ (j : Nat) (ev : Value), i = .int .i64 (j : Int) ∧ j ≤ len ∧ Hid (Gst w N (edS L k j) ev wr2)) (fun i _ => len - (intOf i).toNat)
      case atStart => exact ⟨0, ev, rfl, Nat.zero_le _, HI0⟩
      case round =>
        clear HI0
        obtain ⟨j, ev2, rfl, hj, HI2⟩ := hrel
        by_cases hjl : j < len
        · have hj1 : (j : Int) < (len : Int) := by omega
          have hj0 : (0 : Int) ≤ (j : Int) := by omega
          obtain ⟨bL, rfl, hbL, hcL⟩ := HV.out.2 (by have := HV.out.1; omega)
          have cx := (World.cell?_of_block (w := w) (HI2.out.bel.block bL hbL)).trans (hcL j (by have := HV.out.1; omega))
          obtain ⟨x, hx⟩ : ∃ x, x = (L k).getD j 0 := ⟨_, rfl⟩
          have hxs : (L k)[j]? = some x := by
            have : j < (L k).length := by have := HV.out.1; omega
            rw [hx]; simp [List.getD, this]
          rw [← hx] at cx
          obtain ⟨ov, cv, rfl⟩ := own_size HI2.out.own
          obtain ⟨o3, c3, W2, sA, cA, fA, GA⟩ := HI2.out.add k x (by have := edS_le L (j := j) HKN.out; have := HN.out.2; omega)
          have cE : wr.cell? ⟨w.heap.size + 1, 1, none⟩ = some (.slice ov (edS L k j).length cv) := (cell_of_row _ _ _ _ _ _ HI2.out.loc).trans rfl
          rw [← edS_succ L k j x hxs] at GA
          obtain ⟨m, hm⟩ : ∃ m, m = (edS L k j).length := ⟨_, rfl⟩
          rw [← hm] at sA cA GA cE
          have HNEW : Hid (Gst w N (edS L k (j + 1)) (.slice o3 (m + 1) c3) (W2.setCell ⟨w.heap.size + 1, 1, none⟩ (.slice o3 (m + 1) c3))) := GA
          have HJ : Hid (j < len) := hjl
          clear GA hm hx hxs hcL hj hjl HI2 hbL
          go_upto_region 9 with fail
          have hj2 : (j : Int) + 1 < 9223372036854775808 := by
            have h1 := edS_le L (j := (L k).length) HKN.out
            have h2 := HN.out.2
            have h3 := HV.out.1
            have h4 := HJ.out
            unfold edS at h1
            simp at h1
            omega
          clear sA cA fA cE cx hj1
          go_wp2
          go_roundw
          case rel => exact ⟨j + 1, _, rfl, HJ.out, HNEW⟩
          case measure => have := HJ.out; simp only [intOf]; omega
        · have hj1 : ¬ ((j : Int) < (len : Int)) := by omega
          have HNEW : Hid (Gst w N (edg L (k + 1)) ev2 wr) := by
            have := HI2.out
            rw [show j = (L k).length by have := HV.out.1; omega, edS_end] at this
            exact this
          have hk2 : (k : Int) + 1 < 9223372036854775808 := by have := HN.out.1; have := HKN.out; omega
          clear HI2
          go_wp2
          go_roundw
          case rel => exact ⟨k + 1, _, rfl, HKN.out, HNEW⟩
          case measure => have := HKN.out; simp only [intOf]; omega
    · have hk1 : ¬ ((k : Int) < (N : Int)) := by omega
      have hkN : k = N := by omega
      subst hkN
      obtain ⟨ov, cv, rfl⟩ := own_size HI.out.own
      obtain ⟨m, hm⟩ : ∃ m, m = (edg L k).length := ⟨_, rfl⟩
      rw [← hm] at HI
      have l0 : wr.cell? ⟨w.heap.size + 1, 0, none⟩ = some (.int .i64 (k : Int)) := (cell_of_row _ _ _ _ _ _ HI.out.loc).trans rfl
      have l1 : wr.cell? ⟨w.heap.size + 1, 1, none⟩ = some (.slice ov m cv) := (cell_of_row _ _ _ _ _ _ HI.out.loc).trans rfl
      have z0 : wr.cell? ⟨w.heap.size, 0, none⟩ = some (.int .i64 0) := (cell_of_row _ _ _ _ _ _ HI.out.res).trans rfl
      have z1 : wr.cell? ⟨w.heap.size, 1, none⟩ = some (.slice none 0 0) := (cell_of_row _ _ _ _ _ _ HI.out.res).trans rfl
      have f0 : wr.frozen? ⟨w.heap.size, 0, none⟩ = false := frozen_of_row _ _ _ _ _ HI.out.res
      have f1 : wr.frozen? ⟨w.heap.size, 1, none⟩ = false := frozen_of_row _ _ _ _ _ HI.out.res
      clear hm
      go_wp2_with fail
      refine bodyPost_ret (results_G rfl _ _ w.heap.size (.int .i64 (k : Int)) (.slice ov m cv) rfl (set2G _ _ HI.out.res)) rfl ⟨_, rfl, ?_, ?_, fun q hq => by have := (HI.out.own.lt q hq).1; omega⟩
      · exact (el_own (own_keep2 HI.out.own fun q hq => set2_other _ _ q (by have := (HI.out.own.lt q hq).1; omega))).2
      · exact below_set2 _ _ (Nat.le_refl _) HI.out.bel
end Go.Proofs.Ytgedmfcfhdfoeaa
