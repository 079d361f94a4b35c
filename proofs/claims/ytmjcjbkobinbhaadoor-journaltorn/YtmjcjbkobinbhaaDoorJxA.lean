/- JournalTorn: the mathematics of a file that is cut off. -/
import Derived.Test.YtmjcjbkobinbhaaDoorJuZ
namespace Go.Proofs.YtmjcjbkobinbhaaDoor
open Go.RowKit
open JM
set_option maxRecDepth 20000
namespace Dev
theorem and_exM (x : Int) : ∃ r : Nat, bits BinOp.and IntKind.i64 x 2147483647 = (r : Int) ∧ r ≤ 2147483647 := by
  have h : (BitVec.ofInt 64 x &&& 2147483647#64).toNat ≤ 2147483647 := by rw [BitVec.toNat_and]; exact Nat.and_le_right
  refine ⟨(BitVec.ofInt 64 x &&& 2147483647#64).toNat, ?_, h⟩
  unfold bits
  simp only [IntKind.bits]
  show IntKind.i64.wrap ((BitVec.ofInt 64 x &&& 2147483647#64).toNat : Int) = _
  generalize (BitVec.ofInt 64 x &&& 2147483647#64).toNat = r at h
  rw [IntKind.wrap_i64]
  omega
theorem bsizes_take {bs : List (List (List Nat))} {n : Nat} (h : n < bs.length) : bsizes (bs.take (n + 1)) = bsizes (bs.take n) + (26 + sizes bs[n]) := by
  induction bs generalizing n with
  | nil => simp at h
  | cons b r ih =>
    cases n with
    | zero => simp [bsizes]
    | succ n =>
      rw [List.take_succ_cons, List.take_succ_cons, bsizes, bsizes, ih (by simpa using h)]
      simp only [List.getElem_cons_succ]
      omega
theorem bsizes_mono {bs : List (List (List Nat))} : ∀ {n k : Nat}, n ≤ k → k ≤ bs.length → bsizes (bs.take n) ≤ bsizes (bs.take k) := by
  intro n k h hk
  induction k with
  | zero => obtain rfl : n = 0 := by omega
            exact Nat.le_refl _
  | succ k ih =>
    rcases Nat.lt_or_ge n (k + 1) with q | q
    · have := bsizes_take (n := k) (bs := bs) (by omega)
      have := ih (by omega) (by omega)
      omega
    · obtain rfl : n = k + 1 := by omega
      exact Nat.le_refl _
/-- What is left when the live file is cut off at m. -/
theorem rep_torn {live gen first m : Nat} {base : List (List Nat)} {bs : List (List (List Nat))} (h : Jq live gen first base bs) (hm : m ≤ (journalw gen first base bs).length) {l0 l1 : List Nat} (e : (live = 0 ∧ l0 = (journalw gen first base bs).take m ∧ l1 = []) ∨ (live = 1 ∧ l0 = [] ∧ l1 = (journalw gen first base bs).take m)) :
    (m < 52 + sizes base ∧ rep l0 l1 = .none) ∨ (52 + sizes base ≤ m ∧ ∃ k pend, k ≤ bs.length ∧ 52 + sizes base + bsizes (bs.take k) ≤ m ∧ (k < bs.length → m < 52 + sizes base + bsizes (bs.take (k + 1))) ∧ rep l0 l1 = .story live ⟨true, true, 52 + sizes base + bsizes (bs.take k), gen, first, base, bs.take k, pend⟩) := by
  have hlen := h.len
  have g1 := h.g1
  have g2 := h.g2
  have f1 := h.f1
  have f2 := h.f2
  have hl : ((journalw gen first base bs).take m).length ≤ 67108864 := by rw [List.length_take]; omega
  rcases file_cut hm h.g1 (by omega) h.f1 (by omega) (by omega) h.gb h.gs with ⟨q, s, hs, s1, s2⟩ | ⟨q, k, pend, k1, k2, k3, hs⟩
  · refine .inl ⟨q, ?_⟩
    rcases e with ⟨rfl, rfl, rfl⟩ | ⟨rfl, rfl, rfl⟩
    · rw [rep_pick (by omega) (by rw [hs]) (by decide) (by rw [file_nil]), hs, file_nil]
      unfold pick
      simp [s1, St.new]
    · rw [rep_pick (by decide) (by rw [file_nil]) (by omega) (by rw [hs]), hs, file_nil]
      unfold pick
      simp [s1, St.new]
  · refine .inr ⟨q, k, pend, k1, k2, k3, ?_⟩
    rcases e with ⟨rfl, rfl, rfl⟩ | ⟨rfl, rfl, rfl⟩
    · rw [rep_pick (by omega) (by rw [hs]) (by decide) (by rw [file_nil]), hs, file_nil]
      rfl
    · rw [rep_pick (by decide) (by rw [file_nil]) (by omega) (by rw [hs]), hs, file_nil]
      rfl
/-- What the law has at hand once the file is cut off: the disk at a, the story at b. -/
structure Md (W : World) (a b live gen first : Nat) (base : List (List Nat)) (bs : List (List (List Nat))) (v0 v1 t4 t5 : Value) (l0 l1 : List Nat) (w : World) : Prop where
  ra : w.heap[a]? = some (.cells #[v0, v1] 26 (0, 0))
  rb : w.heap[b]? = some (.cells (styA live (journalw gen first base bs).length gen first t4 t5) 30 (0, 0))
  h0 : Bl w v0 l0
  h1 : Bl w v1 l1
  ll : Ll W.heap.size w t4 base
  lb : Lb W.heap.size w t5 bs
  bel : Below W.heap.size W w
theorem ty_ne {t : Nat} (ht : t = 5 ∨ t = 23 ∨ t = 27) : t ≠ 26 ∧ t ≠ 30 := by rcases ht with rfl | rfl | rfl <;> decide
/-- From grown to the disk with the live file cut off. -/
theorem md_of {W w1 : World} {live gen first m g0 g1 : Nat} {base : List (List Nat)} {bs : List (List (List Nat))} {x : Sp} {t4 t5 : Value} (hq : Jq live gen first base bs) (fx : (fl x live).1 = journalw gen first base bs) (fo : (fl x (1 - live)).1 = []) (hD : DkP W x (dkA g0 x.1.1.length g1 x.2.1.length) w1) (h4 : Ll W.heap.size w1 t4 base) (h5 : Lb W.heap.size w1 t5 bs) (hm : m ≤ (journalw gen first base bs).length) {w2 : World} (hw2 : (w1.alloc (.cells (dkA g0 x.1.1.length g1 x.2.1.length) 26)).alloc (.cells (styA live (journalw gen first base bs).length gen first t4 t5) 30) = w2) :
    ∃ gl, w2.cell? ⟨w1.heap.size, live, none⟩ = some (.slice (some ⟨gl, 0, none⟩) (journalw gen first base bs).length (journalw gen first base bs).length) ∧ Bl w2 (.slice (some ⟨gl, 0, none⟩) (journalw gen first base bs).length (journalw gen first base bs).length) (journalw gen first base bs) ∧ w2.heap[w1.heap.size + 1]? = some (.cells (styA live (journalw gen first base bs).length gen first t4 t5) 30 (0, 0)) ∧ Below W.heap.size W w2 ∧
      ∀ w3, w2.drew.alloc (.cells (Go.Proofs.YtmjcjbkobinbhaaDoor.bs ((journalw gen first base bs).take m)).toArray 5) = w3 → ((∃ v, w3.cell? ⟨w1.heap.size, live, none⟩ = some v) ∧ w3.frozen? ⟨w1.heap.size, live, none⟩ = false) ∧ ∃ v0 v1 l0 l1, Md W w1.heap.size (w1.heap.size + 1) live gen first base bs v0 v1 t4 t5 l0 l1 (w3.setCell ⟨w1.heap.size, live, none⟩ (.slice (some ⟨w2.heap.size, 0, none⟩) m m)) ∧ ((live = 0 ∧ l0 = (journalw gen first base bs).take m ∧ l1 = []) ∨ (live = 1 ∧ l0 = [] ∧ l1 = (journalw gen first base bs).take m)) := by
  obtain ⟨g0', g1', e, d0, d1, z0, z1, d01, b1⟩ := hD
  obtain ⟨rfl, rfl⟩ := dkA_inj e
  have bW2 : Below w1.heap.size w1 w2 := by rw [← hw2]; exact below2 _ _ _
  have ra : w2.heap[w1.heap.size]? = some (.cells (dkA g0 x.1.1.length g1 x.2.1.length) 26 (0, 0)) := by rw [← hw2]; exact row2 _ _ _
  have rb : w2.heap[w1.heap.size + 1]? = some (.cells (styA live (journalw gen first base bs).length gen first t4 t5) 30 (0, 0)) := by rw [← hw2]; exact row2n _ _ _
  have d0b := (bW2.block _ (Array.getElem?_eq_some_iff.1 d0).1).trans d0
  have d1b := (bW2.block _ (Array.getElem?_eq_some_iff.1 d1).1).trans d1
  have l0 := (Array.getElem?_eq_some_iff.1 d0).1
  have l1 := (Array.getElem?_eq_some_iff.1 d1).1
  have bel2 : Below W.heap.size W w2 := b1.trans (bW2.mono b1.size)
  have hby := byt_journalw (gen := gen) (first := first) hq.gb hq.gs
  have hle := hq.len
  have hbt : Byt ((journalw gen first base bs).take m) := fun y hy => hby y (List.mem_of_mem_take hy)
  have htl : ((journalw gen first base bs).take m).length = m := by rw [List.length_take]; omega
  have hl := hq.lv
  have step : ∀ w3, w2.drew.alloc (.cells (Go.Proofs.YtmjcjbkobinbhaaDoor.bs ((journalw gen first base bs).take m)).toArray 5) = w3 → Below w2.heap.size w2 w3 ∧ w3.heap[w2.heap.size]? = some (.cells (Go.Proofs.YtmjcjbkobinbhaaDoor.bs ((journalw gen first base bs).take m)).toArray 5 (0, 0)) := fun w3 h => by
    rw [← h]
    exact ⟨(below_drew w2).alloc (Nat.le_refl _) _, heap_alloc_new w2.drew _⟩
  obtain rfl | rfl : live = 0 ∨ live = 1 := by omega
  · have fx : x.1.1 = journalw gen first base bs := fx
    have fo : x.2.1 = [] := fo
    refine ⟨g0, ?_, ?_, rb, bel2, fun w3 hw3 => ?_⟩
    · rw [cell_of_row _ _ _ _ _ _ ra, ← fx]
      rfl
    · rw [fx] at d0b
      exact bl_row d0b hby (by unfold maxLen; omega)
    · obtain ⟨b3, r3⟩ := step w3 hw3
      have ra3 := (b3.block _ (Array.getElem?_eq_some_iff.1 ra).1).trans ra
      have rb3 := (b3.block _ (Array.getElem?_eq_some_iff.1 rb).1).trans rb
      have z2 := (Array.getElem?_eq_some_iff.1 rb).1
      refine ⟨⟨⟨_, (cell_of_row _ _ _ _ _ _ ra3).trans rfl⟩, frozen_of_row _ _ _ _ _ ra3⟩, .slice (some ⟨w2.heap.size, 0, none⟩) m m, .slice (some ⟨g1, 0, none⟩) x.2.1.length x.2.1.length, (journalw gen first base bs).take m, [], ?_, .inl ⟨rfl, rfl, rfl⟩⟩
      rw [setCell_eq_setRow w3 w1.heap.size 0 _ _ _ _ ra3]
      have o3 := b1.trans ((bW2.trans (b3.mono bW2.size)).mono b1.size)
      have w13 := bW2.trans (b3.mono bW2.size)
      refine ⟨setRow_heap _ _ _ _ _ _ ra3, (setRow_other _ _ _ _ (by omega)).trans rb3, ?_, ?_, ?_, ?_, below_setRow o3 b1.size _⟩
      · have := bl_row (w := w3.setRow w1.heap.size ((dkA g0 x.1.1.length g1 x.2.1.length).setIfInBounds 0 (.slice (some ⟨w2.heap.size, 0, none⟩) m m))) ((setRow_other _ _ _ _ (by omega)).trans r3) hbt (by rw [htl]; unfold maxLen; omega)
        rwa [htl] at this
      · have := bl_row (w := w3.setRow w1.heap.size ((dkA g0 x.1.1.length g1 x.2.1.length).setIfInBounds 0 (.slice (some ⟨w2.heap.size, 0, none⟩) m m))) ((setRow_other _ _ _ _ (by omega)).trans ((b3.block _ (Array.getElem?_eq_some_iff.1 d1b).1).trans d1b)) (by rw [fo]; intro y hy; cases hy) (by rw [fo]; exact Nat.zero_le _)
        rw [fo] at this ⊢
        exact this
      · exact (h4.keep (stay_below w13)).keep (fun k c t _ ht hc => setRow_other _ _ _ _ (row_ne hc ra3 (ty_ne (ht.elim .inl (fun q => .inr (.inl q)))).1))
      · exact (h5.keep (stay_below w13)).keep (fun k c t _ ht hc => setRow_other _ _ _ _ (row_ne hc ra3 (ty_ne ht).1))
  · have fx : x.2.1 = journalw gen first base bs := fx
    have fo : x.1.1 = [] := fo
    refine ⟨g1, ?_, ?_, rb, bel2, fun w3 hw3 => ?_⟩
    · rw [cell_of_row _ _ _ _ _ _ ra, ← fx]
      rfl
    · rw [fx] at d1b
      exact bl_row d1b hby (by unfold maxLen; omega)
    · obtain ⟨b3, r3⟩ := step w3 hw3
      have ra3 := (b3.block _ (Array.getElem?_eq_some_iff.1 ra).1).trans ra
      have rb3 := (b3.block _ (Array.getElem?_eq_some_iff.1 rb).1).trans rb
      have z2 := (Array.getElem?_eq_some_iff.1 rb).1
      refine ⟨⟨⟨_, (cell_of_row _ _ _ _ _ _ ra3).trans rfl⟩, frozen_of_row _ _ _ _ _ ra3⟩, .slice (some ⟨g0, 0, none⟩) x.1.1.length x.1.1.length, .slice (some ⟨w2.heap.size, 0, none⟩) m m, [], (journalw gen first base bs).take m, ?_, .inr ⟨rfl, rfl, rfl⟩⟩
      rw [setCell_eq_setRow w3 w1.heap.size 1 _ _ _ _ ra3]
      have o3 := b1.trans ((bW2.trans (b3.mono bW2.size)).mono b1.size)
      have w13 := bW2.trans (b3.mono bW2.size)
      refine ⟨setRow_heap _ _ _ _ _ _ ra3, (setRow_other _ _ _ _ (by omega)).trans rb3, ?_, ?_, ?_, ?_, below_setRow o3 b1.size _⟩
      · have := bl_row (w := w3.setRow w1.heap.size ((dkA g0 x.1.1.length g1 x.2.1.length).setIfInBounds 1 (.slice (some ⟨w2.heap.size, 0, none⟩) m m))) ((setRow_other _ _ _ _ (by omega)).trans ((b3.block _ (Array.getElem?_eq_some_iff.1 d0b).1).trans d0b)) (by rw [fo]; intro y hy; cases hy) (by rw [fo]; exact Nat.zero_le _)
        rw [fo] at this ⊢
        exact this
      · have := bl_row (w := w3.setRow w1.heap.size ((dkA g0 x.1.1.length g1 x.2.1.length).setIfInBounds 1 (.slice (some ⟨w2.heap.size, 0, none⟩) m m))) ((setRow_other _ _ _ _ (by omega)).trans r3) hbt (by rw [htl]; unfold maxLen; omega)
        rwa [htl] at this
      · exact (h4.keep (stay_below w13)).keep (fun k c t _ ht hc => setRow_other _ _ _ _ (row_ne hc ra3 (ty_ne (ht.elim .inl (fun q => .inr (.inl q)))).1))
      · exact (h5.keep (stay_below w13)).keep (fun k c t _ ht hc => setRow_other _ _ _ _ (row_ne hc ra3 (ty_ne ht).1))
end Dev
end Go.Proofs.YtmjcjbkobinbhaaDoor
