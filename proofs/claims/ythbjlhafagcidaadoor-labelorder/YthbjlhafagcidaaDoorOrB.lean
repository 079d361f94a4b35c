/- LabelOrder: Base; what the walk keeps. -/
import Derived.Test.YthbjlhafagcidaaDoorOrM
import Derived.Test.YthbjlhafagcidaaDoorOrW
import Derived.Test.YthbjlhafagcidaaDoorRight
import Derived.Test.YthbjlhafagcidaaDoorWorks
import Derived.Deep.DeepCutAuto
namespace Go.Proofs.YthbjlhafagcidaaDoor
open Go.RowKit Go.Shelf Go.Sort
attribute [local go_sem ↓] to25l to23l
set_option maxHeartbeats 1000000 in
theorem baseC_any (h : List Nat) (hb : Byt h) (hl : h.length = 20) (s : ByteArray) (w : World) (ht : Tx w) :
    Calls Tryd.prog 7 #[.agg (lab h s)] w fun e w' => e = .returned (baseV h s) ∧ Below w.heap.size w w' := by
  obtain ⟨W1, hW1⟩ : ∃ W, W = w.alloc (.cells (lab h s) 25) := ⟨_, rfl⟩
  have bel : Hid (Below w.heap.size w W1) := by rw [hW1]; exact (Below.refl _ w).alloc (Nat.le_refl _) _
  have hrow : W1.heap[w.heap.size]? = some (.cells (lab h s) 25 (0, 0)) := by rw [hW1]; exact heap_alloc_new _ _
  have hz : Hid (W1.heap.size = w.heap.size + 1) := by show _ = _; rw [hW1]; simp
  have cn : W1.cell? ⟨w.heap.size, 20, none⟩ = some (.string s) := by rw [cell_of_row _ _ _ _ _ _ hrow, lab_name h s hl]
  have HR : Hid (W1.heap[w.heap.size]? = some (.cells (lab h s) 25 (0, 0))) := hrow
  have HT : Hid (Tx w) := ht
  obtain ⟨E, hE⟩ : ∃ E, E = okN s := ⟨_, rfl⟩
  obtain ⟨F, hF⟩ : ∃ F, F = (checkN s).2 := ⟨_, rfl⟩
  have C : Hid (∀ W, Calls Tryd.prog 14 #[.string s] W fun e w' => e = .returned (.tuple #[.int .i64 (E : Int), .int .i64 (F : Int)]) ∧ Below W.heap.size W w') := by
    intro W
    have := check_any s W
    rw [hE, hF]
    exact this
  have HE : Hid (E = okN s) := hE
  have HW : Hid (W1 = w.alloc (.cells (lab h s) 25)) := hW1
  rw [hW1] at cn
  clear hrow hE hF hW1 ht
  go_enter Tryd.func7, Tryd.ntmps7
  go_wp2_with fail
  refine (C.out _).mono ?_
  rintro e W2 ⟨rfl, b2⟩
  rw [← HW.out] at b2
  have bel2 : Below w.heap.size w W2 := bel.out.trans (b2.mono (by have := hz.out; omega))
  have ld := run_loadR25 W2 w.heap.size h s ((b2.block _ (by have := hz.out; omega)).trans HR.out) hl
  by_cases h0 : E = 0
  · have hv : Hid (baseV h s = two (baseS h s) 0) := by show _ = _; unfold baseV; rw [if_pos (by rw [← HE.out]; exact h0)]
    have hs : s.size ≤ 211 := okN_size s (by rw [← HE.out]; exact h0)
    have HB : Hid (Calls Tryd.prog 15 #[.agg (lab h s)] W2 fun e w' => e = .returned (.string (baseS h s)) ∧ Below W2.heap.size W2 w') := baseOf_any h hb hl s hs W2 (HT.out.below bel2 HT.out.sz)
    have z1 : ¬ (9223372036854775807 < 13 + (baseS h s).size) := by rw [baseS_size h s hl]; omega
    subst h0
    go_wp2_with fail
    refine HB.out.mono ?_
    rintro e W3 ⟨rfl, b3⟩
    have bel3 : Below w.heap.size w W3 := bel2.trans (b3.mono bel2.size)
    go_wp2
    go_ret2
    exact ⟨by rw [hv.out]; rfl, bel3⟩
  · have hv : Hid (baseV h s = two ⟨#[]⟩ E) := by show _ = _; unfold baseV; rw [if_neg (by rw [← HE.out]; exact h0), HE.out]
    have h0' : ¬ ((E : Int) = 0) := by omega
    go_wp2
    go_ret2
    exact ⟨by rw [hv.out]; rfl, bel2⟩
theorem lex_bd : ∀ a b, -1 ≤ lexC a b ∧ lexC a b ≤ 1
  | [], [] => by simp [lexC]
  | [], _ :: _ => by simp [lexC]
  | _ :: _, [] => by simp [lexC]
  | x :: a, y :: b => by
    have ih := lex_bd a b
    rw [lexC]
    split
    · omega
    · split
      · omega
      · exact ih
theorem cf_bd (x y : Lb) : -1 ≤ cf x y ∧ cf x y ≤ 1 := by rw [cf_key]; exact lex_bd _ _
theorem cf_anti (x y : Lb) : cf y x = - cf x y := by rw [cf_key, cf_key]; exact lex_anti _ _
theorem cf_self (x : Lb) : cf x x = 0 := by rw [cf_key]; exact lex_self _
theorem cf_zero {x y : Lb} (h : cf x y = 0) : x = y := by rw [cf_key] at h; exact key_inj (lex_zero h)
theorem cf_trans {x y z : Lb} (h1 : cf x y ≤ 0) (h2 : cf y z ≤ 0) : cf x z ≤ 0 := by
  by_cases e1 : cf x y = 0
  · rw [cf_zero e1]; exact h2
  · by_cases e2 : cf y z = 0
    · rw [← cf_zero e2]; exact h1
    · rw [cf_key] at h1 h2 e1 e2 ⊢
      have := lex_trans (show lexC (key x) (key y) < 0 by omega) (show lexC (key y) (key z) < 0 by omega)
      omega
theorem cf_eq (x y : Lb) : (cf x y == 0) = decide (x.h = y.h ∧ x.s = y.s) := by
  by_cases h : x = y
  · subst h
    rw [cf_self]
    simp
  · have h1 : ¬ cf x y = 0 := fun e => h (cf_zero e)
    rw [decide_eq_false (fun e => h (Lb.ext' e.1 e.2))]
    simp [h1]
/-- Sorted, none twice. -/
theorem sort_up (L : List Lb) : (dd (srt L)).Pairwise (fun a b => cf a b < 0) ∧ ∀ x, x ∈ dd (srt L) ↔ x ∈ L := by
  have ht : ∀ x y z, ltOf cf x y = true → ltOf cf y z = true → ltOf cf x z = true := swo.trans
  have hs : (srt L).Pairwise fun a b => ltOf cf b a = false := by
    have := List.pairwise_mergeSort (le := fun x y => !(ltOf cf) y x) (by
      intro a b c h1 h2
      simp only [Bool.not_eq_true'] at h1 h2 ⊢
      exact swo.ntrans c b a h2 h1) (by
      intro a b
      simp only [Bool.or_eq_true, Bool.not_eq_true']
      by_cases e : ltOf cf b a = true
      · right
        by_cases e2 : ltOf cf a b = true
        · have := ht _ _ _ e e2
          rw [swo.irrefl] at this
          cases this
        · simpa using e2
      · left
        simpa using e) L
    refine this.imp ?_
    intro a b h
    simpa using h
  refine ⟨(dd_sorted ltT ht hs).imp ?_, fun x => ?_⟩
  · intro a b h
    exact of_decide_eq_true h
  · rw [dd_mem]
    exact List.mem_mergeSort
/-- What the walk keeps. -/
structure Gd (a b c : Lb) (v : Value) (L : List Lb) (w W : World) : Prop where
  ra : W.heap[w.heap.size]? = some (.cells (lab a.h a.s) 25 (0, 0))
  rb : W.heap[w.heap.size + 1]? = some (.cells (lab b.h b.s) 25 (0, 0))
  rc : W.heap[w.heap.size + 2]? = some (.cells (lab c.h c.s) 25 (0, 0))
  tx : Tx W
  ls : Ls v L W
  bl : Below w.heap.size w W
theorem Gd.below {a b c : Lb} {v : Value} {L : List Lb} {w W W' : World} (h : Gd a b c v L w W) (hb : Below W.heap.size W W') : Gd a b c v L w W' :=
  ⟨(hb.block _ (Array.getElem?_eq_some_iff.1 h.ra).1).trans h.ra, (hb.block _ (Array.getElem?_eq_some_iff.1 h.rb).1).trans h.rb, (hb.block _ (Array.getElem?_eq_some_iff.1 h.rc).1).trans h.rc, h.tx.below hb h.tx.sz, h.ls.below hb, h.bl.trans (hb.mono h.bl.size)⟩
theorem Gd.start {a b c : Lb} {v : Value} {L : List Lb} {w : World} (ht : Tx w) (hv : Ls v L w) : Gd a b c v L w (((w.alloc (.cells (lab a.h a.s) 25)).alloc (.cells (lab b.h b.s) 25)).alloc (.cells (lab c.h c.s) 25)) := by
  have b1 : Below w.heap.size w (w.alloc (.cells (lab a.h a.s) 25)) := (Below.refl _ w).alloc (Nat.le_refl _) _
  have b2 := b1.alloc (Nat.le_of_lt (by simp)) (.cells (lab b.h b.s) 25)
  have b3 := b2.alloc (Nat.le_of_lt (by simp; omega)) (.cells (lab c.h c.s) 25)
  refine ⟨?_, ?_, ?_, ht.below b3 ht.sz, hv.below b3, b3⟩
  · rw [heap_alloc_old _ _ (h := by simp; omega), heap_alloc_old _ _ (h := by simp)]
    exact heap_alloc_new _ _
  · rw [heap_alloc_old _ _ (h := by simp)]
    have := heap_alloc_new (w.alloc (.cells (lab a.h a.s) 25)) (.cells (lab b.h b.s) 25)
    rw [heap_size_alloc] at this
    exact this
  · have := heap_alloc_new ((w.alloc (.cells (lab a.h a.s) 25)).alloc (.cells (lab b.h b.s) 25)) (.cells (lab c.h c.s) 25)
    rw [heap_size_alloc, heap_size_alloc] at this
    exact this
end Go.Proofs.YthbjlhafagcidaaDoor
