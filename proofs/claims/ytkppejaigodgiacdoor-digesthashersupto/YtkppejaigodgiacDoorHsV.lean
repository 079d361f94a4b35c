/- DigestHashers: the row of hashers in memory, the code's beside the document's. -/
import Derived.Test.YtkppejaigodgiacDoorHsO
namespace Go.Proofs.YtkppejaigodgiacDoor.Sha
open Go.RowKit
def ptr (g : Nat) : Value := .pointer (some ⟨g, 0, none⟩)
theorem own_keep {w w' : World} {B e n : Nat} {v : Value} {xs : List Value} (h : w.ownsRow B e 1 v n xs) (hb : ∀ k, v.ownBlock = some k → w'.heap[k]? = w.heap[k]?) : w'.ownsRow B e 1 v n xs := by
  obtain ⟨h0, h1 | ⟨g, cap, cur, rfl, h2, h3, h4⟩⟩ := h
  · exact ⟨h0, .inl h1⟩
  · exact ⟨h0, .inr ⟨g, cap, cur, rfl, h2, (hb g rfl).trans h3, h4⟩⟩
theorem Rk.keep {B : Nat} {m : List Nat} {h : Nat} {d : Value} {w w' : World} (r : Rk B m h d w) (h1 : w'.heap[h]? = w.heap[h]?) (h2 : ∀ k, d.ownBlock = some k → w'.heap[k]? = w.heap[k]?) : Rk B m h d w' := ⟨h1.trans r.1, own_keep r.2 h2⟩
theorem Rk.lt {B : Nat} {m : List Nat} {h : Nat} {d : Value} {w : World} (r : Rk B m h d w) : h < w.heap.size := (Array.getElem?_eq_some_iff.1 r.1).1
/-- The row of hashers; O says whose each block is. -/
structure Hv (N : Nat) (vA vB : Value) (LA LB A Bk : List Nat) (ds : List Value) (ma mb : List (List Nat)) (O : Nat → Nat × Nat) (w : World) : Prop where
  la : ma.length = A.length
  lb : Bk.length = A.length
  ld : ds.length = A.length
  lm : mb.length = A.length
  tk : ∀ (i : Nat) g m, A[i]? = some g → ma[i]? = some m → Tk m g w
  ta : ∀ (i : Nat) g, A[i]? = some g → N ≤ g ∧ O g = (0, i)
  rk : ∀ (i : Nat) h d m, Bk[i]? = some h → ds[i]? = some d → mb[i]? = some m → Rk N m h d w
  tb : ∀ (i : Nat) h, Bk[i]? = some h → N ≤ h ∧ O h = (1, i)
  td : ∀ (i : Nat) d k, ds[i]? = some d → d.ownBlock = some k → O k = (2, i)
  va : w.ownsRow N 30 1 vA LA.length (LA.map ptr)
  ya : ∀ k, vA.ownBlock = some k → O k = (3, 0)
  vb : w.ownsRow N 33 1 vB LB.length (LB.map ptr)
  yb : ∀ k, vB.ownBlock = some k → O k = (4, 0)
  sz : N ≤ w.heap.size
section
variable {N : Nat} {vA vB : Value} {LA LB A Bk : List Nat} {ds : List Value} {ma mb : List (List Nat)} {O : Nat → Nat × Nat} {w w' : World}
theorem get_of {α β : Type} {xs : List α} {ys : List β} (h : ys.length = xs.length) {i : Nat} {x : α} (hx : xs[i]? = some x) : ∃ y, ys[i]? = some y := by
  have := (List.getElem?_eq_some_iff.1 hx).1
  exact ⟨_, List.getElem?_eq_getElem (by omega : i < ys.length)⟩
theorem Hv.aLt (h : Hv N vA vB LA LB A Bk ds ma mb O w) {i g : Nat} (hg : A[i]? = some g) : g < w.heap.size := by
  obtain ⟨m, hm⟩ := get_of h.la hg
  exact (h.tk i g m hg hm).lt
theorem Hv.bLt (h : Hv N vA vB LA LB A Bk ds ma mb O w) {i g : Nat} (hg : Bk[i]? = some g) : g < w.heap.size := by
  obtain ⟨m, hm⟩ := get_of (h.lm.trans h.lb.symm) hg
  obtain ⟨d, hd⟩ := get_of (h.ld.trans h.lb.symm) hg
  exact (h.rk i g d m hg hd hm).lt
theorem Hv.dLt (h : Hv N vA vB LA LB A Bk ds ma mb O w) {i k : Nat} {d : Value} (hd : ds[i]? = some d) (hk : d.ownBlock = some k) : N ≤ k ∧ k < w.heap.size := by
  obtain ⟨m, hm⟩ := get_of (h.lm.trans h.ld.symm) hd
  obtain ⟨g, hg⟩ := get_of (h.lb.trans h.ld.symm) hd
  exact (h.rk i g d m hg hd hm).2.lt k hk
/-- A block to come is set aside. -/
def upd (O : Nat → Nat × Nat) (k0 : Nat) (t : Nat × Nat) : Nat → Nat × Nat := fun k => if k = k0 then t else O k
theorem upd_old {O : Nat → Nat × Nat} {k0 k : Nat} {t : Nat × Nat} (h : k ≠ k0) : upd O k0 t k = O k := if_neg h
theorem upd_new {O : Nat → Nat × Nat} {k0 : Nat} {t : Nat × Nat} : upd O k0 t k0 = t := if_pos rfl
theorem Hv.res (h : Hv N vA vB LA LB A Bk ds ma mb O w) (k0 : Nat) (hk : w.heap.size ≤ k0) (t : Nat × Nat) : Hv N vA vB LA LB A Bk ds ma mb (upd O k0 t) w :=
  ⟨h.la, h.lb, h.ld, h.lm, h.tk, fun i g hg => ⟨(h.ta i g hg).1, (upd_old (by have := h.aLt hg; omega)).trans (h.ta i g hg).2⟩, h.rk, fun i g hg => ⟨(h.tb i g hg).1, (upd_old (by have := h.bLt hg; omega)).trans (h.tb i g hg).2⟩,
    fun i d k hd hk' => (upd_old (by have := h.dLt hd hk'; omega)).trans (h.td i d k hd hk'), h.va, fun k hk' => (upd_old (by have := h.va.lt k hk'; omega)).trans (h.ya k hk'), h.vb, fun k hk' => (upd_old (by have := h.vb.lt k hk'; omega)).trans (h.yb k hk'), h.sz⟩
/-- What is nobody's may change. -/
theorem Hv.keep (h : Hv N vA vB LA LB A Bk ds ma mb O w) (hs : w.heap.size ≤ w'.heap.size) (hb : ∀ k, N ≤ k → k < w.heap.size → (O k).1 ≤ 4 → w'.heap[k]? = w.heap[k]?) : Hv N vA vB LA LB A Bk ds ma mb O w' := by
  refine ⟨h.la, h.lb, h.ld, h.lm, fun i g m hg hm => (h.tk i g m hg hm).keep (hb g (h.ta i g hg).1 (h.aLt hg) (by rw [(h.ta i g hg).2]; simp)), h.ta, fun i g d m hg hd hm => (h.rk i g d m hg hd hm).keep (hb g (h.tb i g hg).1 (h.bLt hg) (by rw [(h.tb i g hg).2]; simp))
    (fun k hk => hb k (h.dLt hd hk).1 (h.dLt hd hk).2 (by rw [h.td i d k hd hk]; simp)), h.tb, h.td, own_keep h.va fun k hk => hb k (h.va.lt k hk).1 (h.va.lt k hk).2 (by rw [h.ya k hk]; simp), h.ya, own_keep h.vb fun k hk => hb k (h.vb.lt k hk).1 (h.vb.lt k hk).2 (by rw [h.yb k hk]; simp), h.yb, Nat.le_trans h.sz hs⟩
theorem Hv.below (h : Hv N vA vB LA LB A Bk ds ma mb O w) (b : Below w.heap.size w w') : Hv N vA vB LA LB A Bk ds ma mb O w' := h.keep b.size fun k _ hk _ => b.block k hk
/-- One of the code's hashers has changed. -/
theorem Hv.wa (h : Hv N vA vB LA LB A Bk ds ma mb O w) {i g : Nat} {m' : List Nat} (hg : A[i]? = some g) (hs : w.heap.size ≤ w'.heap.size) (hb : ∀ k, k < w.heap.size → k ≠ g → w'.heap[k]? = w.heap[k]?) (hk : Tk m' g w') : Hv N vA vB LA LB A Bk ds (ma.set i m') mb O w' := by
  have hO := (h.ta i g hg).2
  have ne : ∀ k t, O k = t → t ≠ (0, i) → k ≠ g := fun k t h1 h2 h3 => by subst h3; exact h2 (h1.symm.trans hO)
  refine ⟨by rw [List.length_set]; exact h.la, h.lb, h.ld, h.lm, fun j g' m hg' hm => ?_, h.ta, fun j b d m hb' hd hm => (h.rk j b d m hb' hd hm).keep (hb b (h.bLt hb') (ne b _ (h.tb j b hb').2 (by simp)))
    (fun k hk => hb k (h.dLt hd hk).2 (ne k _ (h.td j d k hd hk) (by simp))), h.tb, h.td, own_keep h.va fun k hk => hb k (h.va.lt k hk).2 (ne k _ (h.ya k hk) (by simp)), h.ya, own_keep h.vb fun k hk => hb k (h.vb.lt k hk).2 (ne k _ (h.yb k hk) (by simp)), h.yb, Nat.le_trans h.sz hs⟩
  by_cases hij : i = j
  · subst hij
    rw [hg] at hg'
    cases hg'
    have hil : i < ma.length := by have := (List.getElem?_eq_some_iff.1 hg).1; have := h.la; omega
    rw [List.getElem?_set_self hil] at hm
    cases hm
    exact hk
  · rw [List.getElem?_set_ne hij] at hm
    exact (h.tk j g' m hg' hm).keep (hb g' (h.aLt hg') (ne g' _ (h.ta j g' hg').2 (fun e => hij (by simpa using e.symm))))
/-- One of the document's hashers has changed. -/
theorem Hv.wb (h : Hv N vA vB LA LB A Bk ds ma mb O w) {i b : Nat} {d d' : Value} {m' : List Nat} (hb : Bk[i]? = some b) (hd : ds[i]? = some d) (R : Rk N m' b d' w') (hk : ∀ k, d'.ownBlock = some k → d.ownBlock = some k ∨ k = w.heap.size)
    (hs : w.heap.size ≤ w'.heap.size) (hf : ∀ k, k < w.heap.size → k ≠ b → ¬ d.ownBlock = some k → w'.heap[k]? = w.heap[k]?) : Hv N vA vB LA LB A Bk (ds.set i d') ma (mb.set i m') (upd O w.heap.size (2, i)) w' := by
  have h' := h.res w.heap.size (Nat.le_refl _) (2, i)
  have hO := (h.tb i b hb).2
  have ne : ∀ k t, k < w.heap.size → O k = t → t ≠ (1, i) → t ≠ (2, i) → w'.heap[k]? = w.heap[k]? := fun k t h0 h1 h2 h3 => hf k h0 (fun e => by subst e; exact h2 (h1.symm.trans hO)) (fun e => h3 (h1.symm.trans (h.td i d k hd e)))
  refine ⟨h'.la, h'.lb, by rw [List.length_set]; exact h.ld, by rw [List.length_set]; exact h.lm, fun j g m hg hm => (h.tk j g m hg hm).keep (ne g _ (h.aLt hg) (h.ta j g hg).2 (by simp) (by simp)), h'.ta, fun j g e m hg he hm => ?_, h'.tb, fun j e k he hk' => ?_,
    own_keep h.va fun k hk => ne k _ (h.va.lt k hk).2 (h.ya k hk) (by simp) (by simp), h'.ya, own_keep h.vb fun k hk => ne k _ (h.vb.lt k hk).2 (h.yb k hk) (by simp) (by simp), h'.yb, Nat.le_trans h.sz hs⟩
  · by_cases hij : i = j
    · subst hij
      rw [hb] at hg
      cases hg
      rw [List.getElem?_set_self (List.getElem?_eq_some_iff.1 hd).1] at he
      have hil : i < mb.length := by have := (List.getElem?_eq_some_iff.1 hb).1; have := h.lm; have := h.lb; omega
      rw [List.getElem?_set_self hil] at hm
      cases he; cases hm
      exact R
    · rw [List.getElem?_set_ne hij] at he hm
      exact (h.rk j g e m hg he hm).keep (ne g _ (h.bLt hg) (h.tb j g hg).2 (fun e => hij (by simpa using e.symm)) (by simp)) (fun k hk => ne k _ (h.dLt he hk).2 (h.td j e k he hk) (by simp) (fun e => hij (by simpa using e.symm)))
  · by_cases hij : i = j
    · subst hij
      rw [List.getElem?_set_self (List.getElem?_eq_some_iff.1 hd).1] at he
      cases he
      rcases hk k hk' with h1 | h1
      · exact h'.td i d k hd h1
      · rw [h1]; exact upd_new
    · rw [List.getElem?_set_ne hij] at he
      exact h'.td j e k he hk'
/-- The code's list is another. -/
theorem Hv.sa (h : Hv N vA vB LA LB A Bk ds ma mb O w) {vA' : Value} {LA' : List Nat} (hs : w.heap.size ≤ w'.heap.size) (hf : ∀ k, k < w.heap.size → ¬ vA.ownBlock = some k → w'.heap[k]? = w.heap[k]?) (ho : w'.ownsRow N 30 1 vA' LA'.length (LA'.map ptr))
    (hy : ∀ k, vA'.ownBlock = some k → O k = (3, 0)) : Hv N vA' vB LA' LB A Bk ds ma mb O w' := by
  have ne : ∀ k t, k < w.heap.size → O k = t → t ≠ (3, 0) → w'.heap[k]? = w.heap[k]? := fun k t h0 h1 h2 => hf k h0 (fun e => h2 (h1.symm.trans (h.ya k e)))
  exact ⟨h.la, h.lb, h.ld, h.lm, fun i g m hg hm => (h.tk i g m hg hm).keep (ne g _ (h.aLt hg) (h.ta i g hg).2 (by simp)), h.ta, fun i g d m hg hd hm => (h.rk i g d m hg hd hm).keep (ne g _ (h.bLt hg) (h.tb i g hg).2 (by simp))
    (fun k hk => ne k _ (h.dLt hd hk).2 (h.td i d k hd hk) (by simp)), h.tb, h.td, ho, hy, own_keep h.vb fun k hk => ne k _ (h.vb.lt k hk).2 (h.yb k hk) (by simp), h.yb, Nat.le_trans h.sz hs⟩
theorem Hv.sb (h : Hv N vA vB LA LB A Bk ds ma mb O w) {vB' : Value} {LB' : List Nat} (hs : w.heap.size ≤ w'.heap.size) (hf : ∀ k, k < w.heap.size → ¬ vB.ownBlock = some k → w'.heap[k]? = w.heap[k]?) (ho : w'.ownsRow N 33 1 vB' LB'.length (LB'.map ptr))
    (hy : ∀ k, vB'.ownBlock = some k → O k = (4, 0)) : Hv N vA vB' LA LB' A Bk ds ma mb O w' := by
  have ne : ∀ k t, k < w.heap.size → O k = t → t ≠ (4, 0) → w'.heap[k]? = w.heap[k]? := fun k t h0 h1 h2 => hf k h0 (fun e => h2 (h1.symm.trans (h.yb k e)))
  exact ⟨h.la, h.lb, h.ld, h.lm, fun i g m hg hm => (h.tk i g m hg hm).keep (ne g _ (h.aLt hg) (h.ta i g hg).2 (by simp)), h.ta, fun i g d m hg hd hm => (h.rk i g d m hg hd hm).keep (ne g _ (h.bLt hg) (h.tb i g hg).2 (by simp))
    (fun k hk => ne k _ (h.dLt hd hk).2 (h.td i d k hd hk) (by simp)), h.tb, h.td, own_keep h.va fun k hk => ne k _ (h.va.lt k hk).2 (h.ya k hk) (by simp), h.ya, ho, hy, Nat.le_trans h.sz hs⟩
theorem snoc_get {α : Type} {xs : List α} {v x : α} {i : Nat} (h : (xs ++ [v])[i]? = some x) : (xs[i]? = some x ∧ i < xs.length) ∨ (i = xs.length ∧ x = v) := by
  by_cases hi : i < xs.length
  · rw [List.getElem?_append_left hi] at h
    exact .inl ⟨h, hi⟩
  · have hj := (List.getElem?_eq_some_iff.1 h).1
    rw [List.length_append, List.length_singleton] at hj
    have : i = xs.length := by omega
    subst this
    exact .inr ⟨rfl, by simpa using h.symm⟩
/-- One pair more. -/
theorem Hv.more (h : Hv N vA vB LA LB A Bk ds ma mb O w) {g b : Nat} {d : Value} {m m' : List Nat} (hT : Tk m g w) (hR : Rk N m' b d w) (hg : N ≤ g) (hb : N ≤ b) (og : O g = (0, A.length)) (ob : O b = (1, A.length)) (od : ∀ k, d.ownBlock = some k → O k = (2, A.length)) :
    Hv N vA vB LA LB (A ++ [g]) (Bk ++ [b]) (ds ++ [d]) (ma ++ [m]) (mb ++ [m']) O w := by
  have h1 := h.la
  have h2 := h.lb
  have h3 := h.ld
  have h4 := h.lm
  refine ⟨by simp [h1], by simp [h2], by simp [h3], by simp [h4], fun i x y hx hy => ?_, fun i x hx => ?_, fun i x y z hx hy hz => ?_, fun i x hx => ?_, fun i x k hx hk => ?_, h.va, h.ya, h.vb, h.yb, h.sz⟩
  · rcases snoc_get hx with ⟨hx, hi⟩ | ⟨hi, rfl⟩
    · rw [List.getElem?_append_left (by omega)] at hy
      exact h.tk i x y hx hy
    · rcases snoc_get hy with ⟨_, hj⟩ | ⟨_, rfl⟩
      · omega
      · exact hT
  · rcases snoc_get hx with ⟨hx, hi⟩ | ⟨hi, rfl⟩
    · exact h.ta i x hx
    · exact ⟨hg, by rw [og, hi]⟩
  · rcases snoc_get hx with ⟨hx, hi⟩ | ⟨hi, rfl⟩
    · rw [List.getElem?_append_left (by omega)] at hy hz
      exact h.rk i x y z hx hy hz
    · rcases snoc_get hy with ⟨_, hj⟩ | ⟨_, rfl⟩
      · omega
      · rcases snoc_get hz with ⟨_, hj⟩ | ⟨_, rfl⟩
        · omega
        · exact hR
  · rcases snoc_get hx with ⟨hx, hi⟩ | ⟨hi, rfl⟩
    · exact h.tb i x hx
    · exact ⟨hb, by rw [ob, hi, h2]⟩
  · rcases snoc_get hx with ⟨hx, hi⟩ | ⟨hi, rfl⟩
    · exact h.td i x k hx hk
    · rw [od k hk, hi, h3]
end
end Go.Proofs.YtkppejaigodgiacDoor.Sha
