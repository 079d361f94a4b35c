/- The laws' right: one input more. -/
import Derived.Test.YtceclpabdfncoaaDoorRwI
namespace Go.Proofs.YtceclpabdfncoaaDoor.Re
open Go.RowKit
theorem zip_snoc {α β γ : Type} (f : α → β → γ) (l : List α) (r : List β) (x : α) (y : β) (h : r.length = l.length) : List.zipWith f (l ++ [x]) (r ++ [y]) = List.zipWith f l r ++ [f x y] := by
  rw [List.zipWith_append h.symm]
  rfl
/-- One input more. -/
theorem Rt.addI {W : World} {C : Array Value} {q : Nat} {o n s a e : Value} {us : List Value} {R : Rcp} {X : World} (h : Rt W C q o n s a e us R X) (x : S) (ol : List S) (u : Value) (hu : Ol W.heap.size 9 1 X u (ol.map sR)) (hl : R.n.length < 10000) :
    ∃ a' n' c' V Z, (Builtin.append_ #[30, 30] 30 #[n, .slice (some ⟨X.heap.size, 0, none⟩) 1 1]).run Tryd.prog (X.alloc (.cells #[.string x, u] 45)) = .ok (.slice a' n' c') V ∧ V.cell? ⟨q, 1, none⟩ = some n ∧ V.frozen? ⟨q, 1, none⟩ = false ∧ V.setCell ⟨q, 1, none⟩ (.slice a' n' c') = Z ∧ Rt W C q o (.slice a' n' c') s a e (us ++ [u]) { R with n := R.n ++ [(x, ol)] } Z ∧ ∀ B M k kv, TL B M k X kv → TL B M k Z kv := by
  have hX : Below X.heap.size X (X.alloc (.cells #[.string x, u] 45)) := (Below.refl _ X).alloc (Nat.le_refl _) _
  have h1 := h.below hX
  have u1 := hu.below hX
  obtain ⟨ua, uc, rfl, -⟩ := hu.form
  obtain ⟨v2, V, r2, p2⟩ := run_apI (X.alloc (.cells #[.string x, .slice ua (ol.map sR).length uc] 45)) W.heap.size n (.slice (some ⟨X.heap.size, 0, none⟩) 1 1) _ [nR (x, ol) (.slice ua (ol.map sR).length uc)] h1.tw.fn (ls_one X (nR (x, ol) (.slice ua (ol.map sR).length uc)) 45 2 rfl (by simp [nR, Value.oneCell'])) (by unfold MX; have := h.tw.ul; simp; omega) h1.bel.size
  obtain ⟨a2, c2, e2, -⟩ := p2.1.form
  subst e2
  have nq : ∀ {g : Nat} {D : Array Value} {t : Nat}, (X.alloc (.cells #[.string x, .slice ua (ol.map sR).length uc] 45)).heap[g]? = some (.cells D t (0, 0)) → t ≠ 45 → V.heap[g]? = (X.alloc (.cells #[.string x, .slice ua (ol.map sR).length uc] 45)).heap[g]? := fun {g D t} hg ht => p2.2.1.block _ (Array.getElem?_eq_some_iff.1 hg).1 (fun qq => by
    obtain ⟨_, _, cur, hc⟩ := h1.tw.fn.tag qq.symm
    exact tag_ne hc hg (fun z => ht z.symm) rfl)
  have bV : Below W.heap.size W V := p2.bel h1.tw.fn h1.bel (Nat.le_refl _) (Nat.le_refl _)
  have rV1 := (nq h1.row (by decide)).trans h1.row
  have kp : ∀ {B e' sz : Nat} {v : Value} {l : List (Array Value)} (y : Value), Ol B e' sz (X.alloc (.cells #[.string x, .slice ua (ol.map sR).length uc] 45)) v l → e' ≠ 45 → e' ≠ 33 → Ol B e' sz (V.setCell ⟨q, 1, none⟩ y) v l := fun {B e' sz v l} y ho h1' h2' => ho.keep fun g hg => by
    obtain ⟨_, _, cur, hc⟩ := ho.tag hg
    exact (heap_setCell_other _ _ _ _ (by show g ≠ q; exact tag_ne hc h1.row h2')).trans (nq hc h1')
  have hq := h.hq
  have t := h1.tw
  refine ⟨a2, _, c2, V, _, r2, c1 rV1 rfl, frozen_of_row _ _ _ _ _ rV1, rfl, ⟨bV.setCell (by show W.heap.size ≤ q; omega) _, (heap_setCell_other _ _ _ _ (by show W.heap.size ≠ q; omega)).trans ((nq h1.box (by decide)).trans h1.box), (heap_setCell_other _ _ _ _ (by show W.heap.size + 1 ≠ q; omega)).trans ((nq h1.res (by decide)).trans h1.res), heap_setCell_same _ _ _ _ _ _ rV1, hq, ⟨kp _ t.fo (by decide) (by decide), ?_, kp _ t.fs (by decide) (by decide), kp _ t.fa (by decide) (by decide), kp _ t.fe (by decide) (by decide), by simp [t.ul], fun i y v z1 z2 => ?_⟩⟩, fun B M k kv ⟨O, z1, z2⟩ => ⟨O, kp _ (z1.below hX) (by decide) (by decide), z2⟩⟩
  · have pe := p2.1
    show Ol W.heap.size 45 2 _ _ (List.zipWith nR (R.n ++ [(x, ol)]) (us ++ [.slice ua (ol.map sR).length uc]))
    rw [zip_snoc nR R.n us _ _ t.ul]
    exact pe.keep fun g hg => by
      obtain ⟨_, _, cur, hc⟩ := pe.tag hg
      exact heap_setCell_other _ _ _ _ (by show g ≠ q; exact tag_ne hc rV1 (by decide))
  · by_cases hi : i < R.n.length
    · rw [List.getElem?_append_left hi] at z1
      rw [List.getElem?_append_left (by have := t.ul; omega)] at z2
      exact kp _ (t.each i y v z1 z2) (by decide) (by decide)
    · have hi2 : i = R.n.length := by
        have := (List.getElem?_eq_some_iff.1 z1).1
        simp at this
        omega
      subst hi2
      rw [List.getElem?_append_right (Nat.le_refl _), Nat.sub_self] at z1
      rw [← t.ul, List.getElem?_append_right (Nat.le_refl _), Nat.sub_self] at z2
      cases z1
      cases z2
      exact kp _ u1 (by decide) (by decide)
/-- The sources are written. -/
theorem Rt.setS {W : World} {C : Array Value} {q : Nat} {o n s a e : Value} {us : List Value} {R : Rcp} {X : World} (h : Rt W C q o n s a e us R X) (sv : Value) (L : List S) (hv : Ol W.heap.size 9 1 X sv (L.map sR)) : X.cell? ⟨q, 2, none⟩ = some s ∧ X.frozen? ⟨q, 2, none⟩ = false ∧ Rt W C q o n sv a e us { R with s := L } (X.setCell ⟨q, 2, none⟩ sv) := by
  have hq := h.hq
  have kp : ∀ {B e' sz : Nat} {v : Value} {l : List (Array Value)}, Ol B e' sz X v l → e' ≠ 33 → Ol B e' sz (X.setCell ⟨q, 2, none⟩ sv) v l := fun {B e' sz v l} ho h2 => ho.keep fun g hg => by
    obtain ⟨_, _, cur, hc⟩ := ho.tag hg
    exact heap_setCell_other _ _ _ _ (by show g ≠ q; exact tag_ne hc h.row h2)
  exact ⟨h.cr rfl, frozen_of_row _ _ _ _ _ h.row, h.bel.setCell (by show W.heap.size ≤ q; omega) _, (heap_setCell_other _ _ _ _ (by show W.heap.size ≠ q; omega)).trans h.box, (heap_setCell_other _ _ _ _ (by show W.heap.size + 1 ≠ q; omega)).trans h.res, heap_setCell_same _ _ _ _ _ _ h.row, hq, ⟨kp h.tw.fo (by decide), kp h.tw.fn (by decide), kp hv (by decide), kp h.tw.fa (by decide), kp h.tw.fe (by decide), h.tw.ul, fun i x u z1 z2 => kp (h.tw.each i x u z1 z2) (by decide)⟩⟩
end Go.Proofs.YtceclpabdfncoaaDoor.Re
