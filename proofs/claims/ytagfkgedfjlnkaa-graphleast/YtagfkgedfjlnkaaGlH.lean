/- Graphs reduced: what lies there. -/
import Derived.Test.YtagfkgedfjlnkaaGlF
import Derived.Test.YtagfkgedfjlnkaaGlG
import Derived.Deep.MidRow
import Derived.Deep.Upon
import Derived.Lib.LazyBuf
namespace Go.Proofs.Ytagfkgedfjlnkaa
open Go.RowKit GM Gl
def setL (cur : Array Value) : Nat → List Value → Array Value
  | _, [] => cur
  | o, v :: r => setL (cur.setIfInBounds o v) (o + 1) r
theorem setL_size : ∀ (vs : List Value) (cur : Array Value) (o : Nat), (setL cur o vs).size = cur.size
  | [], _, _ => rfl
  | v :: r, cur, o => by rw [setL, setL_size r]; simp
theorem setL_out : ∀ (vs : List Value) (cur : Array Value) (o k : Nat), k < o ∨ o + vs.length ≤ k → (setL cur o vs)[k]? = cur[k]?
  | [], _, _, _, _ => rfl
  | v :: r, cur, o, k, h => by
    have hl : (v :: r).length = r.length + 1 := rfl
    rw [setL, setL_out r _ (o + 1) k (by omega), Array.getElem?_setIfInBounds, if_neg (by omega)]
theorem setL_in : ∀ (vs : List Value) (cur : Array Value) (o j : Nat), o + vs.length ≤ cur.size → j < vs.length → (setL cur o vs)[o + j]? = vs[j]?
  | [], _, _, _, _, h => by simp at h
  | v :: r, cur, o, 0, h, _ => by
    have hl : (v :: r).length = r.length + 1 := rfl
    rw [setL, setL_out r _ (o + 1) (o + 0) (by omega), Array.getElem?_setIfInBounds, if_pos (by omega), if_pos (by omega)]
    rfl
  | v :: r, cur, o, j + 1, h, hj => by
    have hl : (v :: r).length = r.length + 1 := rfl
    rw [setL, show o + (j + 1) = (o + 1) + j by omega, setL_in r _ (o + 1) j (by simp; omega) (by omega)]
    simp
theorem heap_setCells_same : ∀ (vs : List Value) (w : World) (b o : Nat) (cur : Array Value) (t : TypeId), w.heap[b]? = some (.cells cur t (0, 0)) → (w.setCells b o vs).heap[b]? = some (.cells (setL cur o vs) t (0, 0))
  | [], _, _, _, _, _, h => h
  | v :: r, w, b, o, cur, t, h => by
    rw [World.setCells, setL]
    exact heap_setCells_same r _ b (o + 1) _ t (heap_setCell_same _ _ _ _ _ _ h)
/-- Sets of nodes, one behind the other. -/
structure Mw (gB N : Nat) (G : Nat → List Nat) (w : World) : Prop where
  row : ∃ cur : Array Value, w.heap[gB]? = some (.cells cur 51 (0, 0)) ∧ cur.size = N * 16 ∧ ∀ j, j < N → ∀ i, i < 16 → cur[j * 16 + i]? = some (.int .u64 (((G j).getD i 0 : Nat) : Int))
theorem Mw.get {gB N : Nat} {G : Nat → List Nat} {w : World} (h : Mw gB N G w) (j i : Nat) (hj : j < N) (hi : i < 16) : w.cell? ⟨gB, j * 16 + i, none⟩ = some (.int .u64 (((G j).getD i 0 : Nat) : Int)) ∧ w.frozen? ⟨gB, j * 16 + i, none⟩ = false := by
  obtain ⟨cur, h1, h2, h3⟩ := h.row
  exact ⟨(cell_of_row w gB _ _ _ _ h1).trans (h3 j hj i hi), frozen_of_row w _ _ _ _ h1⟩
theorem Mw.keep {gB N : Nat} {G : Nat → List Nat} {w w' : World} (h : Mw gB N G w) (hk : w'.heap[gB]? = w.heap[gB]?) : Mw gB N G w' := by
  obtain ⟨cur, h1, h2⟩ := h.row
  exact ⟨cur, hk.trans h1, h2⟩
theorem Mw.put {gB N : Nat} {G : Nat → List Nat} {w : World} (h : Mw gB N G w) (a i x : Nat) (ha : a < N) (hi : i < 16) (hl : (G a).length = 16) : Mw gB N (upd G a ((G a).set i x)) (w.setCell ⟨gB, a * 16 + i, none⟩ (.int .u64 (x : Int))) := by
  obtain ⟨cur, h1, h2, h3⟩ := h.row
  refine ⟨_, heap_setCell_same _ _ _ _ _ _ h1, by simpa using h2, fun j hj k hk => ?_⟩
  rw [Array.getElem?_setIfInBounds]
  have hs : a * 16 + i < cur.size := by rw [h2]; omega
  by_cases e : a * 16 + i = j * 16 + k
  · have e1 : j = a := by omega
    have e2 : k = i := by omega
    subst e1 e2
    rw [if_pos rfl, if_pos hs, upd_same]
    simp [List.getD, hl, hk]
  · rw [if_neg e, h3 j hj k hk]
    by_cases e1 : j = a
    · subst e1
      have e2 : ¬ i = k := fun q => e (by omega)
      rw [upd_same]
      simp [List.getD, e2]
    · rw [upd_other _ _ _ _ e1]
theorem Mw.lay {gB N : Nat} {G : Nat → List Nat} {w : World} (h : Mw gB N G w) (a : Nat) (A : List Nat) (ha : a < N) (hl : A.length = 16) : Mw gB N (upd G a A) (w.setCells gB (a * 16) (uw A).toList) := by
  obtain ⟨cur, h1, h2, h3⟩ := h.row
  have lu : (uw A).toList.length = 16 := by simp [uw, hl]
  refine ⟨_, heap_setCells_same _ _ _ _ _ _ h1, by rw [setL_size]; exact h2, fun j hj k hk => ?_⟩
  by_cases e : j = a
  · subst e
    rw [setL_in _ _ _ k (by omega) (by omega), upd_same, Array.getElem?_toList, uw_get A k (by omega)]
  · rw [setL_out _ _ _ _ (by omega), h3 j hj k hk, upd_other _ _ _ _ e]
/-- Lists with memory of their own stay where sets are changed. -/
theorem Rws.keepT {g N : Nat} {F : Nat → List Nat} {V : Nat → Value} {w w' : World} (h : Rws g N F V w) (hb : ∀ (k : Nat) (cur : Array Value) (t : TypeId), w.heap[k]? = some (.cells cur t (0, 0)) → t ≠ 51 → w'.heap[k]? = w.heap[k]?) : Rws g N F V w' := by
  obtain ⟨cur, h1, h2, h3⟩ := h.row
  refine ⟨⟨cur, (hb g cur _ h1 (by decide)).trans h1, h2, h3⟩, fun j hj => own_keep2 (h.own j hj) fun k hk => ?_, h.apart⟩
  obtain ⟨h0, hw⟩ := h.own j hj
  rcases hw with ⟨e, -⟩ | ⟨b, cap, cu, e, -, hg, -⟩
  · rw [e] at hk; cases hk
  · rw [e] at hk
    have : b = k := Option.some.inj hk
    subst this
    exact hb b cu _ hg (by decide)
/-- A reduction under way. -/
structure Rd (w : World) (N gO gB fF : Nat) (Lo G : Nat → List Nat) (A : List Nat) (V : Nat → Value) (X : World) : Prop where
  bel : Below w.heap.size w X
  out : Rws gO N Lo V X
  mks : Mw gB N G X
  fr : X.heap[fF]? = some (.cells (uw A) 51 (0, 0))
  g1 : w.heap.size ≤ gO
  g2 : gO < gB
  g3 : gB < fF
theorem Rd.jn {w : World} {N gO gB fF : Nat} {Lo G : Nat → List Nat} {A A' : List Nat} {V : Nat → Value} {X X' : World} (h : Rd w N gO gB fF Lo G A V X) (hj : Jn fF A' X X') : Rd w N gO gB fF Lo G A' V X' := by
  have h1 := h.g1
  have h2 := h.g2
  have h3 := h.g3
  refine ⟨⟨hj.os.trans h.bel.os, hj.tape.trans h.bel.tape, hj.output.trans h.bel.output, by rw [hj.size]; exact h.bel.size, fun k hk => (hj.blk k (by omega)).trans (h.bel.block k hk)⟩, h.out.keepT fun k cur t hk ht => hj.blk k fun e => ?_, h.mks.keep (hj.blk gB (by omega)), hj.row, h1, h2, h3⟩
  subst e
  have := hk.symm.trans h.fr
  injection this with this
  injection this with _ e2
  exact ht e2
theorem Rd.mwrite {w : World} {N gO gB fF : Nat} {Lo G G' : Nat → List Nat} {A : List Nat} {V : Nat → Value} {X X' : World} (h : Rd w N gO gB fF Lo G A V X) (hm : Mw gB N G' X') (hk : ∀ k, k ≠ gB → k < X.heap.size → X'.heap[k]? = X.heap[k]?) (hs : X'.heap.size = X.heap.size) (ho : X'.os = X.os ∧ X'.tape = X.tape ∧ X'.output = X.output) : Rd w N gO gB fF Lo G' A V X' := by
  have h1 := h.g1
  have h2 := h.g2
  have h3 := h.g3
  have hf := (Array.getElem?_eq_some_iff.1 h.fr).1
  refine ⟨⟨ho.1.trans h.bel.os, ho.2.1.trans h.bel.tape, ho.2.2.trans h.bel.output, by rw [hs]; exact h.bel.size, fun k q => (hk k (by omega) (by have := h.bel.size; omega)).trans (h.bel.block k q)⟩, h.out.keepT fun k cur t q ht => hk k (fun e => ?_) (Array.getElem?_eq_some_iff.1 q).1, hm, (hk fF (by omega) hf).trans h.fr, h1, h2, h3⟩
  subst e
  obtain ⟨cu, c1, -⟩ := h.mks.row
  have := q.symm.trans c1
  injection this with this
  injection this with _ e2
  exact ht e2
theorem Rd.drew {w : World} {N gO gB fF : Nat} {Lo G : Nat → List Nat} {A : List Nat} {V : Nat → Value} {X : World} (h : Rd w N gO gB fF Lo G A V X) : Rd w N gO gB fF Lo G A V X.drew := ⟨⟨h.bel.os, h.bel.tape, h.bel.output, h.bel.size, h.bel.block⟩, h.out.keepT fun _ _ _ _ _ => rfl, h.mks.keep rfl, h.fr, h.g1, h.g2, h.g3⟩
/-- One more is left. -/
theorem Rd.add {w : World} {N gO gB fF : Nat} {Lo G : Nat → List Nat} {A : List Nat} {V : Nat → Value} {X : World} (h : Rd w N gO gB fF Lo G A V X) (a x : Nat) (ha : a < N) (hl : (Lo a).length ≤ 1000000) :
    ∃ o2 c2 W2 Z, (apI 38 #[V a, .slice (some ⟨X.heap.size, 0, none⟩) 1 1]).run Try.prog (X.alloc (.cells #[.int .i64 (x : Int)] 3)) = .ok (.slice o2 ((Lo a).length + 1) c2) W2 ∧ W2.cell? ⟨gO, a, none⟩ = some (V a) ∧ W2.frozen? ⟨gO, a, none⟩ = false ∧ W2.setCell ⟨gO, a, none⟩ (.slice o2 ((Lo a).length + 1) c2) = Z ∧ Rd w N gO gB fF (upd Lo a (Lo a ++ [x])) G A (upd V a (.slice o2 ((Lo a).length + 1) c2)) Z := by
  have h1 := h.g1
  have h2 := h.g2
  have h3 := h.g3
  have hf := (Array.getElem?_eq_some_iff.1 h.fr).1
  obtain ⟨v', W2, sA, cA, fA, RA, bA, oA⟩ := h.out.add2 a x ha (by omega)
  obtain ⟨o2, c2, rfl⟩ : ∃ o2 c2, v' = .slice o2 ((Lo a).length + 1) c2 := by
    have := RA.own a ha
    rw [upd_same, upd_same, List.length_append, List.length_singleton] at this
    exact own_size this
  have nt : ∀ (k : Nat) (cur : Array Value), X.heap[k]? = some (.cells cur 51 (0, 0)) → ¬ (V a).ownBlock = some k := fun k cur q e => by
    obtain ⟨h0, hw⟩ := h.out.own a ha
    rcases hw with ⟨e', -⟩ | ⟨b, cap, cu, e', -, hg, -⟩
    · rw [e'] at e; cases e
    · rw [e'] at e
      have : b = k := Option.some.inj e
      subst this
      have := q.symm.trans hg
      injection this with this
      injection this with _ e2
      exact absurd e2 (by decide)
  obtain ⟨cu, c1, -⟩ := h.mks.row
  refine ⟨o2, c2, W2, _, sA, cA, fA, rfl, h.bel.trans (bA _ h1), RA, h.mks.keep ?_, ?_, h1, h2, h3⟩
  · exact (heap_setCell_other _ _ _ _ (by show gB ≠ gO; omega)).trans (oA gB (by omega) (nt gB cu c1))
  · exact (heap_setCell_other _ _ _ _ (by show fF ≠ gO; omega)).trans ((oA fF hf (nt fF _ h.fr)).trans h.fr)
end Go.Proofs.Ytagfkgedfjlnkaa
