/- Recipes: a recipe of one's own; the document's twin. -/
import Derived.Test.YtcggaiplepekdaaRcE
namespace Go.Proofs.Ytcggaiplepekdaa
open Go.RowKit
/-- A recipe all of whose lists are one's own. -/
structure Tw (base : Nat) (W : World) (o n s a e : Value) (us : List Value) (R : Rcp) : Prop where
  fo : Ol base 39 4 W o (R.o.map oR)
  fn : Ol base 42 2 W n (List.zipWith nR R.n us)
  fs : Ol base 9 1 W s (R.s.map sR)
  fa : Ol base 9 1 W a (R.a.map sR)
  fe : Ol base 44 2 W e (R.e.map eR)
  ul : us.length = R.n.length
  each : ∀ (i : Nat) x u, R.n[i]? = some x → us[i]? = some u → Ol base 9 1 W u (x.2.map sR)
theorem Tw.rc {base : Nat} {W : World} {o n s a e : Value} {us : List Value} {R : Rcp} (h : Tw base W o n s a e us R) : Rc W o n s a e R := ⟨h.fo.ls, ⟨us, h.ul, h.fn.ls, fun i x u q1 q2 => (h.each i x u q1 q2).ls⟩, h.fs.ls, h.fa.ls, h.fe.ls⟩
/-- A recipe in a box, its answer's place behind it. -/
structure Bx (W : World) (c : Array Value) (wr : World) : Prop where
  bel : Below W.heap.size W wr
  r0 : wr.heap[W.heap.size]? = some (.cells c 27 (0, 0))
  r1 : wr.heap[W.heap.size + 1]? = some (.cells #[.slice none 0 0, .slice none 0 0, .slice none 0 0, .string ⟨#[]⟩, .string ⟨#[]⟩, .slice none 0 0, .slice none 0 0] 27 (0, 0))
theorem Bx.below {W wr w' : World} {c : Array Value} (h : Bx W c wr) (hb : Below wr.heap.size wr w') : Bx W c w' := ⟨h.bel.trans (hb.mono h.bel.size), (hb.block _ (Array.getElem?_eq_some_iff.1 h.r0).1).trans h.r0, (hb.block _ (Array.getElem?_eq_some_iff.1 h.r1).1).trans h.r1⟩
theorem Bx.set {W wr : World} {c : Array Value} (h : Bx W c wr) (k : Nat) (v : Value) : wr.frozen? ⟨W.heap.size, k, none⟩ = false ∧ Bx W (c.setIfInBounds k v) (wr.setCell ⟨W.heap.size, k, none⟩ v) :=
  ⟨frozen_of_row _ _ _ _ _ h.r0, h.bel.setCell (Nat.le_refl _) _, heap_setCell_same _ _ _ _ _ _ h.r0, (heap_setCell_other _ _ _ _ (by show W.heap.size + 1 ≠ W.heap.size; omega)).trans h.r1⟩
/-- The box is written into: no list is touched. -/
theorem Ol.box {base e sz : Nat} {W wr : World} {v u : Value} {c : Array Value} {l : List (Array Value)} (h : Ol base e sz wr v l) (hb : Bx W c wr) (he : e ≠ 27) (k : Nat) : Ol base e sz (wr.setCell ⟨W.heap.size, k, none⟩ u) v l := h.keep fun g hg => by
  obtain ⟨_, _, cur, hc⟩ := h.tag hg
  exact heap_setCell_other _ _ _ _ (by show g ≠ W.heap.size; exact tag_ne hc hb.r0 he)
theorem Ls.box {sz : Nat} {W wr : World} {v u : Value} {c : Array Value} {l : List (Array Value)} (h : Ls W v sz l) (hb : Bx W c wr) (k : Nat) : Ls (wr.setCell ⟨W.heap.size, k, none⟩ u) v sz l := h.below (hb.bel.setCell (Nat.le_refl _) _)
/-- Inputs in the making: the first i. -/
structure Nm (base : Nat) (wr : World) (lv : Value) (us : List Value) (l : List (S × List S)) (i : Nat) : Prop where
  own : Ol base 42 2 wr lv (List.zipWith nR (l.take i) us)
  ul : us.length = i
  each : ∀ (j : Nat) x u, j < i → l[j]? = some x → us[j]? = some u → Ol base 9 1 wr u (x.2.map sR)
theorem Nm.step {base : Nat} {wr w1 w2 : World} {lv lv' u : Value} {us : List Value} {l : List (S × List S)} {i : Nat} {x : S × List S} (h : Nm base wr lv us l i) (hx : l[i]? = some x) (hb : Below wr.heap.size wr w1) (hu : Ol base 9 1 w1 u (x.2.map sR)) (hp : ApP base 42 2 w1 lv (List.zipWith nR (l.take i) us ++ [nR x u]) lv' w2) : Nm base w2 lv' (us ++ [u]) l (i + 1) := by
  have hi : i < l.length := (List.getElem?_eq_some_iff.1 hx).1
  have ho1 := h.own.below hb
  refine ⟨?_, by rw [List.length_append, h.ul]; rfl, fun j y v hj hy hv => ?_⟩
  · have e : List.zipWith nR (l.take (i + 1)) (us ++ [u]) = List.zipWith nR (l.take i) us ++ [nR x u] := by
      rw [List.take_add_one, hx]
      show List.zipWith nR (l.take i ++ [x]) (us ++ [u]) = _
      rw [List.zipWith_append (by rw [List.length_take, h.ul]; omega)]
      rfl
    rw [e]
    exact hp.1
  · by_cases q : j < i
    · rw [List.getElem?_append_left (by rw [h.ul]; exact q)] at hv
      exact ((h.each j y v q hy hv).below hb).grown ho1 hp.2.1 (by decide)
    · obtain rfl : j = i := by omega
      rw [List.getElem?_append_right (by rw [h.ul]; exact Nat.le_refl _), h.ul, Nat.sub_self] at hv
      obtain rfl : u = v := by simpa using hv
      obtain rfl : x = y := Option.some.inj (hx.symm.trans hy)
      exact hu.grown ho1 hp.2.1 (by decide)
theorem Nm.below {base : Nat} {wr w1 : World} {lv : Value} {us : List Value} {l : List (S × List S)} {i : Nat} (h : Nm base wr lv us l i) (hb : Below wr.heap.size wr w1) : Nm base w1 lv us l i := ⟨h.own.below hb, h.ul, fun j x u q1 q2 q3 => (h.each j x u q1 q2 q3).below hb⟩
theorem Nm.box {base : Nat} {W wr : World} {c : Array Value} {lv v : Value} {us : List Value} {l : List (S × List S)} {i : Nat} (h : Nm base wr lv us l i) (hb : Bx W c wr) (k : Nat) : Nm base (wr.setCell ⟨W.heap.size, k, none⟩ v) lv us l i := ⟨h.own.box hb (by decide) k, h.ul, fun j x u q1 q2 q3 => (h.each j x u q1 q2 q3).box hb (by decide) k⟩
theorem Bx.grown {W wr w' : World} {c : Array Value} {base e sz : Nat} {v : Value} {l : List (Array Value)} (h : Bx W c wr) (ho : Ol base e sz wr v l) (hg : wr.grownBy w' v.ownBlock) (he : e ≠ 27) (hbase : W.heap.size ≤ base) : Bx W c w' := by
  have kb : ∀ (g : Nat) D, wr.heap[g]? = some (.cells D 27 (0, 0)) → w'.heap[g]? = wr.heap[g]? := fun g D hD => hg.block g (Array.getElem?_eq_some_iff.1 hD).1 (fun q => by
    obtain ⟨_, _, cur, hc⟩ := ho.tag q.symm
    exact tag_ne hc hD he rfl)
  refine ⟨⟨hg.os.trans h.bel.os, hg.tape.trans h.bel.tape, hg.output.trans h.bel.output, Nat.le_trans h.bel.size hg.size, fun j hj => (hg.block j (Nat.lt_of_lt_of_le hj h.bel.size) (fun q => by
    have := (ho.tag q.symm).1
    omega)).trans (h.bel.block j hj)⟩, (kb _ _ h.r0).trans h.r0, (kb _ _ h.r1).trans h.r1⟩
end Go.Proofs.Ytcggaiplepekdaa
