/- Recipes: copyOf. -/
import Derived.Test.YtceclpabdfncoaaDoorRcJb
import Derived.Test.YtceclpabdfncoaaDoorRcM
namespace Go.Proofs.YtceclpabdfncoaaDoor.Re
open Go.RowKit
theorem Sq.first {ix pre : List Nat} {p : Nat} {ws : Nat → World} {l : Array Bool} {Y : World} (h : Sq ix pre p ws l Y) (nd : ix.Nodup) (i : Nat) (hi : ix[0]? = some i) (hu : l.getD i true = false) (hp : p ≠ 0) : Y = ws 0 ∧ Sq ix pre p ws (l.setIfInBounds i true) (ws 1) := h.step nd 0 i hi hu (fun m' i' e => by omega) (fun e => absurd e hp)
theorem Sq.next {ix pre : List Nat} {p : Nat} {ws : Nat → World} {l : Array Bool} {Y : World} (h : Sq ix pre p ws l Y) (nd : ix.Nodup) (m i i' : Nat) (hi : ix[m + 1]? = some i) (hi' : ix[m]? = some i') (hu : l.getD i true = false) (hd : l.getD i' false = true) (hpre : p = m + 1 → ∀ k ∈ pre, l.getD k true = true) : Y = ws (m + 1) ∧ Sq ix pre p ws (l.setIfInBounds i true) (ws (m + 2)) :=
  h.step nd (m + 1) i hi hu (fun m' k e z => by
    obtain rfl : m = m' := by omega
    obtain rfl : i' = k := Option.some.inj (hi'.symm.trans z)
    exact dep_t hd) hpre
/-- A copy in the making: the first i inputs have lists of their own. -/
structure Cf (W : World) (R : Rcp) (us0 : List Value) (C : Array Value) (o n s a e : Value) (us : List Value) (i : Nat) (wr : World) : Prop where
  bx : Bx W C wr
  fo : Ol W.heap.size 48 4 wr o (R.o.map oR)
  fn : Ol W.heap.size 45 2 wr n (List.zipWith nR R.n us)
  fs : Ol W.heap.size 9 1 wr s (R.s.map sR)
  fa : Ol W.heap.size 9 1 wr a (R.a.map sR)
  fe : Ol W.heap.size 50 2 wr e (R.e.map eR)
  ul : us.length = R.n.length
  done : ∀ (j : Nat) x u, j < i → R.n[j]? = some x → us[j]? = some u → Ol W.heap.size 9 1 wr u (x.2.map sR)
  rest : ∀ j : Nat, i ≤ j → us[j]? = us0[j]?
theorem Cf.below {W : World} {R : Rcp} {us0 : List Value} {C : Array Value} {o n s a e : Value} {us : List Value} {i : Nat} {wr w' : World} (h : Cf W R us0 C o n s a e us i wr) (hb : Below wr.heap.size wr w') : Cf W R us0 C o n s a e us i w' :=
  ⟨h.bx.below hb, h.fo.below hb, h.fn.below hb, h.fs.below hb, h.fa.below hb, h.fe.below hb, h.ul, fun j x u q1 q2 q3 => (h.done j x u q1 q2 q3).below hb, h.rest⟩
theorem zip_set : ∀ (l : List (S × List S)) (us : List Value) (i : Nat) x u v, l[i]? = some x → us[i]? = some u → List.zipWith nR l (us.set i v) = (List.zipWith nR l us).set i ((nR x u).setIfInBounds 1 v)
  | [], us, i, x, u, v, h, _ => by simp at h
  | y :: l, [], i, x, u, v, _, h => by simp at h
  | y :: l, w :: us, 0, x, u, v, h1, h2 => by
    obtain rfl : y = x := by simpa using h1
    obtain rfl : w = u := by simpa using h2
    rfl
  | y :: l, w :: us, i + 1, x, u, v, h1, h2 => by
    have := zip_set l us i x u v (by simpa using h1) (by simpa using h2)
    show nR y w :: _ = nR y w :: _
    rw [this]
theorem Bx.other {W wr : World} {C : Array Value} {base e sz g n cap k : Nat} {v : Value} {l : List (Array Value)} (h : Bx W C wr) (ho : Ol base e sz wr (.slice (some ⟨g, 0, none⟩) n cap) l) (he : e ≠ 33) (hb : W.heap.size ≤ base) : Bx W C (wr.setCell ⟨g, k, none⟩ v) := by
  obtain ⟨h1, h2, cur, hc⟩ := ho.tag (g := g) rfl
  exact ⟨h.bel.setCell (by show W.heap.size ≤ g; omega) _, (heap_setCell_other _ _ _ _ (by show W.heap.size ≠ g; exact (tag_ne hc h.r0 he).symm)).trans h.r0, (heap_setCell_other _ _ _ _ (by show W.heap.size + 1 ≠ g; exact (tag_ne hc h.r1 he).symm)).trans h.r1⟩
theorem Cf.step {W : World} {R : Rcp} {us0 : List Value} {C : Array Value} {o s a e : Value} {g nn cap : Nat} {us : List Value} {i : Nat} {wr Y : World} (h : Cf W R us0 C o (.slice (some ⟨g, 0, none⟩) nn cap) s a e us i wr) (hb : Below wr.heap.size wr Y) {x : S × List S} {u v : Value} (hx : R.n[i]? = some x) (hu : us[i]? = some u) (hv : Ol wr.heap.size 9 1 Y v (x.2.map sR)) (h1 : v.oneCell' = true) :
    Cf W R us0 C o (.slice (some ⟨g, 0, none⟩) nn cap) s a e (us.set i v) (i + 1) (Y.setCell ⟨g, i * 2 + 1, none⟩ v) := by
  have hY := h.below hb
  have hz : (List.zipWith nR R.n us)[i]? = some (nR x u) := by rw [List.getElem?_zipWith, hx, hu]
  have hbase : W.heap.size ≤ wr.heap.size := h.bx.bel.size
  have hi : i < us.length := (List.getElem?_eq_some_iff.1 hu).1
  refine ⟨hY.bx.other hY.fn (by decide) (Nat.le_refl _), hY.fo.other hY.fn (by decide), ?_, hY.fs.other hY.fn (by decide), hY.fa.other hY.fn (by decide), hY.fe.other hY.fn (by decide), by rw [List.length_set]; exact h.ul, fun j y w hj hy hw => ?_, fun j hj => ?_⟩
  · rw [zip_set _ _ _ _ _ _ hx hu]
    exact hY.fn.setc i 1 _ v hz (by omega) h1
  · by_cases q : j = i
    · subst q
      rw [List.getElem?_set_self hi] at hw
      obtain rfl : v = w := by simpa using hw
      obtain rfl : x = y := Option.some.inj (hx.symm.trans hy)
      exact (hv.mono hbase).other hY.fn (by decide)
    · rw [List.getElem?_set_ne (by omega)] at hw
      exact (hY.done j y w (by omega) hy hw).other hY.fn (by decide)
  · rw [List.getElem?_set_ne (by omega)]
    exact h.rest j (by omega)
end Go.Proofs.YtceclpabdfncoaaDoor.Re
