/- Recipes: the room's lists are written over. -/
import Derived.Test.YtcggaiplepekdaaRcV
namespace Go.Proofs.Ytcggaiplepekdaa
open Go.RowKit
theorem map_set_app {A : Type} (f : A → Array Value) (l : List A) (x m : A) (i : Nat) (hi : i < l.length) : ((l ++ [m]).map f).set i (f x) = ((l.set i x) ++ [m]).map f := by
  rw [← List.map_set, List.set_append_left _ _ hi]
theorem get_app {A : Type} (f : A → Array Value) (l : List A) (x m : A) (i : Nat) (hx : l[i]? = some x) : ((l ++ [m]).map f)[i]? = some (f x) := by
  have hi := (List.getElem?_eq_some_iff.1 hx).1
  rw [List.getElem?_map, List.getElem?_append_left hi, hx]
  rfl
/-- An output of the room is written over. -/
theorem Rl.setO {base : Nat} {W : World} {g m c : Nat} {n s a e l : Value} {us ls : List Value} {R : Rcp} (h : Rl base W (.slice (some ⟨g, 0, none⟩) m c) n s a e l us ls R) {i j : Nat} {x x' : Out} {v : S} (hx : R.o[i]? = some x) (hj : j < 4) (hx' : (oR x).setIfInBounds j (.string v) = oR x') : Rl base (W.setCell ⟨g, i * 4 + j, none⟩ (.string v)) (.slice (some ⟨g, 0, none⟩) m c) n s a e l us ls { R with o := R.o.set i x' } := by
  have hi := (List.getElem?_eq_some_iff.1 hx).1
  have := h.fo.setc i j _ (.string v) (get_app oR R.o x ONE i hx) hj rfl
  rw [hx', map_set_app oR R.o x' ONE i hi] at this
  exact ⟨this, h.fn.other h.fo (by decide), h.fs.other h.fo (by decide), h.fa.other h.fo (by decide), h.fe.other h.fo (by decide), h.fl.other h.fo (by decide), h.ul, h.ll, fun j x u v q1 q2 q3 => ⟨(h.each j x u v q1 q2 q3).1, (h.each j x u v q1 q2 q3).2.other h.fo (by decide)⟩, h.sep⟩
/-- A pair of the room is written over. -/
theorem Rl.setE {base : Nat} {W : World} {g m c : Nat} {o n s a l : Value} {us ls : List Value} {R : Rcp} (h : Rl base W o n s a (.slice (some ⟨g, 0, none⟩) m c) l us ls R) {i j : Nat} {x x' : Pai} {v : S} (hx : R.e[i]? = some x) (hj : j < 2) (hx' : (eR x).setIfInBounds j (.string v) = eR x') : Rl base (W.setCell ⟨g, i * 2 + j, none⟩ (.string v)) o n s a (.slice (some ⟨g, 0, none⟩) m c) l us ls { R with e := R.e.set i x' } := by
  have hi := (List.getElem?_eq_some_iff.1 hx).1
  have := h.fe.setc i j _ (.string v) (get_app eR R.e x PEE i hx) hj rfl
  rw [hx', map_set_app eR R.e x' PEE i hi] at this
  exact ⟨h.fo.other h.fe (by decide), h.fn.other h.fe (by decide), h.fs.other h.fe (by decide), h.fa.other h.fe (by decide), this, h.fl.other h.fe (by decide), h.ul, h.ll, fun j x u v q1 q2 q3 => ⟨(h.each j x u v q1 q2 q3).1, (h.each j x u v q1 q2 q3).2.other h.fe (by decide)⟩, h.sep⟩
theorem zip_set1 : ∀ (l : List (S × List S)) (us : List Value) (i : Nat) x u (v : S), l[i]? = some x → us[i]? = some u → List.zipWith nR (l.set i (v, x.2)) us = (List.zipWith nR l us).set i ((nR x u).setIfInBounds 0 (.string v))
  | [], us, i, x, u, v, h, _ => by simp at h
  | y :: l, [], i, x, u, v, _, h => by simp at h
  | y :: l, w :: us, 0, x, u, v, h1, h2 => by
    obtain rfl : y = x := by simpa using h1
    obtain rfl : w = u := by simpa using h2
    rfl
  | y :: l, w :: us, i + 1, x, u, v, h1, h2 => by
    have := zip_set1 l us i x u v (by simpa using h1) (by simpa using h2)
    show nR y w :: _ = nR y w :: _
    rw [this]
/-- An input's recipe is written over. -/
theorem Rl.setN {base : Nat} {W : World} {g m c : Nat} {o s a e l : Value} {us ls : List Value} {R : Rcp} (h : Rl base W o (.slice (some ⟨g, 0, none⟩) m c) s a e l us ls R) {i : Nat} {x : S × List S} {v : S} (hx : R.n[i]? = some x) : Rl base (W.setCell ⟨g, i * 2 + 0, none⟩ (.string v)) o (.slice (some ⟨g, 0, none⟩) m c) s a e l us ls { R with n := R.n.set i (v, x.2) } := by
  have hi := (List.getElem?_eq_some_iff.1 hx).1
  obtain ⟨u, hu⟩ : ∃ u, us[i]? = some u := ⟨_, List.getElem?_eq_getElem (by have := h.ul; omega)⟩
  have hz : (List.zipWith nR R.n us)[i]? = some (nR x u) := by rw [List.getElem?_zipWith, hx, hu]
  have hzl : i < (List.zipWith nR R.n us).length := (List.getElem?_eq_some_iff.1 hz).1
  have := h.fn.setc i 0 (nR x u) (.string v) (by rw [List.getElem?_append_left hzl]; exact hz) (by omega) rfl
  rw [List.set_append_left _ _ hzl, ← zip_set1 R.n us i x u v hx hu] at this
  refine ⟨h.fo.other h.fn (by decide), this, h.fs.other h.fn (by decide), h.fa.other h.fn (by decide), h.fe.other h.fn (by decide), h.fl.other h.fn (by decide), by rw [h.ul]; simp, by rw [h.ll]; simp, fun j y w z q1 q2 q3 => ?_, h.sep⟩
  obtain ⟨y', hy', e⟩ : ∃ y', R.n[j]? = some y' ∧ y.2 = y'.2 := by
    by_cases q : j = i
    · subst q
      rw [List.getElem?_set_self hi] at q1
      obtain rfl : (v, x.2) = y := by simpa using q1
      exact ⟨x, hx, rfl⟩
    · rw [List.getElem?_set_ne (fun z => q z.symm)] at q1
      exact ⟨y, q1, rfl⟩
  rw [e]
  exact ⟨(h.each j y' w z hy' q2 q3).1, (h.each j y' w z hy' q2 q3).2.other h.fn (by decide)⟩
/-- A source of the room is written over. -/
theorem Rl.setS {base : Nat} {W : World} {g m c : Nat} {o n a e l : Value} {us ls : List Value} {R : Rcp} (h : Rl base W o n (.slice (some ⟨g, 0, none⟩) m c) a e l us ls R) {i : Nat} {x v : S} (hx : R.s[i]? = some x) : Rl base (W.setCell ⟨g, i * 1 + 0, none⟩ (.string v)) o n (.slice (some ⟨g, 0, none⟩) m c) a e l us ls { R with s := R.s.set i v } := by
  have hi := (List.getElem?_eq_some_iff.1 hx).1
  have := h.fs.setc i 0 _ (.string v) (get_app sR R.s x BEH i hx) (by omega) rfl
  rw [show (sR x).setIfInBounds 0 (.string v) = sR v from rfl, map_set_app sR R.s v BEH i hi] at this
  obtain ⟨b1, b2, s1, s2, s3⟩ := h.sep
  have hg := s2 g rfl
  refine ⟨h.fo.other h.fs (by decide), h.fn.other h.fs (by decide), this, h.fa.apart (fun q => by have := s3 g q; omega), h.fe.other h.fs (by decide), h.fl.other h.fs (by decide), h.ul, h.ll, fun j x u v q1 q2 q3 => ⟨(h.each j x u v q1 q2 q3).1, (h.each j x u v q1 q2 q3).2.apart (fun q => by have := s1 j v g q3 q; omega)⟩, b1, b2, s1, s2, s3⟩
/-- An argument of the room is written over. -/
theorem Rl.setA {base : Nat} {W : World} {g m c : Nat} {o n s e l : Value} {us ls : List Value} {R : Rcp} (h : Rl base W o n s (.slice (some ⟨g, 0, none⟩) m c) e l us ls R) {i : Nat} {x v : S} (hx : R.a[i]? = some x) : Rl base (W.setCell ⟨g, i * 1 + 0, none⟩ (.string v)) o n s (.slice (some ⟨g, 0, none⟩) m c) e l us ls { R with a := R.a.set i v } := by
  have hi := (List.getElem?_eq_some_iff.1 hx).1
  have := h.fa.setc i 0 _ (.string v) (get_app sR R.a x BEH i hx) (by omega) rfl
  rw [show (sR x).setIfInBounds 0 (.string v) = sR v from rfl, map_set_app sR R.a v BEH i hi] at this
  obtain ⟨b1, b2, s1, s2, s3⟩ := h.sep
  have hg := s3 g rfl
  have hb : b1 ≤ b2 := by
    obtain ⟨sa, sc, hs, -⟩ := h.fs.form
    have hf := h.fs
    rw [hs] at hf
    obtain ⟨gs, rfl⟩ := hf.own (by simp)
    have := s2 gs (by rw [hs]; rfl)
    omega
  refine ⟨h.fo.other h.fa (by decide), h.fn.other h.fa (by decide), h.fs.apart (fun q => by have := s2 g q; omega), this, h.fe.other h.fa (by decide), h.fl.other h.fa (by decide), h.ul, h.ll, fun j x u v q1 q2 q3 => ⟨(h.each j x u v q1 q2 q3).1, (h.each j x u v q1 q2 q3).2.apart (fun q => by have := s1 j v g q3 q; omega)⟩, b1, b2, s1, s2, s3⟩
end Go.Proofs.Ytcggaiplepekdaa
