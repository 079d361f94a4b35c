/- JournalSafe: the law's state. -/
import Derived.Test.YtdiflmckjpmngaaJvM
import Derived.Test.YtdiflmckjpmngaaJvN
namespace Go.Proofs.Ytdiflmckjpmngaa
open Go.RowKit
/-- A pair of numbers lies beside all chunks. -/
theorem Ch.setK {Q : Nat → Prop} {W : World} {zb : Nat} {a b : Int} (hz : W.heap[zb]? = some (.cells #[.int .i64 a, .int .i64 b] 33 (0, 0))) (o : Nat) (u : Value) {p : Option Addr} {d : List Nat} (h : Ch Q W p d) : Ch Q (W.setCell ⟨zb, o, none⟩ u) p d := by
  have oth : ∀ j, j ≠ zb → (W.setCell ⟨zb, o, none⟩ u).heap[j]? = W.heap[j]? := fun j hj => heap_setCell_other _ _ _ _ (by show j ≠ zb; exact hj)
  induction h with
  | nil => exact .nil
  | cons g bb cap k ah pre D h1 h2 h3 h4 h5 h6 h7 h8 h9 _ ih =>
    have ng : g ≠ zb := fun e => by
      subst e
      have := hz.symm.trans h3
      injection this with e1
      injection e1 with e1 e2
      cases e2
    have nb : bb ≠ zb := fun e => by
      subst e
      obtain ⟨y, hy⟩ : ∃ y, (bs D)[0]? = some y := ⟨_, List.getElem?_eq_getElem (by rw [bs_len]; omega)⟩
      have c := h6 0 y hy
      rw [cell_of_row _ _ _ _ _ _ hz] at c
      have : y = .int .i64 a := by simpa using c.symm
      obtain ⟨q, _, rfl⟩ := List.mem_map.1 (List.mem_of_getElem? hy)
      cases this
    exact .cons g bb cap k ah pre D h1 h2 ((oth g ng).trans h3) h4 h5 (fun j y hy => (World.cell?_of_block (w := W) (a := ⟨bb, j, none⟩) (oth bb nb)).trans (h6 j y hy)) h7 h8 h9 ih
theorem Dv.setK {lo v : Nat} {W : World} {lv : Value} {f : Array Value} {ms : List (Array Value)} {sp : List Sp} (h : Dv lo W v lv f ms sp) {zb : Nat} {a b : Int} (hz : W.heap[zb]? = some (.cells #[.int .i64 a, .int .i64 b] 33 (0, 0))) (o : Nat) (u : Value) : Dv lo (W.setCell ⟨zb, o, none⟩ u) v lv f ms sp := by
  have oth : ∀ j, j ≠ zb → (W.setCell ⟨zb, o, none⟩ u).heap[j]? = W.heap[j]? := fun j hj => heap_setCell_other _ _ _ _ (by show j ≠ zb; exact hj)
  have nv : v ≠ zb := fun e => by
    subst e
    have := hz.symm.trans h.row
    injection this with e1
    injection e1 with e1 e2
    cases e2
  have hs : (W.setCell ⟨zb, o, none⟩ u).heap.size = W.heap.size := by simp
  refine ⟨(oth v nv).trans h.row, ?_, h.len, fun i m s h1 h2 => ?_, h.lov⟩
  · obtain ⟨h0, h1⟩ := h.own
    refine ⟨h0, ?_⟩
    rcases h1 with h1 | ⟨g, cap, cur, rfl, hB, hg, hr⟩
    · exact .inl h1
    · have ng : g ≠ zb := fun e => by
        subst e
        have := hz.symm.trans hg
        injection this with e1
        injection e1 with e1 e2
        cases e2
      exact .inr ⟨g, cap, cur, rfl, hB, (oth g ng).trans hg, hr⟩
  · obtain ⟨p0, p1, q1, ⟨pa, qa, ca, da⟩, ⟨pb, qb, cb, db⟩⟩ := h.each i m s h1 h2
    have hq : ∀ j, Qd lo W v lv j → Qd lo (W.setCell ⟨zb, o, none⟩ u) v lv j := fun j hj => ⟨hj.1, by rw [hs]; exact hj.2.1, hj.2.2⟩
    exact ⟨p0, p1, q1, ⟨pa, qa, (ca.setK hz o u).keep (fun _ _ => rfl) hq, da⟩, ⟨pb, qb, (cb.setK hz o u).keep (fun _ _ => rfl) hq, db⟩⟩
/-- Where the law stands. -/
structure Sx (W w : World) (v sb zb : Nat) (lv : Value) (f : Array Value) (ms : List (Array Value)) (sp : List Sp) (x : Sp) (B : Nat) : Prop where
  dv : Dv W.heap.size w v lv f ms sp
  cur : sp[ms.length]? = some x
  cnt : ms.length ≤ 2 + B
  l0 : x.1.1.length ≤ 3 + 300 * B
  l1 : x.2.1.length ≤ 3 + 300 * B
  bel : Below W.heap.size W w
  rs : w.heap[sb]? = some (.cells #[.int .i64 (x.1.2 : Int), .int .i64 (x.2.2 : Int)] 33 (0, 0))
  rz : w.heap[zb]? = some (.cells #[.int .i64 (x.1.1.length : Int), .int .i64 (x.2.1.length : Int)] 33 (0, 0))
  los : W.heap.size ≤ sb
  loz : W.heap.size ≤ zb
  ne : sb ≠ zb
theorem Sx.below {W w w' : World} {v sb zb : Nat} {lv : Value} {f : Array Value} {ms : List (Array Value)} {sp : List Sp} {x : Sp} {B : Nat} (h : Sx W w v sb zb lv f ms sp x B) (hb : Below w.heap.size w w') : Sx W w' v sb zb lv f ms sp x B :=
  ⟨h.dv.below hb, h.cur, h.cnt, h.l0, h.l1, h.bel.trans (hb.mono h.bel.size), (hb.block _ (Array.getElem?_eq_some_iff.1 h.rs).1).trans h.rs, (hb.block _ (Array.getElem?_eq_some_iff.1 h.rz).1).trans h.rz, h.los, h.loz, h.ne⟩
theorem Sx.more {W w : World} {v sb zb : Nat} {lv : Value} {f : Array Value} {ms : List (Array Value)} {sp : List Sp} {x : Sp} {B B' : Nat} (h : Sx W w v sb zb lv f ms sp x B) (hB : B ≤ B') : Sx W w v sb zb lv f ms sp x B' :=
  ⟨h.dv, h.cur, by have := h.cnt; omega, by have := h.l0; omega, by have := h.l1; omega, h.bel, h.rs, h.rz, h.los, h.loz, h.ne⟩
/-- Behind an operation, ahead of the book-keeping. -/
structure Sy (W w : World) (v sb zb : Nat) (lv : Value) (f : Array Value) (ms : List (Array Value)) (sp : List Sp) (x y : Sp) (B : Nat) : Prop where
  dv : Dv W.heap.size w v lv f ms sp
  cur : sp[ms.length]? = some y
  cnt : ms.length ≤ 2 + B
  bel : Below W.heap.size W w
  rs : w.heap[sb]? = some (.cells #[.int .i64 (x.1.2 : Int), .int .i64 (x.2.2 : Int)] 33 (0, 0))
  rz : w.heap[zb]? = some (.cells #[.int .i64 (x.1.1.length : Int), .int .i64 (x.2.1.length : Int)] 33 (0, 0))
theorem Sx.op {W w w' : World} {v sb zb : Nat} {lv : Value} {f : Array Value} {ms : List (Array Value)} {sp : List Sp} {x y : Sp} {B : Nat} {e : Ending} (h : Sx W w v sb zb lv f ms sp x B) (hd : DoP W.heap.size w v lv f ms sp y e w') : ∃ lv' ms' sp', Sy W w' v sb zb lv' f ms' sp' x y (B + 1) := by
  obtain ⟨-, lv', m', h1, h2⟩ := hd
  have ne : ∀ g a b, w.heap[g]? = some (.cells #[.int .i64 a, .int .i64 b] 33 (0, 0)) → g ≠ v ∧ lv.ownBlock ≠ some g := fun g a b hg => by
    refine ⟨fun e => ?_, fun e => ?_⟩
    · subst e
      have := hg.symm.trans h.dv.row
      injection this with e1
      injection e1 with e1 e2
      cases e2
    · obtain ⟨-, -, cur, hc⟩ := h.dv.ownrow e
      have := hg.symm.trans hc
      injection this with e1
      injection e1 with e1 e2
      cases e2
  have hz := h.bel.size
  refine ⟨lv', ms ++ [m'], sp ++ [y], h1, ?_, by rw [List.length_append]; have := h.cnt; simp; omega, ?_, ?_, ?_⟩
  · rw [List.length_append, List.getElem?_append_right (by rw [h.dv.len]; simp)]
    rw [h.dv.len]
    simp
  · refine ⟨h2.os.trans h.bel.os, h2.tape.trans h.bel.tape, h2.output.trans h.bel.output, Nat.le_trans hz h2.size, fun j hj => (h2.block j (by omega) (by have := h.dv.lov; omega) (fun e => by have := (h.dv.ownrow e).2.1; omega)).trans (h.bel.block j hj)⟩
  · exact (h2.block _ (Array.getElem?_eq_some_iff.1 h.rs).1 (ne _ _ _ h.rs).1 (ne _ _ _ h.rs).2).trans h.rs
  · exact (h2.block _ (Array.getElem?_eq_some_iff.1 h.rz).1 (ne _ _ _ h.rz).1 (ne _ _ _ h.rz).2).trans h.rz
/-- The book-keeping: a pair's number. -/
theorem Sy.setZ {W w : World} {v sb zb : Nat} {lv : Value} {f : Array Value} {ms : List (Array Value)} {sp : List Sp} {x y : Sp} {B : Nat} (h : Sy W w v sb zb lv f ms sp x y B) (hlz : W.heap.size ≤ zb) (hne : sb ≠ zb) (o n : Nat) (x' : Sp) (hs : x'.1.2 = x.1.2 ∧ x'.2.2 = x.2.2) (hz : (#[.int .i64 (x.1.1.length : Int), .int .i64 (x.2.1.length : Int)] : Array Value).setIfInBounds o (.int .i64 (n : Int)) = #[.int .i64 (x'.1.1.length : Int), .int .i64 (x'.2.1.length : Int)]) :
    w.frozen? ⟨zb, o, none⟩ = false ∧ Sy W (w.setCell ⟨zb, o, none⟩ (.int .i64 (n : Int))) v sb zb lv f ms sp x' y B := by
  refine ⟨frozen_of_row _ _ _ _ _ h.rz, h.dv.setK h.rz o _, h.cur, h.cnt, h.bel.setCell (by show W.heap.size ≤ zb; exact hlz) _, ?_, ?_⟩
  · rw [hs.1, hs.2]
    exact (heap_setCell_other _ _ _ _ (by show sb ≠ zb; exact hne)).trans h.rs
  · rw [← hz]
    exact heap_setCell_same _ _ _ _ _ _ h.rz
theorem Sy.setS {W w : World} {v sb zb : Nat} {lv : Value} {f : Array Value} {ms : List (Array Value)} {sp : List Sp} {x y : Sp} {B : Nat} (h : Sy W w v sb zb lv f ms sp x y B) (hls : W.heap.size ≤ sb) (hne : sb ≠ zb) (o n : Nat) (x' : Sp) (hs : x'.1.1.length = x.1.1.length ∧ x'.2.1.length = x.2.1.length) (hz : (#[.int .i64 (x.1.2 : Int), .int .i64 (x.2.2 : Int)] : Array Value).setIfInBounds o (.int .i64 (n : Int)) = #[.int .i64 (x'.1.2 : Int), .int .i64 (x'.2.2 : Int)]) :
    w.frozen? ⟨sb, o, none⟩ = false ∧ Sy W (w.setCell ⟨sb, o, none⟩ (.int .i64 (n : Int))) v sb zb lv f ms sp x' y B := by
  refine ⟨frozen_of_row _ _ _ _ _ h.rs, h.dv.setK h.rs o _, h.cur, h.cnt, h.bel.setCell (by show W.heap.size ≤ sb; exact hls) _, ?_, ?_⟩
  · rw [← hz]
    exact heap_setCell_same _ _ _ _ _ _ h.rs
  · rw [hs.1, hs.2]
    exact (heap_setCell_other _ _ _ _ (by show zb ≠ sb; exact fun e => hne e.symm)).trans h.rz
theorem Sy.done {W w : World} {v sb zb : Nat} {lv : Value} {f : Array Value} {ms : List (Array Value)} {sp : List Sp} {x y : Sp} {B : Nat} (h : Sy W w v sb zb lv f ms sp x y B) (hlz : W.heap.size ≤ zb) (hls : W.heap.size ≤ sb) (hne : sb ≠ zb) (e : x.1.2 = y.1.2 ∧ x.2.2 = y.2.2 ∧ x.1.1.length = y.1.1.length ∧ x.2.1.length = y.2.1.length) (h0 : y.1.1.length ≤ 3 + 300 * B) (h1 : y.2.1.length ≤ 3 + 300 * B) : Sx W w v sb zb lv f ms sp y B :=
  ⟨h.dv, h.cur, h.cnt, h0, h1, h.bel, by rw [← e.1, ← e.2.1]; exact h.rs, by rw [← e.2.2.1, ← e.2.2.2]; exact h.rz, hls, hlz, hne⟩
/-- The beginning. -/
theorem dv_new {W w : World} (h : NdR W w) : Dv W.heap.size w (W.heap.size + 1) (.slice none 0 0) zM [] [(([], 0), ([], 0))] := by
  refine ⟨h.2, World.ownsRow_nil _ _ _ _, rfl, fun i m s h1 h2 => ?_, by omega⟩
  have hi : i = 0 := by have := (List.getElem?_eq_some_iff.1 h1).1; simpa using this
  subst hi
  obtain rfl : zM = m := by simpa using h1
  obtain rfl : (([], 0), ([], 0)) = s := by simpa using h2
  exact ⟨none, none, rfl, ⟨none, rfl, .nil, Nat.le_refl _, Nat.zero_le _⟩, ⟨none, rfl, .nil, Nat.le_refl _, Nat.zero_le _⟩⟩
end Go.Proofs.Ytdiflmckjpmngaa
