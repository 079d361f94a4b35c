/- JournalReplays: Replay of the code. -/
import Derived.Test.YtfimaflglnemdaaDoorJqV
import Derived.Test.YtfimaflglnemdaaDoorJrZ9
namespace Go.Proofs.YtfimaflglnemdaaDoor
open Go.RowKit
open JM
theorem al3 (W : World) (a b c : Obj) : (((W.alloc a).alloc b).alloc c).heap[W.heap.size]? = some a ∧ (((W.alloc a).alloc b).alloc c).heap[W.heap.size + 1]? = some b ∧ (((W.alloc a).alloc b).alloc c).heap[W.heap.size + 1 + 1]? = some c := by
  have s1 : (W.alloc a).heap.size = W.heap.size + 1 := by simp
  have s2 : ((W.alloc a).alloc b).heap.size = W.heap.size + 1 + 1 := by simp
  have n1 := heap_alloc_new W a
  have n2 := heap_alloc_new (W.alloc a) b
  have n3 := heap_alloc_new ((W.alloc a).alloc b) c
  rw [s1] at n2
  rw [s2] at n3
  exact ⟨(heap_alloc_old _ _ (h := by omega)).trans ((heap_alloc_old _ _ (h := by omega)).trans n1), (heap_alloc_old _ _ (h := by omega)).trans n2, n3⟩
def zB : Array Value := #[.bool false, .int .i64 0]
theorem results_Rp (tmps : Array Value) (w : World) (sb : Nat) (C : Array Value) (v3 v4 v5 : Value) (hC : C.size = 6)
    (hp : tmps.getD 2 undef = .pointer (some ⟨sb, 0, none⟩)) (h3 : tmps.getD 3 undef = v3) (h4 : tmps.getD 4 undef = v4) (h5 : tmps.getD 5 undef = v5) (hg : w.heap[sb]? = some (.cells C 47 (0, 0))) :
    (results Tryd.f28 tmps).run Tryd.prog w = .ok (.tuple #[.agg C, v3, v4, v5]) w := by
  have hp' : tmps[2]?.getD undef = .pointer (some ⟨sb, 0, none⟩) := by simpa using hp
  have e3 : tmps[3]?.getD undef = v3 := by simpa using h3
  have e4 : tmps[4]?.getD undef = v4 := by simpa using h4
  have e5 : tmps[5]?.getD undef = v5 := by simpa using h5
  simp [results, Tryd.results28, hp', e3, e4, e5, asAddr, run_loadVar_row w sb 47 47 C (0, 0) _ hg Tryd.underlying47 rfl (by rw [sizeSt, hC])]
/-- A story and a breach, laid down anew. -/
theorem two_world (w : World) (tS tB : Array Value) (h6 : tS.size = 6) (h2 : tB.size = 2) (o6 : tS.all (·.oneCell') = true) (o2 : tB.all (·.oneCell') = true) : ∃ V1 V, (stSt (.pointer (some ⟨w.heap.size, 0, none⟩)) (.agg tS)).run Tryd.prog ((w.alloc (.cells #[.int .i64 0, .int .i64 0, .int .i64 0, .int .i64 0, .slice none 0 0, .slice none 0 0] 47)).alloc (.cells #[.bool false, .int .i64 0] 112)) = .ok () V1 ∧ (stBr (.pointer (some ⟨w.heap.size + 1, 0, none⟩)) (.agg tB)).run Tryd.prog V1 = .ok () V ∧ V.heap[w.heap.size]? = some (.cells tS 47 (0, 0)) ∧ V.heap[w.heap.size + 1]? = some (.cells tB 112 (0, 0)) ∧ Below w.heap.size w V ∧ V.heap.size = w.heap.size + 1 + 1 := by
  obtain ⟨X, hX⟩ : ∃ X, (w.alloc (.cells #[.int .i64 0, .int .i64 0, .int .i64 0, .int .i64 0, .slice none 0 0, .slice none 0 0] 47)).alloc (.cells #[.bool false, .int .i64 0] 112) = X := ⟨_, rfl⟩
  have x0 : X.heap[w.heap.size]? = some (.cells zS 47 (0, 0)) := by rw [← hX]; exact row2 _ _ _
  have x1 : X.heap[w.heap.size + 1]? = some (.cells zB 112 (0, 0)) := by rw [← hX]; exact row2n _ _ _
  have xb : Below w.heap.size w X := by rw [← hX]; exact below2 _ _ _
  have xs : X.heap.size = w.heap.size + 1 + 1 := by rw [← hX]; simp
  rw [hX]
  have y1 : (X.setRow w.heap.size tS).heap[w.heap.size + 1]? = some (.cells zB 112 (0, 0)) := (setRow_other _ _ _ _ (by omega)).trans x1
  refine ⟨X.setRow w.heap.size tS, (X.setRow w.heap.size tS).setRow (w.heap.size + 1) tB, st_StR X _ zS tS rfl h6 o6 x0, st_Br _ _ zB tB rfl h2 o2 y1, (setRow_other _ _ _ _ (by omega)).trans (setRow_heap _ _ _ _ _ _ x0), setRow_heap _ _ _ _ _ _ y1, ?_, ?_⟩
  · exact ⟨xb.os, xb.tape, xb.output, by rw [size_setRow, size_setRow]; exact xb.size, fun k hk => (setRow_other _ _ _ _ (by omega)).trans ((setRow_other _ _ _ _ (by omega)).trans (xb.block k hk))⟩
  · rw [size_setRow, size_setRow, xs]
def ar12 (x0 x1 x2 x3 x4 x5 y0 y1 y2 y3 y4 y5 : Value) : Array Value := #[x0, x1, x2, x3, x4, x5, y0, y1, y2, y3, y4, y5]
theorem ar_there {w : World} {g : Nat} {x0 x1 x2 x3 x4 x5 y0 y1 y2 y3 y4 y5 : Value} (h : w.heap[g]? = some (.cells (ar12 x0 x1 x2 x3 x4 x5 y0 y1 y2 y3 y4 y5) 110 (0, 0))) : w.there g 0 6 ∧ w.there g 6 6 := by
  refine ⟨fun j hj => ?_, fun j hj => ?_⟩
  · have : w.cell? ⟨g, 0 + j, none⟩ = (ar12 x0 x1 x2 x3 x4 x5 y0 y1 y2 y3 y4 y5)[0 + j]? := cell_of_row _ _ _ _ _ _ h
    refine ⟨?_, frozen_of_row _ _ _ _ _ h⟩
    rw [this, Array.getElem?_eq_getElem (by show 0 + j < 12; omega)]
    rfl
  · have : w.cell? ⟨g, 6 + j, none⟩ = (ar12 x0 x1 x2 x3 x4 x5 y0 y1 y2 y3 y4 y5)[6 + j]? := cell_of_row _ _ _ _ _ _ h
    refine ⟨?_, frozen_of_row _ _ _ _ _ h⟩
    rw [this, Array.getElem?_eq_getElem (by show 6 + j < 12; omega)]
    rfl
theorem ar_set0 {w : World} {g : Nat} {x0 x1 x2 x3 x4 x5 y0 y1 y2 y3 y4 y5 : Value} (s0 s1 s2 s3 s4 s5 : Value) (h : w.heap[g]? = some (.cells (ar12 x0 x1 x2 x3 x4 x5 y0 y1 y2 y3 y4 y5) 110 (0, 0))) :
    (w.setCells g 0 [s0, s1, s2, s3, s4, s5]).heap[g]? = some (.cells (ar12 s0 s1 s2 s3 s4 s5 y0 y1 y2 y3 y4 y5) 110 (0, 0)) ∧ But g w (w.setCells g 0 [s0, s1, s2, s3, s4, s5]) := by
  have e0 := heap_setCell_same w g 0 _ _ s0 h
  have e1 := heap_setCell_same _ g 1 _ _ s1 e0
  have e2 := heap_setCell_same _ g 2 _ _ s2 e1
  have e3 := heap_setCell_same _ g 3 _ _ s3 e2
  have e4 := heap_setCell_same _ g 4 _ _ s4 e3
  have e5 := heap_setCell_same _ g 5 _ _ s5 e4
  exact ⟨e5.trans rfl, (((((((But.refl g w).set 0 s0).set 1 s1).set 2 s2).set 3 s3).set 4 s4).set 5 s5)⟩
theorem ar_set1 {w : World} {g : Nat} {x0 x1 x2 x3 x4 x5 y0 y1 y2 y3 y4 y5 : Value} (s0 s1 s2 s3 s4 s5 : Value) (h : w.heap[g]? = some (.cells (ar12 x0 x1 x2 x3 x4 x5 y0 y1 y2 y3 y4 y5) 110 (0, 0))) :
    (w.setCells g 6 [s0, s1, s2, s3, s4, s5]).heap[g]? = some (.cells (ar12 x0 x1 x2 x3 x4 x5 s0 s1 s2 s3 s4 s5) 110 (0, 0)) ∧ But g w (w.setCells g 6 [s0, s1, s2, s3, s4, s5]) := by
  have e0 := heap_setCell_same w g 6 _ _ s0 h
  have e1 := heap_setCell_same _ g 7 _ _ s1 e0
  have e2 := heap_setCell_same _ g 8 _ _ s2 e1
  have e3 := heap_setCell_same _ g 9 _ _ s3 e2
  have e4 := heap_setCell_same _ g 10 _ _ s4 e3
  have e5 := heap_setCell_same _ g 11 _ _ s5 e4
  exact ⟨e5.trans rfl, (((((((But.refl g w).set 6 s0).set 7 s1).set 8 s2).set 9 s3).set 10 s4).set 11 s5)⟩
theorem ar_range {w : World} {g : Nat} {x0 x1 x2 x3 x4 x5 y0 y1 y2 y3 y4 y5 : Value} (h : w.heap[g]? = some (.cells (ar12 x0 x1 x2 x3 x4 x5 y0 y1 y2 y3 y4 y5) 110 (0, 0))) : w.rangeAt g 0 (#[x0, x1, x2, x3, x4, x5] : Array Value).toList ∧ w.rangeAt g 6 (#[y0, y1, y2, y3, y4, y5] : Array Value).toList := by
  have a := World.rangeAt_of_block h 0 6
  have b := World.rangeAt_of_block h 6 6
  exact ⟨by simpa [ar12] using a, by simpa [ar12] using b⟩
/-- What is known of a file that was read and is well. -/
def Okf (B fl : Nat) (w : World) (l : List Nat) (x0 x1 x2 x3 x4 x5 : Value) : Prop := ¬ 67108864 < l.length ∧ (file crcN l).2 = none ∧ Told B fl w (file crcN l).1 x0 x1 x2 x3 x4 x5
theorem Okf.keep {B fl : Nat} {w w' : World} {l : List Nat} {x0 x1 x2 x3 x4 x5 : Value} (h : Okf B fl w l x0 x1 x2 x3 x4 x5) (hk : Stay B (fun t => t = 5 ∨ t = 23 ∨ t = 27) w w') : Okf B fl w' l x0 x1 x2 x3 x4 x5 := ⟨h.1, h.2.1, h.2.2.keep hk⟩
end Go.Proofs.YtfimaflglnemdaaDoor
