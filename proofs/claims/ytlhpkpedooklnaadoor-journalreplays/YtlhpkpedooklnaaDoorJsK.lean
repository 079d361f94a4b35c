/- JournalReplays: the document's Replay. Made by a program. -/
import Derived.Test.YtlhpkpedooklnaaDoorJsJ
namespace Go.Proofs.YtlhpkpedooklnaaDoor
open Go.RowKit
open JM
theorem results_Rd (tmps : Array Value) (w : World) (sb : Nat) (C : Array Value) (v3 v4 v5 : Value) (hC : C.size = 6)
    (hp : tmps.getD 2 undef = .pointer (some ⟨sb, 0, none⟩)) (h3 : tmps.getD 3 undef = v3) (h4 : tmps.getD 4 undef = v4) (h5 : tmps.getD 5 undef = v5) (hg : w.heap[sb]? = some (.cells C 30 (0, 0))) :
    (results Tryd.f6 tmps).run Tryd.prog w = .ok (.tuple #[.agg C, v3, v4, v5]) w := by
  have hp' : tmps[2]?.getD undef = .pointer (some ⟨sb, 0, none⟩) := by simpa using hp
  have e3 : tmps[3]?.getD undef = v3 := by simpa using h3
  have e4 : tmps[4]?.getD undef = v4 := by simpa using h4
  have e5 : tmps[5]?.getD undef = v5 := by simpa using h5
  simp [results, Tryd.results6, hp', e3, e4, e5, asAddr, run_loadVar_row w sb 30 30 C (0, 0) _ hg Tryd.underlying30 rfl (by rw [sizeSt, hC])]
theorem st_Td (w : World) (g o : Nat) (c : Array Value) (hc : c.size = 8) (h1 : c.all (·.oneCell') = true) (ht : w.there g o 8) : (stTd (.pointer (some ⟨g, o, none⟩)) (.agg c)).run Tryd.prog w = .ok () (w.setCells g o c.toList) := by
  have := run_storeAt_mid (P := Tryd.prog) w g o 45 c (by rw [hc]; exact ht) (by rw [sizeTd, hc]) h1
  simpa [stTd] using this
def ar16 (x0 x1 x2 x3 x4 x5 x6 x7 y0 y1 y2 y3 y4 y5 y6 y7 : Value) : Array Value := #[x0, x1, x2, x3, x4, x5, x6, x7, y0, y1, y2, y3, y4, y5, y6, y7]
theorem ar16_there {w : World} {g : Nat} {x0 x1 x2 x3 x4 x5 x6 x7 y0 y1 y2 y3 y4 y5 y6 y7 : Value} (h : w.heap[g]? = some (.cells (ar16 x0 x1 x2 x3 x4 x5 x6 x7 y0 y1 y2 y3 y4 y5 y6 y7) 46 (0, 0))) : w.there g 0 8 ∧ w.there g 8 8 := by
  refine ⟨fun j hj => ?_, fun j hj => ?_⟩
  · have : w.cell? ⟨g, 0 + j, none⟩ = (ar16 x0 x1 x2 x3 x4 x5 x6 x7 y0 y1 y2 y3 y4 y5 y6 y7)[0 + j]? := cell_of_row _ _ _ _ _ _ h
    refine ⟨?_, frozen_of_row _ _ _ _ _ h⟩
    rw [this, Array.getElem?_eq_getElem (by show 0 + j < 16; omega)]
    rfl
  · have : w.cell? ⟨g, 8 + j, none⟩ = (ar16 x0 x1 x2 x3 x4 x5 x6 x7 y0 y1 y2 y3 y4 y5 y6 y7)[8 + j]? := cell_of_row _ _ _ _ _ _ h
    refine ⟨?_, frozen_of_row _ _ _ _ _ h⟩
    rw [this, Array.getElem?_eq_getElem (by show 8 + j < 16; omega)]
    rfl
theorem ar16_set0 {w : World} {g : Nat} {x0 x1 x2 x3 x4 x5 x6 x7 y0 y1 y2 y3 y4 y5 y6 y7 : Value} (s0 s1 s2 s3 s4 s5 s6 s7 : Value) (h : w.heap[g]? = some (.cells (ar16 x0 x1 x2 x3 x4 x5 x6 x7 y0 y1 y2 y3 y4 y5 y6 y7) 46 (0, 0))) :
    (w.setCells g 0 [s0, s1, s2, s3, s4, s5, s6, s7]).heap[g]? = some (.cells (ar16 s0 s1 s2 s3 s4 s5 s6 s7 y0 y1 y2 y3 y4 y5 y6 y7) 46 (0, 0)) ∧ But g w (w.setCells g 0 [s0, s1, s2, s3, s4, s5, s6, s7]) := by
  have e0 := heap_setCell_same w g 0 _ _ s0 h
  have e1 := heap_setCell_same _ g 1 _ _ s1 e0
  have e2 := heap_setCell_same _ g 2 _ _ s2 e1
  have e3 := heap_setCell_same _ g 3 _ _ s3 e2
  have e4 := heap_setCell_same _ g 4 _ _ s4 e3
  have e5 := heap_setCell_same _ g 5 _ _ s5 e4
  have e6 := heap_setCell_same _ g 6 _ _ s6 e5
  have e7 := heap_setCell_same _ g 7 _ _ s7 e6
  exact ⟨e7.trans (by kernel_rfl), ((((((((But.refl g w).set 0 s0).set 1 s1).set 2 s2).set 3 s3).set 4 s4).set 5 s5).set 6 s6).set 7 s7⟩
theorem ar16_set1 {w : World} {g : Nat} {x0 x1 x2 x3 x4 x5 x6 x7 y0 y1 y2 y3 y4 y5 y6 y7 : Value} (s0 s1 s2 s3 s4 s5 s6 s7 : Value) (h : w.heap[g]? = some (.cells (ar16 x0 x1 x2 x3 x4 x5 x6 x7 y0 y1 y2 y3 y4 y5 y6 y7) 46 (0, 0))) :
    (w.setCells g 8 [s0, s1, s2, s3, s4, s5, s6, s7]).heap[g]? = some (.cells (ar16 x0 x1 x2 x3 x4 x5 x6 x7 s0 s1 s2 s3 s4 s5 s6 s7) 46 (0, 0)) ∧ But g w (w.setCells g 8 [s0, s1, s2, s3, s4, s5, s6, s7]) := by
  have e0 := heap_setCell_same w g 8 _ _ s0 h
  have e1 := heap_setCell_same _ g 9 _ _ s1 e0
  have e2 := heap_setCell_same _ g 10 _ _ s2 e1
  have e3 := heap_setCell_same _ g 11 _ _ s3 e2
  have e4 := heap_setCell_same _ g 12 _ _ s4 e3
  have e5 := heap_setCell_same _ g 13 _ _ s5 e4
  have e6 := heap_setCell_same _ g 14 _ _ s6 e5
  have e7 := heap_setCell_same _ g 15 _ _ s7 e6
  exact ⟨e7.trans (by kernel_rfl), ((((((((But.refl g w).set 8 s0).set 9 s1).set 10 s2).set 11 s3).set 12 s4).set 13 s5).set 14 s6).set 15 s7⟩
theorem ar16_range {w : World} {g : Nat} {x0 x1 x2 x3 x4 x5 x6 x7 y0 y1 y2 y3 y4 y5 y6 y7 : Value} (h : w.heap[g]? = some (.cells (ar16 x0 x1 x2 x3 x4 x5 x6 x7 y0 y1 y2 y3 y4 y5 y6 y7) 46 (0, 0))) : w.rangeAt g 0 (#[x0, x1, x2, x3, x4, x5, x6, x7] : Array Value).toList ∧ w.rangeAt g 8 (#[y0, y1, y2, y3, y4, y5, y6, y7] : Array Value).toList := by
  have a := World.rangeAt_of_block h 0 8
  have b := World.rangeAt_of_block h 8 8
  exact ⟨by simpa [ar16] using a, by simpa [ar16] using b⟩
theorem TdP.keep {B : Nat} {w w' : World} {l : List Nat} {c : Array Value} (h : TdP B w l c) (hk : Stay B (fun t => t = 5 ∨ t = 22 ∨ t = 27) w w') : TdP B w' l c := by
  obtain ⟨ab, at_, cb, ct, stt, pl, h1, h2, h3, h4⟩ := h
  exact ⟨ab, at_, cb, ct, stt, pl, h1, h2.keep (fun k c t hB ht hc => hk k c t hB (ht.elim .inl (fun h => .inr (.inl h))) hc), h3.keep hk, h4⟩
theorem TdP.mono {B B' : Nat} {w : World} {l : List Nat} {c : Array Value} (h : TdP B w l c) (hb : B' ≤ B) : TdP B' w l c := by
  obtain ⟨ab, at_, cb, ct, stt, pl, h1, h2, h3, h4⟩ := h
  exact ⟨ab, at_, cb, ct, stt, pl, h1, h2.mono hb, h3.mono hb, h4⟩
def Okd (B : Nat) (w : World) (l : List Nat) (c : Array Value) : Prop := ¬ 67108864 < l.length ∧ (file crcN l).2 = none ∧ TdP B w l c
theorem Okd.keep {B : Nat} {w w' : World} {l : List Nat} {c : Array Value} (h : Okd B w l c) (hk : Stay B (fun t => t = 5 ∨ t = 22 ∨ t = 27) w w') : Okd B w' l c := ⟨h.1, h.2.1, h.2.2.keep hk⟩
theorem tysT : ∀ t : Nat, (t = 5 ∨ t = 22 ∨ t = 27) → t ≠ 46 := fun t ht => by rcases ht with ht | ht | ht <;> (subst ht; decide)
end Go.Proofs.YtlhpkpedooklnaaDoor
