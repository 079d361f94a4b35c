/- The statements' own helpers: padded, bytes, turned. -/
import Derived.Test.YtceclpabdfncoaaDoorSl
namespace Go.Proofs.YtceclpabdfncoaaDoor
open Go.RowKit
def marks : List Nat := [195, 60, 195, 60, 195, 60, 195, 60]
attribute [local go_sem ↓] toApp
theorem take_eq_succ {a b : List Nat} {k : Nat} (h : a.take k = b.take k) (ha : k < a.length) (hb : k < b.length) (he : a.getD k 0 = b.getD k 0) : a.take (k + 1) = b.take (k + 1) := by
  rw [List.take_succ_eq_append_getElem ha, List.take_succ_eq_append_getElem hb, h]
  simp only [List.getD, List.getElem?_eq_getElem ha, List.getElem?_eq_getElem hb, Option.getD_some] at he
  rw [he]
theorem not_u8 (x : Nat) (hx : x < 256) : bits BinOp.xor IntKind.u8 (if IntKind.u8.signed = true then -1 else IntKind.u8.max) (x : Int) = ((255 - x : Nat) : Int) := by
  show bits BinOp.xor IntKind.u8 255 (x : Int) = _
  rw [show (255 : Int) = ((255 : Nat) : Int) from rfl, u8_xor_nat 255 x (by decide) hx]
  congr 1
  have : ∀ y : Fin 256, 255 ^^^ y.val = 255 - y.val := by decide +kernel
  exact this ⟨x, hx⟩
/-- The first bytes of a block. -/
def Fst (g : Nat) (l : List Nat) (w : World) : Prop := ∃ cur : Array Value, w.heap[g]? = some (.cells cur 5 (0, 0)) ∧ ∀ j, j < l.length → cur[j]? = some (.int .u8 ((l.getD j 0 : Nat) : Int))
theorem Fst.byl {g c : Nat} {l : List Nat} {w : World} (h : Fst g l w) (hc : l.length ≤ c) (hm : c ≤ maxLen) : Byl (.slice (some ⟨g, 0, none⟩) l.length c) l w := by
  obtain ⟨cur, h1, h2⟩ := h
  exact .inr ⟨g, 0, c, rfl, hc, hm, (Array.getElem?_eq_some_iff.1 h1).1, fun j hj => by rw [Nat.zero_add, cell_of_row w _ _ _ _ _ h1]; exact h2 j hj⟩
theorem Fst.keep {g : Nat} {l : List Nat} {w w' : World} (h : Fst g l w) (hb : w'.heap[g]? = w.heap[g]?) : Fst g l w' := by
  obtain ⟨cur, h1, h2⟩ := h
  exact ⟨cur, hb.trans h1, h2⟩
theorem fst_own {w : World} {base n : Nat} {v : Value} {l : List Nat} (h : w.ownsRow base 5 1 v n (bs l).toList) (hn : 0 < n) : ∃ g c, v = .slice (some ⟨g, 0, none⟩) n c ∧ base ≤ g ∧ g < w.heap.size ∧ n ≤ c ∧ c ≤ maxLen ∧ Fst g l w := by
  obtain ⟨hl, ⟨_, h0⟩ | ⟨g, cap, cur, hv, hb, hg, hnc, hcm, hcs, htk⟩⟩ := h
  · omega
  · have hl0 : n = l.length := by simpa [bs] using hl.symm
    refine ⟨g, cap, hv, hb, (Array.getElem?_eq_some_iff.1 hg).1, hnc, hcm, cur, hg, fun j hj => ?_⟩
    have h1 : cur.toList[j]? = (bs l).toList[j]? := by rw [← htk, List.getElem?_take, if_pos (by omega)]
    rw [← Array.getElem?_toList, h1, Array.getElem?_toList, bs_get _ _ hj]
theorem Fst.take {g n : Nat} {l : List Nat} {w : World} (h : Fst g l w) : Fst g (l.take n) w := by
  obtain ⟨cur, h1, h2⟩ := h
  refine ⟨cur, h1, fun j hj => ?_⟩
  have hj2 : j < n ∧ j < l.length := by rw [List.length_take] at hj; omega
  rw [h2 j hj2.2]
  simp [List.getD, hj2.1]
end Go.Proofs.YtceclpabdfncoaaDoor
