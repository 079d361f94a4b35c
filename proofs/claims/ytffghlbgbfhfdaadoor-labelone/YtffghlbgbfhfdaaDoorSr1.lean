/- LabelSorts: labels as elements, their order. -/
import Derived.Test.YtffghlbgbfhfdaaDoorRd
import Derived.Test.YtffghlbgbfhfdaaDoorSrM
import Derived.Shelf.SlSortCmp.WholeK
import Derived.Shelf.SlSortCmp.NoneTotal
namespace Go.Proofs.YtffghlbgbfhfdaaDoor
open Go.RowKit Go.Shelf Go.Sort
/-- A label. -/
structure Lb where
  h : List Nat
  s : ByteArray
  hl : h.length = 20
deriving DecidableEq
instance : Inhabited Lb := ⟨⟨z20, ⟨#[]⟩, rfl⟩⟩
theorem Lb.ext' {x y : Lb} (h1 : x.h = y.h) (h2 : x.s = y.s) : x = y := by cases x; cases y; simp_all
def enc (x : Lb) : List Value := (lab x.h x.s).toList
theorem enc_len (x : Lb) : (enc x).length = 21 := by
  have := lab_size x.h x.s x.hl
  simpa [enc] using this
theorem enc_arr (x : Lb) : (enc x).toArray = lab x.h x.s := by simp [enc]
theorem enc_one (x : Lb) : ∀ v ∈ enc x, v.oneCell' = true := by
  intro v hv
  simp only [enc, lab, bs, Array.toList_append, List.mem_append, List.mem_map, List.mem_cons, List.not_mem_nil, or_false] at hv
  rcases hv with ⟨n, _, rfl⟩ | rfl <;> rfl
def cf (x y : Lb) : Int := cmpV x.h y.h x.s y.s
def key (x : Lb) : List Nat := x.h.reverse ++ x.s.data.toList.map UInt8.toNat
theorem cmpH_lex (a b : List Nat) : ∀ k, k ≤ a.length → k ≤ b.length → cmpH a b k = lexC (a.take k).reverse (b.take k).reverse
  | 0, _, _ => by simp [cmpH, lexC]
  | k + 1, h1, h2 => by
    have ea : (a.take (k + 1)).reverse = a.getD k 0 :: (a.take k).reverse := by
      rw [List.take_succ_eq_append_getElem (by omega), List.reverse_append]
      simp [List.getD, List.getElem?_eq_getElem (show k < a.length by omega)]
    have eb : (b.take (k + 1)).reverse = b.getD k 0 :: (b.take k).reverse := by
      rw [List.take_succ_eq_append_getElem (by omega), List.reverse_append]
      simp [List.getD, List.getElem?_eq_getElem (show k < b.length by omega)]
    rw [ea, eb, cmpH, lexC, cmpH_lex a b k (by omega) (by omega)]
theorem cf_key (x y : Lb) : cf x y = lexC (key x) (key y) := by
  unfold cf cmpV key
  have h1 := x.hl
  have h2 := y.hl
  rw [lex_app _ _ (by simp [h1, h2]), cmpH_lex _ _ 20 (by omega) (by omega), List.take_of_length_le (by omega), List.take_of_length_le (by omega), lex_bytes]
theorem key_inj {x y : Lb} (h : key x = key y) : x = y := by
  unfold key at h
  have h1 := x.hl
  have h2 := y.hl
  obtain ⟨e1, e2⟩ := List.append_inj h (by simp [h1, h2])
  refine Lb.ext' (List.reverse_inj.1 e1) ?_
  have := map_nat_inj e2
  exact ByteArray.ext (Array.toList_inj.1 this)
def lt (x y : Lb) : Bool := ltOf cf x y
theorem lt_key (x y : Lb) : ltOf cf x y = decide (lexC (key x) (key y) < 0) := by unfold ltOf; rw [cf_key]
theorem swo : SWO (ltOf cf) where
  irrefl x := by rw [lt_key, lex_self]; rfl
  trans x y z h1 h2 := by
    rw [lt_key] at h1 h2 ⊢
    exact decide_eq_true (lex_trans (of_decide_eq_true h1) (of_decide_eq_true h2))
  ntrans x y z h1 h2 := by
    rw [lt_key] at h1 h2 ⊢
    have h1 := of_decide_eq_false h1
    have h2 := of_decide_eq_false h2
    refine decide_eq_false fun h3 => ?_
    by_cases e1 : lexC (key x) (key y) = 0
    · rw [lex_zero e1] at h3; omega
    · by_cases e2 : lexC (key y) (key z) = 0
      · rw [← lex_zero e2] at h3; omega
      · have a1 := lex_anti (key x) (key y)
        have a2 := lex_anti (key y) (key z)
        have a3 := lex_anti (key x) (key z)
        have := lex_trans (show lexC (key z) (key y) < 0 by omega) (show lexC (key y) (key x) < 0 by omega)
        omega
theorem ltT (x y : Lb) (h1 : ltOf cf x y = false) (h2 : ltOf cf y x = false) : x = y := by
  rw [lt_key] at h1 h2
  have h1 := of_decide_eq_false h1
  have h2 := of_decide_eq_false h2
  have a1 := lex_anti (key x) (key y)
  exact key_inj (lex_zero (by omega))
end Go.Proofs.YtffghlbgbfhfdaaDoor
