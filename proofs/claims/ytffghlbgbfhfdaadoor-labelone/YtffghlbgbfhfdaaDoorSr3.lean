/- LabelSorts: Compact. -/
import Derived.Test.YtffghlbgbfhfdaaDoorSr2
import Derived.Lib.SliceRun
import Derived.Deep.MidRow
namespace Go.Proofs.YtffghlbgbfhfdaaDoor
open Go.RowKit Go.Shelf Go.Sort
/-- Labels that lie in a row, one behind the other. -/
def Lr (g o : Nat) (D : List Lb) (w : World) : Prop := ∀ i x, D[i]? = some x → w.rangeAt g (o + i * 21) (enc x)
theorem size29 : (Tryd.prog.info? 60).map (·.size) = some 21 := by kernel_rfl
theorem holds_lr {g : Nat} {D : List Lb} {w : World} (h : HoldsK enc 21 w g 0 D.toArray) : Lr g 0 D w ∧ w.there g 0 (D.length * 21) := by
  refine ⟨fun i x hx j v hv => ?_, fun j hj => ?_⟩
  · have hi : i < D.length := (List.getElem?_eq_some_iff.1 hx).1
    have hj : j < 21 := by have := (List.getElem?_eq_some_iff.1 hv).1; rwa [enc_len] at this
    have := (h.cell (i := i) (c := j) (by simpa using hi) hj).1
    rw [this]
    have e : D.toArray[i]! = x := by
      rw [getElem!_pos _ i (by simpa using hi)]
      have := (List.getElem?_eq_some_iff.1 hx).2
      simpa using this
    rw [e]
    have e2 := List.getElem?_eq_some_iff.1 hv
    rw [getElem!_pos _ j e2.1, e2.2]
  · have h2 := h.cell (i := j / 21) (c := j % 21) (by simp; omega) (by omega)
    rw [show 0 + j / 21 * 21 + j % 21 = 0 + j by omega] at h2
    exact ⟨by rw [h2.1]; rfl, h2.2⟩
theorem toLd (v : Value) : Instr.loadAt 60 v = loadR 60 v := rfl
theorem run_ldx (w : World) (g o : Nat) (x : Lb) (h : w.rangeAt g o (enc x)) : (loadR 60 (.pointer (some ⟨g, o, none⟩))).run Tryd.prog w = .ok (.agg (lab x.h x.s)) w := by
  have := run_loadAt_mid (P := Tryd.prog) w g o 60 (enc x) _ h under25 rfl (by rw [size29, enc_len])
  rw [enc_arr] at this
  exact this
theorem toSt (p v : Value) : Instr.storeAt 60 p v = storeR 60 p v := rfl
theorem run_stx (w : World) (g o : Nat) (x : Lb) (h : w.there g o 21) : (storeR 60 (.pointer (some ⟨g, o, none⟩)) (.agg (lab x.h x.s))).run Tryd.prog w = .ok () (w.setCells g o (enc x)) := by
  have := run_storeAt_mid (P := Tryd.prog) w g o 60 (enc x).toArray (by simpa [enc_len] using h) (by rw [size29]; simp [enc_len]) (all_oneCell_toArray (enc_one x))
  rw [enc_arr] at this
  have e : (lab x.h x.s).toList = enc x := rfl
  rw [e] at this
  exact this
theorem dd_cc (x y : Lb) (r : List Lb) : dd (x :: y :: r) = if x = y then dd (y :: r) else x :: dd (y :: r) := by rw [dd]
theorem dd_snoc (x y : Lb) : ∀ l : List Lb, dd (l ++ [y, x]) = if x = y then dd (l ++ [y]) else dd (l ++ [y]) ++ [x]
  | [] => by
    show dd (y :: x :: []) = if x = y then dd [y] else dd [y] ++ [x]
    rw [dd_cc]
    by_cases h : x = y
    · rw [if_pos h.symm, if_pos h, h]
    · rw [if_neg (fun e => h e.symm), if_neg h]; rfl
  | [z] => by
    have ih := dd_snoc x y []
    have ih' : dd (y :: [x]) = if x = y then dd [y] else dd [y] ++ [x] := ih
    show dd (z :: y :: [x]) = if x = y then dd (z :: y :: []) else dd (z :: y :: []) ++ [x]
    rw [dd_cc z y [x], dd_cc z y [], ih']
    by_cases h : x = y
    · rw [if_pos h, if_pos h]
    · rw [if_neg h, if_neg h]
      by_cases hz : z = y
      · rw [if_pos hz, if_pos hz]
      · rw [if_neg hz, if_neg hz]; rfl
  | z :: u :: l => by
    have ih := dd_snoc x y (u :: l)
    have ih' : dd (u :: (l ++ [y, x])) = if x = y then dd (u :: (l ++ [y])) else dd (u :: (l ++ [y])) ++ [x] := ih
    show dd (z :: u :: (l ++ [y, x])) = if x = y then dd (z :: u :: (l ++ [y])) else dd (z :: u :: (l ++ [y])) ++ [x]
    rw [dd_cc z u (l ++ [y, x]), dd_cc z u (l ++ [y]), ih']
    by_cases h : x = y
    · rw [if_pos h, if_pos h]
    · rw [if_neg h, if_neg h]
      by_cases hz : z = u
      · rw [if_pos hz, if_pos hz]
      · rw [if_neg hz, if_neg hz]; rfl
theorem take_snoc {D : List Lb} {k : Nat} (h : k + 1 < D.length) : D.take (k + 2) = D.take k ++ [D.getD k default, D.getD (k + 1) default] ∧ D.take (k + 1) = D.take k ++ [D.getD k default] := by
  have h2 : D.take (k + 1) = D.take k ++ [D.getD k default] := by rw [List.take_succ_eq_append_getElem (by omega)]; simp [List.getD, List.getElem?_eq_getElem (show k < D.length by omega)]
  refine ⟨?_, h2⟩
  rw [List.take_succ_eq_append_getElem (by omega), h2]
  simp [List.getD, List.getElem?_eq_getElem (show k + 1 < D.length by omega)]
/-- The next label joins, or not. -/
theorem dd_take {D : List Lb} {k : Nat} (h : k + 1 < D.length) : dd (D.take (k + 2)) = if D.getD (k + 1) default = D.getD k default then dd (D.take (k + 1)) else dd (D.take (k + 1)) ++ [D.getD (k + 1) default] := by
  obtain ⟨h1, h2⟩ := take_snoc h
  rw [h1, h2]
  exact dd_snoc _ _ _
theorem dd_one (D : List Lb) : dd (D.take 1) = D.take 1 := by
  cases D with
  | nil => rfl
  | cons x r => rfl
/-- The cells of some zero labels. -/
theorem run_clearK (w : World) (b o m c : Nat) (hm : 0 < m) (hT : w.there b o (m * 21)) : ∃ vs : List Value, vs.length = m * 21 ∧ ∀ ty, (Builtin.clear_ #[22] ty #[.slice (some ⟨b, o, none⟩) m c]).run Tryd.prog w = .ok (.tuple #[]) (w.setCells b o vs) := by
  obtain ⟨k, rfl⟩ : ∃ k, m = k + 1 := ⟨m - 1, by omega⟩
  have hz : ∀ w, (zeroValue 60).run Tryd.prog w = .ok (.agg (lab z20 ⟨#[]⟩)) w := fun w => by kernel_rfl
  have hs : (Builtin.zeroCells (Value.agg (lab z20 ⟨#[]⟩)).cells (k + 1)).toList.length = (k + 1) * 21 := by
    simp [Builtin.zeroCells, Value.cells, lab_size z20 ⟨#[]⟩ rfl]
  have h1 : ∀ v ∈ (Builtin.zeroCells (Value.agg (lab z20 ⟨#[]⟩)).cells (k + 1)).toList, v.oneCell' = true := by
    intro v hv
    have hz : (Value.agg (lab z20 ⟨#[]⟩)).cells = lab z20 ⟨#[]⟩ := rfl
    rw [hz] at hv
    simp only [Builtin.zeroCells, Array.toList_map, List.mem_map] at hv
    obtain ⟨i, _, rfl⟩ := hv
    have hsz := lab_size z20 ⟨#[]⟩ rfl
    have hlt : i % (lab z20 ⟨#[]⟩).size < (lab z20 ⟨#[]⟩).size := Nat.mod_lt _ (by omega)
    rw [getElem!_pos (lab z20 ⟨#[]⟩) _ hlt]
    exact enc_one ⟨z20, ⟨#[]⟩, rfl⟩ _ (Array.getElem_mem_toList hlt)
  refine ⟨_, hs, fun ty => ?_⟩
  have hst := run_storeCells_cells (P := Tryd.prog) b o (Builtin.zeroCells (Value.agg (lab z20 ⟨#[]⟩)).cells (k + 1)).toList 0 w (fun j hj => by rw [Nat.add_zero]; exact (hT j (by rw [← hs]; exact hj)).1) (fun j hj => by rw [Nat.add_zero]; exact (hT j (by rw [← hs]; exact hj)).2) h1
  simp only [Nat.add_zero] at hst
  simp [Builtin.clear_, run_underlying Tryd.underlying22, hz, hst]
theorem But1.setCell {g i : Nat} {a w : World} (h : But1 g a w) (v : Value) : But1 g a (w.setCell ⟨g, i, none⟩ v) :=
  ⟨h.os, h.tape, h.output, by simpa [World.setCell] using h.size, fun j hj hne => (heap_setCell_other _ _ _ _ hne).trans (h.block j hj hne), fun C t e => let ⟨_, e1⟩ := h.tag C t e; ⟨_, heap_setCell_same w g i _ _ v e1⟩⟩
theorem But1.setCells {g : Nat} {a : World} : ∀ (vs : List Value) (o : Nat) {w : World}, But1 g a w → But1 g a (w.setCells g o vs)
  | [], _, _, h => h
  | v :: r, o, _, h => by
    unfold World.setCells
    exact But1.setCells r (o + 1) (h.setCell v)
theorem But1.drewN {g : Nat} {a w : World} (h : But1 g a w) (n : Nat) : But1 g a (w.drewN n) := ⟨h.os, h.tape, h.output, h.size, h.block, h.tag⟩
theorem lr_set {g : Nat} {A : List Lb} {w : World} {k : Nat} {x : Lb} (h : Lr g 0 A w) (hk : k < A.length) (ht : w.there g 0 (A.length * 21)) : Lr g 0 (A.set k x) (w.setCells g (k * 21) (enc x)) := by
  intro i y hy
  rw [Nat.zero_add]
  by_cases e : i = k
  · subst e
    rw [List.getElem?_set_self hk] at hy
    obtain rfl := Option.some.inj hy
    exact World.rangeAt_setCells_same w g (i * 21) (enc x) (fun j hj => by
      rw [enc_len] at hj
      have := ht (i * 21 + j) (by omega)
      rw [Nat.zero_add] at this
      exact this)
  · rw [List.getElem?_set_ne (fun q => e q.symm)] at hy
    have := h i y hy
    rw [Nat.zero_add] at this
    refine World.rangeAt_setCells_apart this g (k * 21) (enc x) (.inr ?_)
    rw [enc_len, enc_len]
    omega
def slLR (v : Value) (lo hi mx : Option Value) : Sem Value := Instr.slice 22 v lo hi mx
theorem toSlL (v : Value) (lo hi mx : Option Value) : Instr.slice 22 v lo hi mx = slLR v lo hi mx := rfl
theorem elemL : Tryd.prog.elem 22 = 60 := by kernel_rfl
theorem uL : Tryd.prog.underlying 22 = some (.slice (Tryd.prog.elem 22)) := by rw [elemL]; exact Tryd.underlying22
theorem run_cutl (w : World) (g o n c k : Nat) (hk : k ≤ n) (hc : k < c) : (slLR (.slice (some ⟨g, o, none⟩) n c) (some (.int .i64 (k : Int))) none none).run Tryd.prog w = .ok (.slice (some ⟨g, o + k * 21, none⟩) (n - k) (c - k)) w := by
  have := run_slice_l (P := Tryd.prog) w 22 (some ⟨g, o, none⟩) n c uL .i64 (k : Int) (by omega) (by omega)
  unfold slLR
  rw [this, elemL, Tryd.sizeOf60]
  simp only [Result.andThen, sliced, Int.toNat_natCast]
  rw [if_neg (by omega)]
  simp [Addr.add_mid]
theorem run_cuth (w : World) (g o n c k : Nat) (hk : k ≤ c) : (slLR (.slice (some ⟨g, o, none⟩) n c) none (some (.int .i64 (k : Int))) none).run Tryd.prog w = .ok (.slice (some ⟨g, o, none⟩) k c) w := by
  have := run_slice_h (P := Tryd.prog) w 22 (some ⟨g, o, none⟩) n c uL .i64 (k : Int) (by omega) (by omega)
  unfold slLR
  rw [this, elemL, Tryd.sizeOf60]
  simp only [Result.andThen, sliced, Int.toNat_natCast]
  by_cases h : c = 0
  · rw [if_pos h]; simp
  · rw [if_neg h]; simp [Addr.add_mid]
end Go.Proofs.YtffghlbgbfhfdaaDoor
