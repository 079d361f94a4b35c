/- LabelSorts: mark, roomy, sameLabels. -/
import Derived.Test.YtffghlbgbfhfdaaGreatDoorSrJ
namespace Go.Proofs.YtffghlbgbfhfdaaGreatDoor
open Go.RowKit Go.Shelf Go.Sort
theorem flat_get : ∀ (L : List Lb) (j : Nat), j < L.length * 21 → ∃ x, L[j / 21]? = some x ∧ (L.flatMap enc)[j]? = (enc x)[j % 21]?
  | [], j, h => by simp at h
  | y :: L, j, h => by
    rw [List.flatMap_cons]
    by_cases hj : j < 21
    · refine ⟨y, by rw [show j / 21 = 0 by omega]; rfl, ?_⟩
      rw [List.getElem?_append_left (by rw [enc_len]; exact hj), show j % 21 = j by omega]
    · simp only [List.length_cons] at h
      obtain ⟨x, h1, h2⟩ := flat_get L (j - 21) (by omega)
      refine ⟨x, ?_, ?_⟩
      · rw [show j / 21 = (j - 21) / 21 + 1 by omega]; exact h1
      · rw [List.getElem?_append_right (by rw [enc_len]; omega), enc_len, h2, show (j - 21) % 21 = j % 21 by omega]
theorem flat_len (L : List Lb) : (L.flatMap enc).length = L.length * 21 := by
  induction L with
  | nil => rfl
  | cons x L ih => rw [List.flatMap_cons, List.length_append, ih, enc_len, List.length_cons]; omega
theorem cells_flat (L : List Lb) : cells L = L.flatMap enc := by
  apply List.ext_getElem?
  intro j
  by_cases hj : j < L.length * 21
  · obtain ⟨x, h1, h2⟩ := cells_get L j hj
    obtain ⟨y, h3, h4⟩ := flat_get L j hj
    obtain rfl := Option.some.inj (h1.symm.trans h3)
    rw [h2, h4]
  · rw [List.getElem?_eq_none (by rw [cells_len]; omega), List.getElem?_eq_none (by rw [flat_len]; omega)]
theorem cells_app (A B : List Lb) : cells (A ++ B) = cells A ++ cells B := by rw [cells_flat, cells_flat, cells_flat, List.flatMap_append]
theorem cells_nil : cells [] = [] := by rw [cells_flat]; rfl
theorem cells_single (x : Lb) : cells [x] = enc x := by rw [cells_flat]; simp
/-- An owned row of labels, as a slice of labels. -/
theorem own_ls {w : World} {base n : Nat} {v : Value} {L : List Lb} (h : w.ownsRow base 51 21 v n (cells L)) : n = L.length ∧ ((L = [] ∧ v = .slice none 0 0) ∨ ∃ g cap, v = .slice (some ⟨g, 0, none⟩) L.length cap ∧ base ≤ g ∧ g < w.heap.size ∧ L.length ≤ cap ∧ cap ≤ maxLen ∧ Lr g 0 L w) := by
  obtain ⟨hl, ⟨hv, h0⟩ | ⟨g, cap, cur, hv, hb, hg, hnc, hcm, hcs, htk⟩⟩ := h
  · rw [cells_len] at hl
    exact ⟨by omega, .inl ⟨List.length_eq_zero_iff.1 (by omega), hv⟩⟩
  · rw [cells_len] at hl
    have hn : n = L.length := by omega
    subst hn
    refine ⟨rfl, .inr ⟨g, cap, hv, hb, (Array.getElem?_eq_some_iff.1 hg).1, hnc, hcm, fun i x hx j u hu => ?_⟩⟩
    have hi := (List.getElem?_eq_some_iff.1 hx).1
    have hj : j < 21 := by have := (List.getElem?_eq_some_iff.1 hu).1; rwa [enc_len] at this
    have hlt : i * 21 + j < L.length * 21 := by omega
    rw [Nat.zero_add, cell_of_row w _ _ _ _ _ hg, ← Array.getElem?_toList]
    have e : cur.toList[i * 21 + j]? = (cells L)[i * 21 + j]? := by rw [← htk, List.getElem?_take, if_pos hlt]
    obtain ⟨y, h1, h2⟩ := cells_get L (i * 21 + j) hlt
    rw [show (i * 21 + j) / 21 = i by omega] at h1
    obtain rfl := Option.some.inj (hx.symm.trans h1)
    rw [e, h2, show (i * 21 + j) % 21 = j by omega]
    exact hu
theorem own_Ls {w : World} {base n : Nat} {v : Value} {L : List Lb} (h : w.ownsRow base 51 21 v n (cells L)) : Ls v L w := by
  obtain ⟨-, ⟨h1, h2⟩ | ⟨g, cap, h1, -, h3, h4, h5, h6⟩⟩ := own_ls h
  · exact .inl ⟨h1, none, 0, h2, Nat.zero_le _, fun _ => rfl⟩
  · exact .inr ⟨g, 0, cap, h1, h4, h5, h3, h6⟩
def apL (ty : Nat) (vs : Array Value) : Sem Value := Builtin.append_ #[22, 22] ty vs
theorem toAp (ty : Nat) (vs : Array Value) : Builtin.append_ #[22, 22] ty vs = apL ty vs := rfl
theorem grown_below {w w' : World} {base n s e : Nat} {v : Value} {xs : List Value} (ho : w.ownsRow base e s v n xs) (hB : base ≤ w.heap.size) (hg : w.grownBy w' v.ownBlock) : Below base w w' :=
  ⟨hg.os, hg.tape, hg.output, hg.size, fun j hj => hg.block j (by omega) (fun h => by have := (ho.lt j h.symm).1; omega)⟩
/-- Labels appended to a list that is owned. -/
theorem run_apS (w : World) (base n ty : Nat) (v sv : Value) (L E : List Lb) (ho : w.ownsRow base 51 21 v n (cells L)) (hs : Ls sv E w) (hb : n + E.length ≤ 1099511627776) (hB : base ≤ w.heap.size) :
    ∃ v' w', (apL ty #[v, sv]).run Tryz.prog w = .ok v' w' ∧ w'.ownsRow base 51 21 v' (n + E.length) (cells (L ++ E)) ∧ Below base w w' := by
  obtain ⟨i0, hi0, hz0, hz1, hz2⟩ := info_parts info29
  rcases hs with ⟨rfl, o, c, rfl, hcm, h0⟩ | ⟨b, off, cap, rfl, h1, h2, h3, h4⟩
  · cases o with
    | none =>
      obtain rfl := h0 rfl
      exact ⟨v, w, run_append_owned_none (P := Tryz.prog) w base 22 ty 51 i0 21 Tryz.underlying22 hi0 v n _ ho, by simpa using ho, Below.refl _ _⟩
    | some a =>
      obtain ⟨v', w', hr, ho2, hg, _⟩ := run_append_own (P := Tryz.prog) w base 22 ty 51 i0 _ 21 40 Tryz.underlying22 hi0 hz0 hz1 hz2 (lab_size z20 ⟨#[]⟩ rfl) (by omega) v n _ ho a 0 c [] rfl (fun j u hu => by simp at hu) (fun u hu => by simp at hu) (by unfold maxLen; omega) (by omega) hB
      exact ⟨v', w', hr, by simpa using ho2, grown_below ho hB hg⟩
  · obtain ⟨v', w', hr, ho2, hg, _⟩ := run_append_own (P := Tryz.prog) w base 22 ty 51 i0 _ 21 40 Tryz.underlying22 hi0 hz0 hz1 hz2 (lab_size z20 ⟨#[]⟩ rfl) (by omega) v n _ ho ⟨b, off, none⟩ E.length cap (cells E) (cells_len E) (lr_cells h4) (cells_one E) (by unfold maxLen; omega) (by omega) hB
    refine ⟨v', w', hr, ?_, grown_below ho hB hg⟩
    rw [cells_app]
    exact ho2
theorem own_below {W W' : World} {B n : Nat} {v : Value} {xs : List Value} (h : W.ownsRow B 51 21 v n xs) (hb : Below W.heap.size W W') : W'.ownsRow B 51 21 v n xs := by
  obtain ⟨k1, k2⟩ := h
  exact ⟨k1, k2.imp_right fun ⟨g, cap, cur, q1, q2, q3, q4⟩ => ⟨g, cap, cur, q1, q2, (hb.block g (Array.getElem?_eq_some_iff.1 q3).1).trans q3, q4⟩⟩
theorem lr_row {g : Nat} {L : List Lb} {C : Array Value} {t : TypeId} {fr : Nat × Nat} {w : World} (h : w.heap[g]? = some (.cells C t fr)) (hC : C.toList = cells L) : Lr g 0 L w := fun i x hx j u hu => by
  have hi := (List.getElem?_eq_some_iff.1 hx).1
  have hj : j < 21 := by have := (List.getElem?_eq_some_iff.1 hu).1; rwa [enc_len] at this
  have hlt : i * 21 + j < L.length * 21 := by omega
  rw [Nat.zero_add, cell_of_row w _ _ _ _ _ h, ← Array.getElem?_toList, hC]
  obtain ⟨y, h1, h2⟩ := cells_get L (i * 21 + j) hlt
  rw [show (i * 21 + j) / 21 = i by omega] at h1
  obtain rfl := Option.some.inj (hx.symm.trans h1)
  rw [h2, show (i * 21 + j) % 21 = j by omega]
  exact hu
def mkH : List Nat := [7, 0, 0, 0, 0, 0, 0, 0, 0, 0, 0, 0, 0, 0, 0, 0, 0, 0, 0, 0]
def mkS : ByteArray := ⟨#[109, 97, 114, 107]⟩
/-- The mark. -/
def mk : Lb := ⟨mkH, mkS, rfl⟩
def buildH (ps : Array (Nat × Value)) : Sem Value := Instr.build 49 ps
theorem toBuildH (ps : Array (Nat × Value)) : Instr.build 49 ps = buildH ps := rfl
set_option maxRecDepth 100000 in
theorem run_buildM (w : World) : (buildH #[(0, .int .u8 7)]).run Tryz.prog w = .ok (.agg (bs mkH)) w := run_build w 49 _ _ (by kernel_rfl)
set_option maxRecDepth 100000 in
theorem run_buildL (w : World) : (buildR #[(0, .agg (bs mkH)), (1, .string ⟨#[109, 97, 114, 107]⟩)]).run Tryz.prog w = .ok (.agg (lab mkH mkS)) w := run_build w 51 _ _ (by kernel_rfl)
attribute [local go_sem ↓] toBuildH toBuild toSt
def bsR (ps : Array (Nat × Value)) : Sem Value := Instr.buildSlice 22 2 ps
theorem toBs (ps : Array (Nat × Value)) : Instr.buildSlice 22 2 ps = bsR ps := rfl
set_option maxRecDepth 100000 in
theorem run_bs2 (w : World) : ∃ C : Array Value, C.toList = enc mk ++ enc mk ∧ (bsR #[(0, .agg (lab mkH mkS)), (1, .agg (lab mkH mkS))]).run Tryz.prog w = .ok (.slice (some ⟨w.heap.size, 0, none⟩) 2 2) (w.alloc (.cells C 51)) := by
  refine ⟨lab mkH mkS ++ lab mkH mkS, rfl, ?_⟩
  unfold bsR
  kernel_rfl
attribute [local go_sem ↓] toAp toBs
end Go.Proofs.YtffghlbgbfhfdaaGreatDoor
