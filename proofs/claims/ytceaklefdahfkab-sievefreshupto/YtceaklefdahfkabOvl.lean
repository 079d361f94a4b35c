/- SieveOverlaps: the law's walk. -/
import Derived.Test.YtceaklefdahfkabHits
namespace Go.Proofs.Ytceaklefdahfkab
open Go.RowKit
theorem info40 : (Try.prog.info? 39).map (fun i => (i.zero, i.size, i.bytes)) = some (some (.agg #[.int .i64 0, .int .i64 0]), 2, 16) := by kernel_rfl
theorem info_parts {P : Program} {e : TypeId} {z : Option Value} {s b : Nat} (h : (P.info? e).map (fun i => (i.zero, i.size, i.bytes)) = some (z, s, b)) : ∃ i, P.info? e = some i ∧ i.zero = z ∧ i.size = s ∧ i.bytes = b := by
  cases hi : P.info? e with
  | none => rw [hi] at h; cases h
  | some i => rw [hi] at h; simp at h; exact ⟨i, rfl, h.1, h.2.1, h.2.2⟩
def hc (l : List (Int × Int)) : List Value := l.flatMap fun p => [Value.int .i64 p.1, Value.int .i64 p.2]
theorem hc_len (l : List (Int × Int)) : (hc l).length = l.length * 2 := by
  induction l with
  | nil => rfl
  | cons p l ih => simp only [hc, List.flatMap_cons, List.length_append, List.length_cons, List.length_nil] at ih ⊢; omega
theorem hc_get (l : List (Int × Int)) (j : Nat) (h : j < l.length) : (hc l)[j * 2]? = some (.int .i64 (l.getD j (0, 0)).1) ∧ (hc l)[j * 2 + 1]? = some (.int .i64 (l.getD j (0, 0)).2) := by
  induction l generalizing j with
  | nil => simp at h
  | cons p l ih =>
    cases j with
    | zero => exact ⟨rfl, rfl⟩
    | succ j =>
      have := ih j (by simpa using h)
      have e : hc (p :: l) = .int .i64 p.1 :: .int .i64 p.2 :: hc l := rfl
      rw [e, show (j + 1) * 2 = j * 2 + 1 + 1 by omega]
      exact this
theorem hc_one (l : List (Int × Int)) : ∀ u ∈ hc l, u.oneCell' = true := by
  intro u hu
  obtain ⟨p, _, h⟩ := List.mem_flatMap.1 hu
  simp at h
  rcases h with rfl | rfl <;> rfl
theorem hc_cell {l : List (Int × Int)} {w : World} {b off : Nat} (h : ∀ j, j < l.length → w.cell? ⟨b, off + j * 2, none⟩ = some (.int .i64 (l.getD j (0, 0)).1) ∧ w.cell? ⟨b, off + j * 2 + 1, none⟩ = some (.int .i64 (l.getD j (0, 0)).2))
    (j : Nat) (u : Value) (hu : (hc l)[j]? = some u) : w.cell? ((⟨b, off, none⟩ : Addr).add j) = some u := by
  have hj : j < l.length * 2 := by have := (List.getElem?_eq_some_iff.1 hu).1; rwa [hc_len] at this
  rw [Go.WideShapes.add_plain]
  have hj2 : j / 2 < l.length := by omega
  have h1 := h (j / 2) hj2
  have h2 := hc_get l (j / 2) hj2
  rcases Nat.mod_two_eq_zero_or_one j with e | e
  · rw [show j / 2 * 2 = j by omega] at h1 h2
    rw [h2.1] at hu
    rw [← hu]; exact h1.1
  · rw [show off + j / 2 * 2 + 1 = off + j by omega] at h1
    rw [show j / 2 * 2 + 1 = j by omega] at h2
    rw [h2.2] at hu
    rw [← hu]; exact h1.2
theorem hl_own {w : World} {base n : Nat} {v : Value} {l : List (Int × Int)} (h : w.ownsRow base 39 2 v n (hc l)) : Hl v l w ∧ n = l.length := by
  obtain ⟨hl, ⟨hv, h0⟩ | ⟨g, cap, cur, hv, hb, hg, hnc, hcm, hcs, htk⟩⟩ := h
  · rw [hc_len] at hl
    subst hv
    have : l = [] := List.length_eq_zero_iff.1 (by omega)
    exact ⟨.inl ⟨rfl, this⟩, by omega⟩
  · rw [hc_len] at hl
    have hn : n = l.length := by omega
    subst hn
    refine ⟨.inr ⟨g, 0, cap, hv, hnc, hcm, (Array.getElem?_eq_some_iff.1 hg).1, fun j hj => ?_⟩, rfl⟩
    have h1 : ∀ i, i < l.length * 2 → w.cell? ⟨g, i, none⟩ = (hc l)[i]? := fun i hi => by
      rw [cell_of_row w _ _ _ _ _ hg, ← Array.getElem?_toList, ← htk, List.getElem?_take, if_pos hi]
    have h2 := hc_get l j hj
    rw [Nat.zero_add, h1 _ (by omega), h1 _ (by omega)]
    exact h2
/-- An append, kept shut. -/
def appH (ty : Nat) (vs : Array Value) : Sem Value := Builtin.append_ #[31, 31] ty vs
theorem toApp (ty : Nat) (vs : Array Value) : Builtin.append_ #[31, 31] ty vs = appH ty vs := rfl
theorem run_app (w : World) (ty : Nat) (sv : Value) (l : List (Int × Int)) (hs : Hl sv l w) (hb : l.length * 16 ≤ 140737488355328) :
    ∃ v' w', (appH ty #[.slice none 0 0, sv]).run Try.prog w = .ok v' w' ∧ Hl v' l w' ∧ Below w.heap.size w w' := by
  obtain ⟨i0, hi0, hz0, hz1, hz2⟩ := info_parts info40
  rcases hs with ⟨rfl, rfl⟩ | ⟨b, off, cap, rfl, h1, h2, h3, h4⟩
  · exact ⟨_, w, run_append_owned_none (P := Try.prog) (w := w) w.heap.size 31 ty 39 i0 2 Try.underlying31 hi0 _ 0 [] (World.ownsRow_nil _ _ _ _), .inl ⟨rfl, rfl⟩, Below.refl _ _⟩
  · obtain ⟨v', w', hr, ho, hg, _⟩ := run_append_own (P := Try.prog) w w.heap.size 31 ty 39 i0 _ 2 16 Try.underlying31 hi0 hz0 hz1 hz2 rfl (by omega) (.slice none 0 0) 0 [] (World.ownsRow_nil _ _ _ _) ⟨b, off, none⟩ l.length cap (hc l) (hc_len l)
      (hc_cell h4) (hc_one l) (by unfold maxLen; omega) (by omega) (Nat.le_refl _)
    rw [List.nil_append] at ho
    exact ⟨v', w', hr, (hl_own ho).1, ⟨hg.os, hg.tape, hg.output, hg.size, fun j hj => hg.block j hj (fun h => by simp [Value.ownBlock] at h)⟩⟩
theorem Hl.below {v : Value} {d : List (Int × Int)} {w w' : World} (h : Hl v d w) (b : Below w.heap.size w w') : Hl v d w' := h.keep b.size b.block
theorem Below.trans' {a b c : World} (h : Below a.heap.size a b) (k : Below b.heap.size b c) : Below a.heap.size a c := h.trans (k.mono h.size)
attribute [local go_sem ↓] toApp
end Go.Proofs.Ytceaklefdahfkab
