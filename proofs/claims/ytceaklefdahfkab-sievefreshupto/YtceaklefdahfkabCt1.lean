/- SieveCuts: what pieces bring is what the whole brings. -/
import Derived.Test.YtceaklefdahfkabSc6
import Derived.Test.YtceaklefdahfkabBk1
namespace Go.Proofs.Ytceaklefdahfkab
open Go.RowKit
/-- The hits of some bytes and a piece more. -/
theorem hts_app (L : List (List Nat)) (m : Nat) (hm : 0 < m) (y p : List Nat) : hts L m (y ++ p) = hts L m y ++ hit2 L m y p := by
  have hl := lastN_len m y
  have hk : y.length - (lastN m y).length = y.length + 1 - m := by omega
  have hz : lastN m y ++ p = (y ++ p).drop (y.length + 1 - m) := by
    rw [List.drop_append_of_le_length (by omega), lastN]
    congr 2
    omega
  have hr : (y ++ p).length + 1 - m = (y.length + 1 - m) + ((lastN m y ++ p).length + 1 - m) := by
    rw [List.length_append, List.length_append, hl]; omega
  unfold hit2
  rw [hts, hr, List.range_add, List.flatMap_append]
  congr 1
  · rw [hts]
    have : ∀ i ∈ List.range (y.length + 1 - m), htA L m (y ++ p) i = htA L m y i := fun i hi => by
      have hi2 := List.mem_range.1 hi
      unfold htA
      have e : ((y ++ p).drop i).take m = (y.drop i).take m := by
        rw [List.drop_append_of_le_length (by omega), List.take_append_of_le_length (by rw [List.length_drop]; omega)]
      rw [e]
    rw [List.flatMap_def, List.flatMap_def, List.map_congr_left this]
  · rw [hk, hts, List.map_flatMap, hz, List.flatMap_map]
    congr 1
    funext i
    exact (htA_drop L m (y ++ p) (y.length + 1 - m) i).symm
theorem hld_ge (L : List (List Nat)) (x : List Nat) (k : Nat) (hk : 0 < k) (hu : ∃ u ∈ L, u.take k = x.drop (x.length - k)) : ∀ K, k ≤ K → k ≤ hld L x K
  | 0, h => by omega
  | K + 1, h => by
    rw [hld]
    split
    · omega
    · rename_i hn
      refine hld_ge L x k hk hu K ?_
      rcases Nat.lt_or_ge k (K + 1) with h1 | h1
      · omega
      · have : k = K + 1 := by omega
        exact absurd (this ▸ hu) hn
theorem hld_is (L : List (List Nat)) (x : List Nat) : ∀ K, 0 < hld L x K → ∃ u ∈ L, u.take (hld L x K) = x.drop (x.length - hld L x K)
  | 0, h => by simp [hld] at h
  | K + 1, h => by
    by_cases hc : ∃ u ∈ L, u.take (K + 1) = x.drop (x.length - (K + 1))
    · have e : hld L x (K + 1) = K + 1 := by rw [hld, if_pos hc]
      rw [e]; exact hc
    · have e : hld L x (K + 1) = hld L x K := by rw [hld, if_neg hc]
      rw [e] at h ⊢
      exact hld_is L x K h
theorem lastN_drop (m : Nat) (y : List Nat) (k : Nat) (hk : k ≤ min (m - 1) y.length) : (lastN m y).drop ((lastN m y).length - k) = y.drop (y.length - k) := by
  rw [lastN_len, lastN, List.drop_drop]
  congr 1
  omega
theorem hld2_lm (L : List (List Nat)) (m : Nat) (y : List Nat) : hld2 L m y ≤ min (m - 1) y.length := hld_le _ _ _
theorem hld2_ge (L : List (List Nat)) (m : Nat) (y : List Nat) (k : Nat) (hk0 : 0 < k) (hk : k ≤ min (m - 1) y.length) (hu : ∃ u ∈ L, u.take k = y.drop (y.length - k)) : k ≤ hld2 L m y := by
  unfold hld2
  refine hld_ge L _ k hk0 ?_ _ hk
  rw [lastN_drop m y k hk]; exact hu
theorem hld2_is (L : List (List Nat)) (m : Nat) (y : List Nat) (h : 0 < hld2 L m y) : ∃ u ∈ L, u.take (hld2 L m y) = y.drop (y.length - hld2 L m y) := by
  have : ∃ u ∈ L, u.take (hld2 L m y) = (lastN m y).drop ((lastN m y).length - hld2 L m y) := hld_is L (lastN m y) _ h
  rw [lastN_drop m y _ (hld2_lm L m y)] at this
  exact this
/-- A piece more: no more is held than was, and the piece. -/
theorem hld2_app (L : List (List Nat)) (m : Nat) (y p : List Nat) : hld2 L m (y ++ p) ≤ hld2 L m y + p.length := by
  rcases Nat.lt_or_ge p.length (hld2 L m (y ++ p)) with h | h
  · obtain ⟨u, hu, he⟩ := hld2_is L m (y ++ p) (by omega)
    have hle := hld2_lm L m (y ++ p)
    rw [List.length_append] at hle he
    generalize hk : hld2 L m (y ++ p) = k at *
    have := hld2_ge L m y (k - p.length) (by omega) (by omega) ⟨u, hu, ?_⟩
    · omega
    · have h1 : u.take (k - p.length) = (u.take k).take (k - p.length) := by rw [List.take_take]; congr 1; omega
      rw [h1, he, List.drop_append_of_le_length (by omega), List.take_append_of_le_length (by rw [List.length_drop]; omega), List.take_of_length_le (by rw [List.length_drop]; omega)]
      congr 1
      omega
  · omega
/-- Where the hits of a further piece lie. -/
theorem hit2_in (L : List (List Nat)) (m : Nat) (hm : 0 < m) (y p : List Nat) (nT : Nat) (hn : nT = L.length) : ∀ x ∈ hit2 L m y p, Hin (y.length - hld2 L m y) (hld2 L m y + p.length) m nT x := fun x hx => by
  have hl := lastN_len m y
  have hle := hld2_lm L m y
  have hx2 : x ∈ hts L m (y ++ p) := by rw [hts_app L m hm]; exact List.mem_append_right _ hx
  obtain ⟨i, k, h1, h2, h3, h4⟩ := hts_sth L m (y ++ p) x hx2
  rw [List.length_append] at h2
  obtain ⟨x', hx', he⟩ := List.mem_map.1 hx
  obtain ⟨i', k', g1, g2, g3, g4⟩ := hts_sth L m _ x' hx'
  have hi : i = i' + (y.length - (lastN m y).length) := by
    rw [h1, g1] at he
    simp only [shf, Prod.mk.injEq] at he
    omega
  refine ⟨i, k, h1, ?_, by omega, by omega⟩
  rcases Nat.lt_or_ge i y.length with hc | hc
  · have hkk := hld2_ge L m y (y.length - i) (by omega) (by omega) ⟨L.getD k [], getS_mem h3, ?_⟩
    · omega
    · rw [h4, List.take_take, Nat.min_eq_left (by omega), List.drop_append_of_le_length (by omega), List.take_append_of_le_length (by rw [List.length_drop]; omega), List.take_of_length_le (by rw [List.length_drop]; omega)]
      congr 1
      omega
  · omega
theorem ovr_appR (a b e : List Nat) (o : Nat) (h : o + e.length ≤ a.length) : ovr (a ++ b) e o = ovr a e o ++ b := by
  unfold ovr
  rw [List.take_append_of_le_length (by omega), List.drop_append_of_le_length (by omega)]
  simp
theorem ovr_appL (a b e : List Nat) (o : Nat) (h : a.length ≤ o) : ovr (a ++ b) e o = a ++ ovr b e (o - a.length) := by
  unfold ovr
  rw [List.take_append, List.take_of_length_le (by omega), List.drop_append, List.drop_of_length_le (by omega)]
  simp
  congr 3
  omega
theorem puts_appR {T : List ByteArray} {m : Nat} (hT : ∀ s ∈ T, s.size = m) : ∀ (H : List (Int × Int)) (a b : List Nat), (∀ x ∈ H, Hin 0 a.length m T.length x) → puts T 0 (a ++ b) H = puts T 0 a H ++ b
  | [], _, _, _ => rfl
  | x :: H, a, b, h => by
    obtain ⟨i, k, rfl, h1, h2, h3⟩ := h x (by simp)
    have hsz : (tl (txt T k)).length = m := by rw [tl_len, hT _ (by rw [txt_eq h3]; exact List.getElem_mem h3)]
    have hl : (ovr a (tl (txt T k)) (i - 0)).length = a.length := ovr_len _ _ _ (by omega)
    show puts T 0 (ovr (a ++ b) (tl (txt T k)) (i - 0)) H = puts T 0 (ovr a (tl (txt T k)) (i - 0)) H ++ b
    rw [ovr_appR _ _ _ _ (by omega)]
    exact puts_appR hT H _ b (fun y hy => by rw [hl]; exact h y (by simp [hy]))
theorem puts_appL {T : List ByteArray} {m : Nat} (hT : ∀ s ∈ T, s.size = m) : ∀ (H : List (Int × Int)) (a b : List Nat), (∀ x ∈ H, Hin a.length b.length m T.length x) → puts T 0 (a ++ b) H = a ++ puts T a.length b H
  | [], _, _, _ => rfl
  | x :: H, a, b, h => by
    obtain ⟨i, k, rfl, h1, h2, h3⟩ := h x (by simp)
    have hsz : (tl (txt T k)).length = m := by rw [tl_len, hT _ (by rw [txt_eq h3]; exact List.getElem_mem h3)]
    have hl : (ovr b (tl (txt T k)) (i - a.length)).length = b.length := ovr_len _ _ _ (by omega)
    show puts T 0 (ovr (a ++ b) (tl (txt T k)) (i - 0)) H = a ++ puts T a.length (ovr b (tl (txt T k)) (i - a.length)) H
    rw [Nat.sub_zero, ovr_appL _ _ _ _ h1]
    exact puts_appL hT H a _ (fun y hy => by rw [hl]; exact h y (by simp [hy]))
/-- Some bytes, rewritten. -/
def rwd (L : List (List Nat)) (m : Nat) (T : List ByteArray) (y : List Nat) : List Nat := puts T 0 y (hts L m y)
theorem rwd_len {L : List (List Nat)} {m : Nat} {T : List ByteArray} (hT : ∀ s ∈ T, s.size = m) (hl : T.length = L.length) (y : List Nat) : (rwd L m T y).length = y.length := puts_len hT _ _ (hts_hin L m y _ hl)
/-- A piece more, rewritten: what was put out, and the rest. -/
theorem rwd_app {L : List (List Nat)} {m : Nat} (hm : 0 < m) {T : List ByteArray} (hT : ∀ s ∈ T, s.size = m) (hl : T.length = L.length) (y p : List Nat) :
    rwd L m T (y ++ p) = (rwd L m T y).take (y.length - hld2 L m y) ++ puts T (y.length - hld2 L m y) ((rwd L m T y).drop (y.length - hld2 L m y) ++ p) (hit2 L m y p) := by
  have hle := hld2_lm L m y
  have hlen := rwd_len hT hl y
  have h1 : rwd L m T (y ++ p) = puts T 0 (rwd L m T y ++ p) (hit2 L m y p) := by
    unfold rwd
    rw [hts_app L m hm]
    have e : ∀ t A B, puts T 0 t (A ++ B) = puts T 0 (puts T 0 t A) B := fun t A B => by simp [puts]
    rw [e, puts_appR hT _ _ _ (hts_hin L m y _ hl)]
  have hta : ((rwd L m T y).take (y.length - hld2 L m y)).length = y.length - hld2 L m y := by rw [List.length_take, hlen]; omega
  rw [h1]
  conv => lhs; rw [← List.take_append_drop (y.length - hld2 L m y) (rwd L m T y), List.append_assoc]
  rw [puts_appL hT _ _ _ (fun x hx => ?_), hta]
  have := hit2_in L m hm y p T.length hl x hx
  rw [hta]
  have hd : ((rwd L m T y).drop (y.length - hld2 L m y) ++ p).length = hld2 L m y + p.length := by rw [List.length_append, List.length_drop, hlen]; omega
  rw [hd]; exact this
end Go.Proofs.Ytceaklefdahfkab
