/- LabelOutputs: the mathematics of names. -/
import Derived.Test.YtageaeebiopmbaaDoorLo9
namespace Go.Proofs.YtageaeebiopmbaaDoor
open Go.RowKit
theorem badAt_none {s : ByteArray} : ∀ (f i : Nat), s.size ≤ i + f → (badAt s f i = none ↔ ∀ j, i ≤ j → j < s.size → mayN (byt s j) = true)
  | 0, i, h => by
    constructor
    · intro _ j h1 h2
      omega
    · intro _
      rfl
  | f + 1, i, h => by
    by_cases hi : i < s.size
    · unfold badAt
      rw [if_pos hi]
      by_cases hm : mayN (byt s i) = true
      · rw [if_pos hm, badAt_none f (i + 1) (by omega)]
        constructor
        · intro q j h1 h2
          by_cases e : j = i
          · subst e; exact hm
          · exact q j (by omega) h2
        · intro q j h1 h2
          exact q j (by omega) h2
      · rw [if_neg hm]
        constructor
        · intro q; cases q
        · intro q; exact absurd (q i (Nat.le_refl _) hi) hm
    · rw [badAt_end s _ i hi]
      constructor
      · intro _ j h1 h2; omega
      · intro _; rfl
theorem okN_iff (s : ByteArray) : okN s = 0 ↔ s.size ≤ 211 ∧ 0 < s.size ∧ byt s 0 ≠ 46 ∧ ∀ j, j < s.size → mayN (byt s j) = true := by
  unfold okN checkN
  by_cases h1 : 211 < s.size
  · rw [if_pos h1]
    constructor
    · intro q; cases q
    · intro q; omega
  rw [if_neg h1]
  by_cases h2 : s.size = 0 ∨ byt s 0 = 46
  · rw [if_pos h2]
    constructor
    · intro q; cases q
    · rintro ⟨-, q1, q2, -⟩
      rcases h2 with h2 | h2
      · omega
      · exact absurd h2 q2
  rw [if_neg h2]
  have hb := badAt_none (s := s) s.size 0 (by omega)
  cases hc : badAt s s.size 0 with
  | none =>
    rw [hc] at hb
    constructor
    · intro _
      exact ⟨by omega, by omega, fun q => h2 (.inr q), fun j hj => (hb.1 rfl) j (by omega) hj⟩
    · intro _; rfl
  | some i =>
    rw [hc] at hb
    constructor
    · intro q; cases q
    · rintro ⟨-, -, -, q⟩
      have := hb.2 (fun j _ hj => q j hj)
      cases this
theorem byt_right (a b : ByteArray) (i : Nat) (h : i < b.size) : byt (a ++ b) (a.size + i) = byt b i := by
  rw [← byt_at _ _ (by rw [app_size]; omega), ← byt_at b i h, ByteArray.getElem_append_right (by omega)]
  congr 2
  omega
theorem okN_join (n o : ByteArray) (h1 : okN n = 0) (h2 : okN o = 0) (h3 : n.size + o.size < 211) : okN (n ++ (minus ++ o)) = 0 := by
  obtain ⟨a1, a2, a3, a4⟩ := (okN_iff n).1 h1
  obtain ⟨b1, b2, b3, b4⟩ := (okN_iff o).1 h2
  have hm : minus.size = 1 := rfl
  refine (okN_iff _).2 ⟨by rw [app_size, app_size, hm]; omega, by rw [app_size]; omega, by rw [byt_app _ _ _ a2]; exact a3, fun j hj => ?_⟩
  rw [app_size, app_size, hm] at hj
  by_cases q : j < n.size
  · rw [byt_app _ _ _ q]; exact a4 j q
  · obtain ⟨i, rfl⟩ : ∃ i, j = n.size + i := ⟨j - n.size, by omega⟩
    rw [byt_right _ _ _ (by rw [app_size, hm]; omega)]
    by_cases q2 : i = 0
    · subst q2
      rw [byt_app _ _ _ (by rw [hm]; omega)]
      decide +kernel
    · obtain ⟨k, rfl⟩ : ∃ k, i = minus.size + k := ⟨i - 1, by rw [hm]; omega⟩
      rw [byt_right _ _ _ (by rw [hm] at hj; omega)]
      exact b4 k (by rw [hm] at hj; omega)
theorem app_cancel (a b c : ByteArray) (h : a ++ b = a ++ c) : b = c := by
  have h1 : (a ++ b).data.toList = (a ++ c).data.toList := by rw [h]
  rw [ByteArray.data_append, ByteArray.data_append, Array.toList_append, Array.toList_append] at h1
  have h2 := List.append_cancel_left h1
  exact ByteArray.ext (Array.toList_inj.1 h2)
theorem nmO_inj (n a b : ByteArray) (h : nmO a n = nmO b n) : a = b := by
  have hm : minus.size = 1 := rfl
  unfold nmO at h
  by_cases ha : a = outN
  · by_cases hb : b = outN
    · rw [ha, hb]
    · rw [if_pos ha, if_neg hb] at h
      have := congrArg ByteArray.size h
      rw [app_size, app_size, hm] at this
      omega
  · by_cases hb : b = outN
    · rw [if_neg ha, if_pos hb] at h
      have := congrArg ByteArray.size h
      rw [app_size, app_size, hm] at this
      omega
    · rw [if_neg ha, if_neg hb] at h
      exact app_cancel _ _ _ (app_cancel _ _ _ h)
/-- An output's label, as a hash and a name. -/
noncomputable def outK (o n : ByteArray) (s : List Nat) : List Nat := if outE o n = 0 then callH o (nmO o n) s else z20
def outT (o n : ByteArray) : ByteArray := if outE o n = 0 then nmO o n else ⟨#[]⟩
theorem outK_len (o n : ByteArray) (s : List Nat) : (outK o n s).length = 20 := by
  unfold outK
  split
  · exact callH_len _ _ _
  · rfl
theorem outL_lab (o n : ByteArray) (s : List Nat) : outL o n s = lab (outK o n s) (outT o n) := by
  unfold outL outK outT
  by_cases h : outE o n = 0
  · rw [if_pos h, if_pos h, if_pos h]
  · rw [if_neg h, if_neg h, if_neg h]; rfl
theorem out_right (o n : ByteArray) (h1 : okN n = 0) (h2 : okN o = 0) (h3 : n.size + o.size < 211) : outE o n = 0 ∧ outT o n = nmO o n := by
  have he : outE o n = 0 := by
    unfold outE
    rw [if_pos h1, if_pos h2]
    unfold nmO
    split
    · exact h1
    · exact okN_join n o h1 h2 h3
  exact ⟨he, by unfold outT; rw [if_pos he]⟩
theorem out_wrong (o n : ByteArray) (h : ¬ (okN n = 0 ∧ okN o = 0)) : outE o n ≠ 0 := by
  unfold outE
  by_cases h1 : okN n = 0
  · rw [if_pos h1, if_neg (fun h2 => h ⟨h1, h2⟩)]
    exact fun h2 => h ⟨h1, h2⟩
  · rw [if_neg h1]; exact h1
theorem out_one (a b n : ByteArray) (s : List Nat) (ha : outE a n = 0) (hb : outE b n = 0) : (outK a n s = outK b n s ∧ outT a n = outT b n) ↔ a = b := by
  constructor
  · rintro ⟨-, h⟩
    unfold outT at h
    rw [if_pos ha, if_pos hb] at h
    exact nmO_inj n a b h
  · rintro rfl
    exact ⟨rfl, rfl⟩
end Go.Proofs.YtageaeebiopmbaaDoor
