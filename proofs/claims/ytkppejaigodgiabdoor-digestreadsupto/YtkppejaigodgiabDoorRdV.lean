/- A hash text read: lists of bytes. -/
import Derived.Test.YtkppejaigodgiabDoorRd64
namespace Go.Proofs.YtkppejaigodgiabDoor
def colonL : List Nat := [115, 104, 97, 50, 53, 54, 58]
def dashL : List Nat := [115, 104, 97, 50, 53, 54, 45]
def z32 : List Nat := List.replicate 32 0
/-- How many bytes two texts have in common at their beginning. -/
def shL : List Nat → List Nat → Nat
  | x :: a, y :: b => if x = y then shL a b + 1 else 0
  | _, _ => 0
theorem shL_step : ∀ (a b : List Nat) (k : Nat), k ≤ shL a b → k < a.length → k < b.length → (a.getD k 0 = b.getD k 0 → k + 1 ≤ shL a b) ∧ (¬ a.getD k 0 = b.getD k 0 → shL a b = k)
  | [], b, k, _, h, _ => by simp at h
  | x :: a, [], k, _, _, h => by simp at h
  | x :: a, y :: b, 0, _, _, _ => by
    simp only [List.getD_cons_zero, shL]
    refine ⟨fun h => by rw [if_pos h]; omega, fun h => by rw [if_neg h]⟩
  | x :: a, y :: b, k + 1, h, h1, h2 => by
    simp only [List.getD_cons_succ]
    by_cases hxy : x = y
    · simp only [shL, if_pos hxy] at h ⊢
      have := shL_step a b k (by omega) (by simpa using h1) (by simpa using h2)
      exact ⟨fun h => by have := this.1 h; omega, fun h => by have := this.2 h; omega⟩
    · simp only [shL, if_neg hxy] at h; omega
theorem shL_le : ∀ (a b : List Nat), shL a b ≤ a.length ∧ shL a b ≤ b.length
  | [], b => by simp [shL]
  | x :: a, [] => by simp [shL]
  | x :: a, y :: b => by
    have := shL_le a b
    simp only [shL, List.length_cons]
    split <;> omega
theorem shL_pre : ∀ (a b : List Nat), shL a b = b.length ↔ b.isPrefixOf a = true
  | a, [] => by simp [shL, List.isPrefixOf]
  | [], y :: b => by simp [shL, List.isPrefixOf]
  | x :: a, y :: b => by
    have := shL_pre a b
    by_cases h : x = y
    · subst h
      simp [shL, List.isPrefixOf, this]
    · have h' : ¬ y = x := fun e => h e.symm
      simp [shL, List.isPrefixOf, h, h']
def fmL (t : List Nat) : Option Nat :=
  if dashL.isPrefixOf t = true ∧ t.length = 51 then some 2 else if colonL.isPrefixOf t = true ∧ t.length = 71 then some 0 else if colonL.isPrefixOf t = true ∧ t.length = 59 then some 1 else none
def unF (f : Nat) (t : List Nat) : List Nat × Nat × Nat := if f = 2 then (v64V t, v64E t) else if f = 1 then (v32V t, v32E t) else (hexV t, hexE t)
def rdV (t : List Nat) : List Nat × Nat × Nat × Nat :=
  match fmL t with
  | none => (z32, 0, 12, max (shL t colonL) (shL t dashL))
  | some f => if ¬ (unF f (t.drop 7)).2.1 = 0 then (z32, 0, (unF f (t.drop 7)).2.1, (unF f (t.drop 7)).2.2 + 7) else if ¬ (unF f (t.drop 7)).1.length = 32 then (z32, 0, 12, 7) else ((unF f (t.drop 7)).1, f, 0, 0)
def shwL (s : List Nat) (f : Nat) : List Nat := if f = 0 then colonL ++ hexL s else if f = 1 then colonL ++ b32L s else if f = 2 then dashL ++ b64L s else []
theorem pre_drop {p t : List Nat} (h : p.isPrefixOf t = true) : t = p ++ t.drop p.length := by
  obtain ⟨r, rfl⟩ := List.isPrefixOf_iff_prefix.1 h
  simp
theorem fmL_form {t : List Nat} {f : Nat} (h : fmL t = some f) : (f = 2 ∧ t = dashL ++ t.drop 7 ∧ t.length = 51) ∨ (f = 0 ∧ t = colonL ++ t.drop 7 ∧ t.length = 71) ∨ (f = 1 ∧ t = colonL ++ t.drop 7 ∧ t.length = 59) := by
  unfold fmL at h
  by_cases h1 : dashL.isPrefixOf t = true ∧ t.length = 51
  · rw [if_pos h1] at h
    exact .inl ⟨(Option.some.inj h).symm, pre_drop h1.1, h1.2⟩
  · rw [if_neg h1] at h
    by_cases h2 : colonL.isPrefixOf t = true ∧ t.length = 71
    · rw [if_pos h2] at h
      exact .inr (.inl ⟨(Option.some.inj h).symm, pre_drop h2.1, h2.2⟩)
    · rw [if_neg h2] at h
      by_cases h3 : colonL.isPrefixOf t = true ∧ t.length = 59
      · rw [if_pos h3] at h
        exact .inr (.inr ⟨(Option.some.inj h).symm, pre_drop h3.1, h3.2⟩)
      · rw [if_neg h3] at h; cases h
/-- Whatever is taken is the one text of its answer. -/
theorem rd_canon {t : List Nat} (h : (rdV t).2.2.1 = 0) : shwL (rdV t).1 (rdV t).2.1 = t ∧ (rdV t).1.length = 32 ∧ (∀ x ∈ (rdV t).1, x < 256) ∧ (rdV t).2.1 < 3 := by
  unfold rdV at h ⊢
  cases hf : fmL t with
  | none => rw [hf] at h; simp at h
  | some f =>
    rw [hf] at h
    simp only at h ⊢
    by_cases h1 : (unF f (t.drop 7)).2.1 = 0
    · by_cases h2 : (unF f (t.drop 7)).1.length = 32
      · rw [if_neg (by omega), if_neg (by omega)]
        simp only
        rcases fmL_form hf with ⟨rfl, ht, _⟩ | ⟨rfl, ht, _⟩ | ⟨rfl, ht, _⟩
        · have e : unF 2 (t.drop 7) = (v64V (t.drop 7), v64E (t.drop 7)) := rfl
          rw [e] at h1 h2 ⊢
          refine ⟨?_, h2, v64V_byt h1, by omega⟩
          conv => rhs; rw [ht]
          show dashL ++ b64L (v64V (t.drop 7)) = _
          rw [b64_canon h1]
        · have e : unF 0 (t.drop 7) = (hexV (t.drop 7), hexE (t.drop 7)) := rfl
          rw [e] at h1 h2 ⊢
          refine ⟨?_, h2, hexV_byt h1, by omega⟩
          conv => rhs; rw [ht]
          show colonL ++ hexL (hexV (t.drop 7)) = _
          rw [hex_canon h1]
        · have e : unF 1 (t.drop 7) = (v32V (t.drop 7), v32E (t.drop 7)) := rfl
          rw [e] at h1 h2 ⊢
          refine ⟨?_, h2, byts_byt _ _, by omega⟩
          conv => rhs; rw [ht]
          show colonL ++ b32L (v32V (t.drop 7)) = _
          rw [b32_canon h1]
      · rw [if_neg (by omega), if_pos h2] at h; simp at h
    · rw [if_pos h1] at h
      exact absurd h h1
theorem rd_back (s : List Nat) (hl : s.length = 32) (hb : ∀ x ∈ s, x < 256) (f : Nat) (hf : f < 3) : rdV (shwL s f) = (s, f, 0, 0) := by
  have : f = 0 ∨ f = 1 ∨ f = 2 := by omega
  rcases this with rfl | rfl | rfl
  · have e : shwL s 0 = colonL ++ hexL s := rfl
    have hm : fmL (colonL ++ hexL s) = some 0 := by
      have hlen : (colonL ++ hexL s).length = 71 := by rw [List.length_append, hexL_len, hl]; rfl
      unfold fmL
      rw [if_neg (by rintro ⟨_, h⟩; omega), if_pos ⟨by rw [List.isPrefixOf_iff_prefix]; exact List.prefix_append _ _, hlen⟩]
    have hd : (colonL ++ hexL s).drop 7 = hexL s := List.drop_left' rfl
    have hu : unF 0 (hexL s) = (s, 0, 0) := by
      show (hexV (hexL s), hexE (hexL s)) = _
      rw [hexV_hexL s hb, hexE_back s hb]
    rw [e]
    unfold rdV
    rw [hm]
    simp only
    rw [hd, hu]
    simp [hl]
  · have e : shwL s 1 = colonL ++ b32L s := rfl
    have hm : fmL (colonL ++ b32L s) = some 1 := by
      have hlen : (colonL ++ b32L s).length = 59 := by rw [List.length_append, b32L_len, hl]; rfl
      unfold fmL
      rw [if_neg (by rintro ⟨_, h⟩; omega), if_neg (by rintro ⟨_, h⟩; omega), if_pos ⟨by rw [List.isPrefixOf_iff_prefix]; exact List.prefix_append _ _, hlen⟩]
    have hd : (colonL ++ b32L s).drop 7 = b32L s := List.drop_left' rfl
    have hu : unF 1 (b32L s) = (s, 0, 0) := by
      show (v32V (b32L s), v32E (b32L s)) = _
      rw [(b32_back s hb).1, (b32_back s hb).2]
    rw [e]
    unfold rdV
    rw [hm]
    simp only
    rw [hd, hu]
    simp [hl]
  · have e : shwL s 2 = dashL ++ b64L s := rfl
    have hm : fmL (dashL ++ b64L s) = some 2 := by
      have hlen : (dashL ++ b64L s).length = 51 := by rw [List.length_append, b64L_len _ s (Nat.le_refl _), hl]; rfl
      unfold fmL
      rw [if_pos ⟨by rw [List.isPrefixOf_iff_prefix]; exact List.prefix_append _ _, hlen⟩]
    have hd : (dashL ++ b64L s).drop 7 = b64L s := List.drop_left' rfl
    have hu : unF 2 (b64L s) = (s, 0, 0) := by
      show (v64V (b64L s), v64E (b64L s)) = _
      rw [(b64_back s hb).1, (b64_back s hb).2]
    rw [e]
    unfold rdV
    rw [hm]
    simp only
    rw [hd, hu]
    simp [hl]
end Go.Proofs.YtkppejaigodgiabDoor
