/- Lists in order, none twice. -/
import Derived.Sort.Statements
import Derived.Lib.Bytealg
namespace Go.Proofs.YtffghlbgbfhfdaaGreatDoor
open Go.Sort
/- Words in the order of a dictionary. -/
def lexC : List Nat → List Nat → Int
  | [], [] => 0
  | [], _ :: _ => -1
  | _ :: _, [] => 1
  | x :: a, y :: b => if x < y then -1 else if y < x then 1 else lexC a b
theorem lex_self : ∀ a, lexC a a = 0
  | [] => rfl
  | x :: a => by simp [lexC, lex_self a]
theorem lex_anti : ∀ a b, lexC b a = - lexC a b
  | [], [] => rfl
  | [], _ :: _ => rfl
  | _ :: _, [] => rfl
  | x :: a, y :: b => by
    unfold lexC
    by_cases h1 : x < y
    · rw [if_neg (by omega), if_pos h1, if_pos h1]; rfl
    · by_cases h2 : y < x
      · rw [if_pos h2, if_neg h1, if_pos h2]
      · rw [if_neg h2, if_neg h1, if_neg h1, if_neg h2]; exact lex_anti a b
theorem lex_zero : ∀ {a b}, lexC a b = 0 → a = b
  | [], [], _ => rfl
  | [], _ :: _, h => by simp [lexC] at h
  | _ :: _, [], h => by simp [lexC] at h
  | x :: a, y :: b, h => by
    unfold lexC at h
    by_cases h1 : x < y
    · rw [if_pos h1] at h; simp at h
    · by_cases h2 : y < x
      · rw [if_neg h1, if_pos h2] at h; simp at h
      · rw [if_neg h1, if_neg h2] at h
        rw [lex_zero h, show x = y by omega]
theorem lex_trans : ∀ {a b c}, lexC a b < 0 → lexC b c < 0 → lexC a c < 0
  | [], [], _, h, _ => by simp [lexC] at h
  | [], _ :: _, [], _, h => by simp [lexC] at h
  | [], _ :: _, _ :: _, _, _ => by simp [lexC]
  | _ :: _, [], _, h, _ => by simp [lexC] at h
  | _ :: _, _ :: _, [], _, h => by simp [lexC] at h
  | x :: a, y :: b, z :: c, h, k => by
    unfold lexC at h k ⊢
    by_cases h1 : x < y
    · by_cases h2 : y < z
      · rw [if_pos (by omega)]; decide
      · by_cases h3 : z < y
        · rw [if_neg h2, if_pos h3] at k; simp at k
        · rw [if_pos (by omega)]; decide
    · by_cases h2 : y < x
      · rw [if_neg h1, if_pos h2] at h; simp at h
      · rw [if_neg h1, if_neg h2] at h
        by_cases h3 : y < z
        · rw [if_pos (by omega)]; decide
        · by_cases h4 : z < y
          · rw [if_neg h3, if_pos h4] at k; simp at k
          · rw [if_neg h3, if_neg h4] at k
            rw [if_neg (by omega), if_neg (by omega)]
            exact lex_trans h k
theorem lex_app : ∀ {a b : List Nat} (p q : List Nat), a.length = b.length → lexC (a ++ p) (b ++ q) = if lexC a b ≠ 0 then lexC a b else lexC p q
  | [], [], _, _, _ => by simp [lexC]
  | [], _ :: _, _, _, h => by simp at h
  | _ :: _, [], _, _, h => by simp at h
  | x :: a, y :: b, p, q, h => by
    have ih := lex_app (a := a) (b := b) p q (by simpa using h)
    simp only [List.cons_append, lexC]
    by_cases h1 : x < y
    · simp [h1]
    · by_cases h2 : y < x
      · simp [h1, h2]
      · simp only [h1, h2, if_false]; exact ih
theorem lex_bytes : ∀ a b : List UInt8, Lib.compareBytes a b = lexC (a.map (·.toNat)) (b.map (·.toNat))
  | [], [] => rfl
  | [], _ :: _ => rfl
  | _ :: _, [] => rfl
  | x :: a, y :: b => by
    have ih := lex_bytes a b
    simp only [Lib.compareBytes, List.map_cons, lexC, UInt8.lt_iff_toNat_lt, ih]
theorem map_nat_inj {a b : List UInt8} (h : a.map (·.toNat) = b.map (·.toNat)) : a = b :=
  (List.map_inj_right (fun _ _ e => UInt8.toNat_inj.1 e)).1 h
section
variable {α : Type} {lt : α → α → Bool}
/-- One list alone is in order and has just these. -/
theorem uniq (hi : ∀ x, lt x x = false) (ht : ∀ x y z, lt x y = true → lt y z = true → lt x z = true) : ∀ {xs ys : List α}, xs.Pairwise (fun a b => lt a b = true) → ys.Pairwise (fun a b => lt a b = true) → (∀ a, a ∈ xs ↔ a ∈ ys) → xs = ys
  | [], [], _, _, _ => rfl
  | [], y :: ys, _, _, h => by have := (h y).2 (by simp); simp at this
  | x :: xs, [], _, _, h => by have := (h x).1 (by simp); simp at this
  | x :: xs, y :: ys, hx, hy, h => by
    have hx' := List.pairwise_cons.1 hx
    have hy' := List.pairwise_cons.1 hy
    have e : x = y := by
      rcases List.mem_cons.1 ((h x).1 (by simp)) with h1 | h1
      · exact h1
      · rcases List.mem_cons.1 ((h y).2 (by simp)) with h2 | h2
        · exact h2.symm
        · have := ht _ _ _ (hx'.1 y h2) (hy'.1 x h1)
          rw [hi] at this; cases this
    subst e
    rw [uniq hi ht hx'.2 hy'.2 fun a => ?_]
    constructor
    · intro ha
      rcases List.mem_cons.1 ((h a).1 (List.mem_cons_of_mem _ ha)) with h1 | h1
      · subst h1; have := hx'.1 a ha; rw [hi] at this; cases this
      · exact h1
    · intro ha
      rcases List.mem_cons.1 ((h a).2 (List.mem_cons_of_mem _ ha)) with h1 | h1
      · subst h1; have := hy'.1 a ha; rw [hi] at this; cases this
      · exact h1
variable [DecidableEq α]
/-- Put in where it belongs. -/
def ins (lt : α → α → Bool) (x : α) : List α → List α
  | [] => [x]
  | y :: r => if lt x y = true then x :: y :: r else if x = y then y :: r else y :: ins lt x r
theorem ins_mem (x : α) : ∀ (l : List α) (a : α), a ∈ ins lt x l ↔ a = x ∨ a ∈ l
  | [], a => by simp [ins]
  | y :: r, a => by
    unfold ins
    by_cases h1 : lt x y = true
    · rw [if_pos h1]; simp
    · by_cases h2 : x = y
      · rw [if_neg h1, if_pos h2, h2]; simp
      · rw [if_neg h1, if_neg h2, List.mem_cons, ins_mem x r a, List.mem_cons]
        constructor
        · rintro (h | h | h)
          · exact .inr (.inl h)
          · exact .inl h
          · exact .inr (.inr h)
        · rintro (h | h | h)
          · exact .inr (.inl h)
          · exact .inl h
          · exact .inr (.inr h)
theorem ins_sorted (hT : ∀ x y, lt x y = false → lt y x = false → x = y) (ht : ∀ x y z, lt x y = true → lt y z = true → lt x z = true) (x : α) : ∀ {l : List α}, l.Pairwise (fun a b => lt a b = true) → (ins lt x l).Pairwise (fun a b => lt a b = true)
  | [], _ => by simp [ins]
  | y :: r, h => by
    have h' := List.pairwise_cons.1 h
    unfold ins
    by_cases h1 : lt x y = true
    · rw [if_pos h1]
      refine List.pairwise_cons.2 ⟨fun z hz => ?_, h⟩
      rcases List.mem_cons.1 hz with e | e
      · rw [e]; exact h1
      · exact ht _ _ _ h1 (h'.1 z e)
    · by_cases h2 : x = y
      · rw [if_neg h1, if_pos h2]; exact h
      · rw [if_neg h1, if_neg h2]
        refine List.pairwise_cons.2 ⟨fun z hz => ?_, ins_sorted hT ht x h'.2⟩
        rcases (ins_mem x r z).1 hz with e | e
        · subst e
          have hf : lt z y = false := by simpa using h1
          cases hc : lt y z with
          | true => rfl
          | false => exact absurd (hT _ _ hf hc) h2
        · exact h'.1 z e
/-- Neighbours that are one are taken together. -/
def dd : List α → List α
  | [] => []
  | [x] => [x]
  | x :: y :: r => if x = y then dd (y :: r) else x :: dd (y :: r)
theorem dd_mem : ∀ (l : List α) (a : α), a ∈ dd l ↔ a ∈ l
  | [], a => by simp [dd]
  | [x], a => by simp [dd]
  | x :: y :: r, a => by
    unfold dd
    have ih := dd_mem (y :: r) a
    by_cases h : x = y
    · rw [if_pos h, ih, h]; simp
    · rw [if_neg h, List.mem_cons, ih, List.mem_cons (a := a) (b := x)]
theorem dd_sorted (hT : ∀ x y, lt x y = false → lt y x = false → x = y) (ht : ∀ x y z, lt x y = true → lt y z = true → lt x z = true) : ∀ {l : List α}, l.Pairwise (fun a b => lt b a = false) → (dd l).Pairwise (fun a b => lt a b = true)
  | [], _ => by simp [dd]
  | [x], _ => by simp [dd]
  | x :: y :: r, h => by
    have h' := List.pairwise_cons.1 h
    have ih := dd_sorted hT ht h'.2
    unfold dd
    by_cases e : x = y
    · rw [if_pos e]; exact ih
    · rw [if_neg e]
      refine List.pairwise_cons.2 ⟨fun z hz => ?_, ih⟩
      have hz' := (dd_mem (y :: r) z).1 hz
      have h1 : lt x y = true := by
        cases hc : lt x y with
        | true => rfl
        | false => exact absurd (hT _ _ hc (h'.1 y (by simp))) e
      rcases List.mem_cons.1 hz' with e2 | e2
      · rw [e2]; exact h1
      · have h2 : lt z y = false := (List.pairwise_cons.1 h'.2).1 z e2
        cases hc : lt y z with
        | true => exact ht _ _ _ h1 hc
        | false => rw [← hT _ _ hc h2]; exact h1
theorem fold_ins (hT : ∀ x y, lt x y = false → lt y x = false → x = y) (ht : ∀ x y z, lt x y = true → lt y z = true → lt x z = true) : ∀ (l s : List α), s.Pairwise (fun a b => lt a b = true) → (l.foldl (fun s x => ins lt x s) s).Pairwise (fun a b => lt a b = true) ∧ ∀ a, a ∈ l.foldl (fun s x => ins lt x s) s ↔ a ∈ s ∨ a ∈ l
  | [], s, h => ⟨h, fun a => by simp⟩
  | x :: l, s, h => by
    obtain ⟨h1, h2⟩ := fold_ins hT ht l (ins lt x s) (ins_sorted hT ht x h)
    refine ⟨h1, fun a => ?_⟩
    rw [List.foldl_cons, h2 a, ins_mem, List.mem_cons]
    constructor
    · rintro ((h | h) | h)
      · exact .inr (.inl h)
      · exact .inl h
      · exact .inr (.inr h)
    · rintro (h | h | h)
      · exact .inl (.inr h)
      · exact .inl (.inl h)
      · exact .inr h
/-- Sorted and taken together, or put in one by one: one list. -/
theorem sorts_one (hO : SWO lt) (hT : ∀ x y, lt x y = false → lt y x = false → x = y) (l : List α) : dd (l.mergeSort fun x y => !lt y x) = l.foldl (fun s x => ins lt x s) [] := by
  have hs : (l.mergeSort fun x y => !lt y x).Pairwise (fun a b => lt b a = false) := by
    have := List.pairwise_mergeSort (le := fun x y => !lt y x) (fun a b c h1 h2 => by
      simp only [Bool.not_eq_true'] at h1 h2 ⊢
      exact hO.ntrans _ _ _ h2 h1) (fun a b => by
      cases h1 : lt b a with
      | false => simp
      | true =>
        cases h2 : lt a b with
        | false => simp
        | true => have := hO.trans _ _ _ h1 h2; rw [hO.irrefl] at this; cases this) l
    exact this.imp fun {a b} h => by simpa using h
  obtain ⟨h1, h2⟩ := fold_ins (lt := lt) hT hO.trans l [] (by simp)
  refine uniq hO.irrefl hO.trans (dd_sorted hT hO.trans hs) h1 fun a => ?_
  rw [dd_mem, h2 a]
  have := (List.mergeSort_perm l fun x y => !lt y x).mem_iff (a := a)
  simp [this]
end
end Go.Proofs.YtffghlbgbfhfdaaGreatDoor
