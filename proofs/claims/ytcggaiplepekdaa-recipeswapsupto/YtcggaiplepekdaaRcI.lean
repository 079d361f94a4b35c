/- Recipes: a cell of a list is written over; fresh, with one answer. -/
import Derived.Test.YtcggaiplepekdaaRcH
namespace Go.Proofs.Ytcggaiplepekdaa
open Go.RowKit
theorem flat_set {sz : Nat} : ∀ {ls : List (Array Value)}, (∀ c ∈ ls, c.size = sz) → ∀ (i j : Nat) c x, ls[i]? = some c → j < sz → (flat ls).set (i * sz + j) x = flat (ls.set i (c.setIfInBounds j x))
  | [], _, i, j, c, x, h, _ => by simp at h
  | a :: l, hz, 0, j, c, x, h, hj => by
    obtain rfl : a = c := by simpa using h
    have ha : a.toList.length = sz := by rw [Array.length_toList]; exact hz a List.mem_cons_self
    show (a.toList ++ flat l).set (0 * sz + j) x = (a.setIfInBounds j x).toList ++ flat l
    rw [Nat.zero_mul, Nat.zero_add, List.set_append_left _ _ (by omega), Array.toList_setIfInBounds]
  | a :: l, hz, i + 1, j, c, x, h, hj => by
    have ih := flat_set (ls := l) (fun c hc => hz c (List.mem_cons_of_mem _ hc)) i j c x (by simpa using h) hj
    have ha : a.toList.length = sz := by rw [Array.length_toList]; exact hz a List.mem_cons_self
    show (a.toList ++ flat l).set ((i + 1) * sz + j) x = a.toList ++ flat (l.set i (c.setIfInBounds j x))
    rw [List.set_append_right _ _ (by rw [ha, Nat.add_mul]; omega), ha, show (i + 1) * sz + j - sz = i * sz + j by rw [Nat.add_mul]; omega, ih]
theorem Rs.set {sz : Nat} {l : List (Array Value)} (h : Rs sz l) (i j : Nat) (c : Array Value) (x : Value) (hc : l[i]? = some c) (hx : x.oneCell' = true) : Rs sz (l.set i (c.setIfInBounds j x)) := fun d hd => by
  rcases List.mem_or_eq_of_mem_set hd with q | q
  · exact h d q
  · subst q
    obtain ⟨h1, h2⟩ := h c (List.mem_of_getElem? hc)
    refine ⟨by simp [h1], ?_⟩
    rw [Array.all_eq_true_iff_forall_mem] at h2 ⊢
    intro u hu
    rcases Array.mem_or_eq_of_mem_setIfInBounds hu with q | q
    · exact h2 u q
    · subst q; exact hx
/-- A cell of an owned list is written over. -/
theorem Ol.setc {base e sz : Nat} {W : World} {g n cap : Nat} {l : List (Array Value)} (h : Ol base e sz W (.slice (some ⟨g, 0, none⟩) n cap) l) (i j : Nat) (c : Array Value) (x : Value) (hc : l[i]? = some c) (hj : j < sz) (hx : x.oneCell' = true) : Ol base e sz (W.setCell ⟨g, i * sz + j, none⟩ x) (.slice (some ⟨g, 0, none⟩) n cap) (l.set i (c.setIfInBounds j x)) := by
  have hn : n = l.length := by
    obtain ⟨a, k, q, -⟩ := h.form
    injection q
  subst hn
  have := h.1.stored (i * sz + j) x
  rw [flat_set h.2.sz i j c x hc hj] at this
  refine ⟨?_, h.2.set i j c x hc hx⟩
  rw [List.length_set]
  exact this.1
theorem Ol.own {base e sz : Nat} {W : World} {a : Option Addr} {n cap : Nat} {l : List (Array Value)} (h : Ol base e sz W (.slice a n cap) l) (hn : 0 < n) : ∃ g, a = some ⟨g, 0, none⟩ := by
  rcases h.1.2 with ⟨q, hq⟩ | ⟨g, _, _, q, _⟩
  · injection q with _ q2
    omega
  · injection q with q1
    exact ⟨g, q1⟩
theorem Ol.fro {base e sz : Nat} {W : World} {g n cap : Nat} {l : List (Array Value)} (h : Ol base e sz W (.slice (some ⟨g, 0, none⟩) n cap) l) (j : Nat) : W.frozen? ⟨g, j, none⟩ = false := by
  have hn : n = l.length := by
    obtain ⟨a, k, q, -⟩ := h.form
    injection q
  subst hn
  exact h.1.frozenAt j
theorem Ol.cel {base e sz : Nat} {W : World} {g n cap : Nat} {l : List (Array Value)} (h : Ol base e sz W (.slice (some ⟨g, 0, none⟩) n cap) l) (i j : Nat) (c : Array Value) (x : Value) (hc : l[i]? = some c) (hx : c[j]? = some x) : W.cell? ⟨g, i * sz + j, none⟩ = some x := by
  have := h.1.cells (g := g) rfl (i * sz + j) x (flat_at h.2.sz i c hc j x (by simpa using hx))
  rw [Addr.add_mid, Nat.zero_add] at this
  exact this
/-- A list of another kind stays where a cell is written over. -/
theorem Ol.other {base base' e e' sz sz' : Nat} {W : World} {v : Value} {g k n cap : Nat} {u : Value} {l l' : List (Array Value)} (h : Ol base e sz W v l) (h' : Ol base' e' sz' W (.slice (some ⟨g, 0, none⟩) n cap) l') (he : e ≠ e') : Ol base e sz (W.setCell ⟨g, k, none⟩ u) v l := h.keep fun b hb => by
  obtain ⟨_, _, cur, hc⟩ := h.tag hb
  obtain ⟨_, _, cur', hc'⟩ := h'.tag (g := g) rfl
  exact heap_setCell_other _ _ _ _ (by show b ≠ g; exact tag_ne hc hc' he)
/-- A list in another block stays. -/
theorem Ol.apart {base e sz : Nat} {W : World} {v : Value} {g k : Nat} {u : Value} {l : List (Array Value)} (h : Ol base e sz W v l) (hn : v.ownBlock ≠ some g) : Ol base e sz (W.setCell ⟨g, k, none⟩ u) v l := h.keep fun b hb => heap_setCell_other _ _ _ _ (by show b ≠ g; intro q; subst q; exact hn hb)
def FrD (fn : Nat) (W : World) (v : Value) (e sz : Nat) (l : List (Array Value)) : Prop := ∃ a n c w', Calls Try.prog fn #[v] W (fun en w => en = .returned (.slice a n c) ∧ w = w') ∧ Ol W.heap.size e sz w' (.slice a n c) l ∧ Below W.heap.size W w'
section
attribute [local go_sem ↓] toApO toApI toApS toApP
set_option maxRecDepth 100000 in
theorem fresDO (W : World) (v : Value) (l : List (Array Value)) (h : Ls W v 4 l) (hl : l.length ≤ MX) : FrD 33 W v 39 4 l := by
  obtain ⟨v', w', hr, hP⟩ := run_apO W W.heap.size (.slice none 0 0) v [] l (ol_nil _ _ _ _) h (by simpa using hl) (Nat.le_refl _)
  obtain ⟨oa, cap, hv, -⟩ := id h
  obtain ⟨n, hn⟩ : ∃ n, l.length = n := ⟨_, rfl⟩
  rw [hn] at hv
  subst hv
  obtain ⟨o', n', c', hv'⟩ : ∃ a b c, v' = .slice a b c := by
    rcases hP.1.1.2 with ⟨q, _⟩ | ⟨_, _, _, q, _⟩ <;> exact ⟨_, _, _, q⟩
  subst hv'
  refine ⟨o', n', c', w', ?_, by simpa using hP.1, ApP.fresh hP⟩
  clear h hl hP hn
  go_enter Try.func33, Try.ntmps33
  go_wp2_with fail
  go_ret
  exact ⟨rfl, rfl⟩
set_option maxRecDepth 100000 in
theorem fresDI (W : World) (v : Value) (l : List (Array Value)) (h : Ls W v 2 l) (hl : l.length ≤ MX) : FrD 34 W v 42 2 l := by
  obtain ⟨v', w', hr, hP⟩ := run_apI W W.heap.size (.slice none 0 0) v [] l (ol_nil _ _ _ _) h (by simpa using hl) (Nat.le_refl _)
  obtain ⟨oa, cap, hv, -⟩ := id h
  obtain ⟨n, hn⟩ : ∃ n, l.length = n := ⟨_, rfl⟩
  rw [hn] at hv
  subst hv
  obtain ⟨o', n', c', hv'⟩ : ∃ a b c, v' = .slice a b c := by
    rcases hP.1.1.2 with ⟨q, _⟩ | ⟨_, _, _, q, _⟩ <;> exact ⟨_, _, _, q⟩
  subst hv'
  refine ⟨o', n', c', w', ?_, by simpa using hP.1, ApP.fresh hP⟩
  clear h hl hP hn
  go_enter Try.func34, Try.ntmps34
  go_wp2_with fail
  go_ret
  exact ⟨rfl, rfl⟩
set_option maxRecDepth 100000 in
theorem fresDS (W : World) (v : Value) (l : List (Array Value)) (h : Ls W v 1 l) (hl : l.length ≤ MX) : FrD 35 W v 9 1 l := by
  obtain ⟨v', w', hr, hP⟩ := run_apS W W.heap.size (.slice none 0 0) v [] l (ol_nil _ _ _ _) h (by simpa using hl) (Nat.le_refl _)
  obtain ⟨oa, cap, hv, -⟩ := id h
  obtain ⟨n, hn⟩ : ∃ n, l.length = n := ⟨_, rfl⟩
  rw [hn] at hv
  subst hv
  obtain ⟨o', n', c', hv'⟩ : ∃ a b c, v' = .slice a b c := by
    rcases hP.1.1.2 with ⟨q, _⟩ | ⟨_, _, _, q, _⟩ <;> exact ⟨_, _, _, q⟩
  subst hv'
  refine ⟨o', n', c', w', ?_, by simpa using hP.1, ApP.fresh hP⟩
  clear h hl hP hn
  go_enter Try.func35, Try.ntmps35
  go_wp2_with fail
  go_ret
  exact ⟨rfl, rfl⟩
set_option maxRecDepth 100000 in
theorem fresDP (W : World) (v : Value) (l : List (Array Value)) (h : Ls W v 2 l) (hl : l.length ≤ MX) : FrD 36 W v 44 2 l := by
  obtain ⟨v', w', hr, hP⟩ := run_apP W W.heap.size (.slice none 0 0) v [] l (ol_nil _ _ _ _) h (by simpa using hl) (Nat.le_refl _)
  obtain ⟨oa, cap, hv, -⟩ := id h
  obtain ⟨n, hn⟩ : ∃ n, l.length = n := ⟨_, rfl⟩
  rw [hn] at hv
  subst hv
  obtain ⟨o', n', c', hv'⟩ : ∃ a b c, v' = .slice a b c := by
    rcases hP.1.1.2 with ⟨q, _⟩ | ⟨_, _, _, q, _⟩ <;> exact ⟨_, _, _, q⟩
  subst hv'
  refine ⟨o', n', c', w', ?_, by simpa using hP.1, ApP.fresh hP⟩
  clear h hl hP hn
  go_enter Try.func36, Try.ntmps36
  go_wp2_with fail
  go_ret
  exact ⟨rfl, rfl⟩
end
end Go.Proofs.Ytcggaiplepekdaa
