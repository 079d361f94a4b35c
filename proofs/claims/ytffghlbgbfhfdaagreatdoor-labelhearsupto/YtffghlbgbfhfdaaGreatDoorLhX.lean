/- LabelHears: the walk. -/
import Derived.Test.YtffghlbgbfhfdaaGreatDoorLhD
import Derived.Test.YtffghlbgbfhfdaaGreatDoorLnE
namespace Go.Proofs.YtffghlbgbfhfdaaGreatDoor
open Go.RowKit Go.Shelf Go.Sort
/-- What both Hear answer, as fingers. -/
theorem hr_one {s : ByteArray} {w : World} {e : Ending} {w' : World} (h : HrP s w e w') : Below w.heap.size w w' ∧ ∃ (g : Fg) (E : Nat), e = .returned (.tuple #[.agg (fing g), .int .i64 (E : Int)]) ∧ Ls g.v g.L w' ∧ ((E = 0 ∧ ∃ F : Fg, Ok F ∧ sayT F = s ∧ ∃ v, g = reS F v) ∨ (E = 25 ∧ g = fg0 ∧ ∀ F : Fg, Ok F → sayT F ≠ s)) := by
  obtain ⟨b, ⟨F, ok, he, v, rfl, ls⟩ | ⟨hn, rfl⟩⟩ := h
  · exact ⟨b, reS F v, 0, rfl, ls, .inl ⟨rfl, F, ok, he, v, rfl⟩⟩
  · exact ⟨b, fg0, 25, by rw [fg0_zF]; rfl, .inl ⟨rfl, none, 0, rfl, Nat.zero_le _, fun _ => rfl⟩, .inr ⟨rfl, rfl, hn⟩⟩
theorem hr_two {s : ByteArray} {a b : Fg} {E D : Nat} (ha : (E = 0 ∧ ∃ F : Fg, Ok F ∧ sayT F = s ∧ ∃ v, a = reS F v) ∨ (E = 25 ∧ a = fg0 ∧ ∀ F : Fg, Ok F → sayT F ≠ s)) (hb : (D = 0 ∧ ∃ F : Fg, Ok F ∧ sayT F = s ∧ ∃ v, b = reS F v) ∨ (D = 25 ∧ b = fg0 ∧ ∀ F : Fg, Ok F → sayT F ≠ s)) : E = D ∧ Same a b := by
  rcases ha with ⟨rfl, F, okF, hF, v, rfl⟩ | ⟨rfl, rfl, hn⟩
  · rcases hb with ⟨rfl, G, okG, hG, u, rfl⟩ | ⟨rfl, rfl, hn⟩
    · obtain ⟨h1, h2, h3, h4, h5, h6, h7⟩ := say_inj okF okG (hF.trans hG.symm)
      exact ⟨rfl, h1, h2, h3, h4, h5, h6, h7⟩
    · exact absurd hF (hn F okF)
  · rcases hb with ⟨rfl, G, okG, hG, u, rfl⟩ | ⟨rfl, rfl, -⟩
    · exact absurd hG (hn G okG)
    · exact ⟨rfl, rfl, rfl, rfl, rfl, rfl, rfl, rfl⟩
theorem hr_len {s : ByteArray} {a : Fg} {E : Nat} (ha : (E = 0 ∧ ∃ F : Fg, Ok F ∧ sayT F = s ∧ ∃ v, a = reS F v) ∨ (E = 25 ∧ a = fg0 ∧ ∀ F : Fg, Ok F → sayT F ≠ s)) : a.L.length ≤ 256 := by
  rcases ha with ⟨-, F, ok, -, v, rfl⟩ | ⟨-, rfl, -⟩
  · exact (dd_ok ok).1
  · exact Nat.zero_le _
attribute [local go_sem ↓] toFl to26s
set_option maxRecDepth 100000 in
set_option maxHeartbeats 3200000 in
theorem hears_any (s : ByteArray) (hs : s.size ≤ 1073741000) (w : World) (hk : Tk w) (hx : Tx w) (he : Te w) (h8 : 8 < w.heap.size) :
    Calls Tryz.prog 3 #[.string s] w fun e w' => e = .returned (.bool true) ∧ Below w.heap.size w w' := by
  have CA : Hid _ := hear_any s (by omega) w hk hx he h8
  have HS : Hid (s.size ≤ 1073741000) := hs
  clear hk hx he h8 hs
  go_enter Tryz.func3, Tryz.ntmps3
  go_wp2_with fail
  refine Calls.mono CA.out ?_
  rintro e W1 h1
  obtain ⟨b1, a, E, rfl, la, ha⟩ := hr_one h1
  obtain ⟨oa, ca, hva, -, -⟩ := la.form
  obtain ⟨A, hA⟩ : ∃ A, A = fing a := ⟨_, rfl⟩
  have hAs : A.size = 38 := by rw [hA]; exact fing_size a
  have hA1 : A.all (·.oneCell') = true := by rw [hA, fing_fgA, hva]; exact fgA_one _ _ _ _ _ _ _ _ _
  rw [← hA]
  obtain ⟨W2, s2, r2, b2⟩ := layF W1 A hAs hA1
  have CB : Hid _ := hearR_any s HS.out W2
  have HA : Hid (A = fing a ∧ A.size = 38 ∧ W2.heap[W1.heap.size]? = some (.cells A 26 (0, 0)) ∧ Ls a.v a.L W2 ∧ Below w.heap.size w W2 ∧ W1.heap.size < W2.heap.size) := ⟨hA, hAs, r2, la.below b2, b1.trans (b2.mono b1.size), (Array.getElem?_eq_some_iff.1 r2).1⟩
  have HHA : Hid _ := ha
  clear CA h1 b1 la hva hA hAs hA1 r2 b2 ha
  go_wp2_with fail
  refine Calls.mono CB.out ?_
  rintro e W3 h3
  obtain ⟨b3, b, D, rfl, lb, hb⟩ := hr_one h3
  obtain ⟨ob, cb, hvb, -, -⟩ := lb.form
  obtain ⟨B, hB⟩ : ∃ B, B = fing b := ⟨_, rfl⟩
  have hBs : B.size = 38 := by rw [hB]; exact fing_size b
  have hB1 : B.all (·.oneCell') = true := by rw [hB, fing_fgA, hvb]; exact fgA_one _ _ _ _ _ _ _ _ _
  rw [← hB]
  obtain ⟨W4, s4, r4, b4⟩ := layF W3 B hBs hB1
  obtain ⟨hED, hsm⟩ := hr_two HHA.out hb
  subst hED
  have b24 : Below W2.heap.size W2 W4 := b3.trans (b4.mono b3.size)
  have l4 := ldF W4 W3.heap.size B hBs r4
  have l2 := ldF W4 W1.heap.size A HA.out.2.1 ((b24.block _ HA.out.2.2.2.2.2).trans HA.out.2.2.1)
  have CS : Hid (Calls Tryz.prog 6 #[.agg A, .agg B] W4 fun e w' => e = .returned (.bool true) ∧ Below W4.heap.size W4 w') := by
    have := sameF_any a b W4 (HA.out.2.2.2.1.below b24) (lb.below b4) (by have := hr_len HHA.out; omega) (by have := hr_len hb; omega)
    rw [HA.out.1, hB]
    refine Calls.mono this ?_
    rintro e w' ⟨⟨r, rfl, hr⟩, hw⟩
    rw [hr.2 hsm]
    exact ⟨rfl, hw⟩
  have HB4 : Hid (Below w.heap.size w W4) := HA.out.2.2.2.2.1.trans (b24.mono HA.out.2.2.2.2.1.size)
  clear CB h3 b3 lb hb hvb hB hBs hB1 r4 b4 b24 hsm
  go_wp2_with fail
  refine Calls.mono CS.out ?_
  rintro e W5 ⟨rfl, b5⟩
  have HB5 : Hid (Below w.heap.size w W5) := HB4.out.trans (b5.mono HB4.out.size)
  clear CS b5 s2 s4 l2 l4
  go_wp2_with fail
  go_ret
  exact ⟨by simp, HB5.out⟩
end Go.Proofs.YtffghlbgbfhfdaaGreatDoor
