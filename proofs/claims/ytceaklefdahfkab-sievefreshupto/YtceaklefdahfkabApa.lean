/- A text appended to texts with no room behind them. -/
import Derived.Test.YtceaklefdahfkabFn5
import Derived.ArgAppend
namespace Go.Proofs.Ytceaklefdahfkab
open Go.RowKit
/-- A text appended to texts with no room behind them. -/
theorem run_apA (w : World) (ty : Nat) (o : Option Addr) (c : Nat) (l : List ByteArray) (s : ByteArray) (h : St (.slice o l.length c) l w) (hl : l.length ≤ 1073741824) :
    ∃ v' w', (apS ty #[.slice o l.length l.length, .slice (some ⟨w.heap.size, 0, none⟩) 1 1]).run Try.prog (w.alloc (.cells #[.string s] 9)) = .ok v' w' ∧ St v' (l ++ [s]) w' ∧ Below w.heap.size w w' := by
  obtain ⟨i0, hi0, hz0, hz1, hz2⟩ := info_parts info9
  rcases h with ⟨h1, h2⟩ | ⟨b, off, cap, h1, h2, h3, h4, h5⟩
  · subst h2
    cases h1
    obtain ⟨v', w', r, ho, hg⟩ := run_apS w w.heap.size 0 ty (.slice none 0 0) [] s (World.ownsRow_nil _ _ _ _) (by omega) (Nat.le_refl _)
    refine ⟨v', w', r, own_st ho rfl, ⟨by rw [hg.os]; rfl, by rw [hg.tape]; rfl, by rw [hg.output]; rfl, by have := hg.size; simp at this; omega, fun j hj => ?_⟩⟩
    rw [hg.block j (by simp; omega) (fun e => by cases e), heap_alloc_old _ _ (h := hj)]
  · cases h1
    have holds : ∀ (j : Nat) (u : Value), (sk l).toList[j]? = some u → (w.alloc (.cells #[.string s] 9)).cell? ((⟨b, off, none⟩ : Addr).add j) = some u := fun j u hu => by
      have hj : j < l.length := by have := (List.getElem?_eq_some_iff.1 hu).1; simpa [sk] using this
      rw [Array.getElem?_toList, sk_get l j hj] at hu
      rw [← Option.some.inj hu, Go.WideShapes.add_plain]
      exact (World.cell?_of_block (w := w) (heap_alloc_old _ _ (h := h4))).trans (h5 j _ (txt_get hj))
    obtain ⟨v', w', r, ho, hg⟩ := run_append_arg_grows (P := Try.prog) (w := w.alloc (.cells #[.string s] 9)) 22 ty 9 i0 _ 1 16 Try.underlying22 hi0 hz0 hz1 hz2 rfl (by omega) ⟨b, off, none⟩ l.length l.length (sk l).toList (by simp [sk]) holds ⟨w.heap.size, 0, none⟩ 1 1 [.string s] rfl
      (World.news_of_block (cs := #[.string s]) (t := 9) (fr := (0, 0)) (heap_alloc_new w _)) (by omega) (by unfold maxLen; omega) (by omega)
    rw [← sk_snoc] at ho
    refine ⟨v', w', r, own_st ho (by simp), ⟨by rw [hg.os]; rfl, by rw [hg.tape]; rfl, by rw [hg.output]; rfl, by have := hg.size; simp at this; omega, fun j hj => ?_⟩⟩
    rw [hg.block j (by simp; omega) (fun e => by cases e), heap_alloc_old _ _ (h := hj)]
end Go.Proofs.Ytceaklefdahfkab
