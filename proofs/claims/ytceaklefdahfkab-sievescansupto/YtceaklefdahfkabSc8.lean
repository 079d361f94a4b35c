/- SieveScans: both scanners, made. -/
import Derived.Test.YtceaklefdahfkabSc7
namespace Go.Proofs.Ytceaklefdahfkab
open Go.RowKit
theorem scanners {B0 : Nat} {l : List ByteArray} {p q : Option Addr} {w1 : World} (A : Nat) (hA : A < w1.heap.size) (h : Both B0 l p q w1) :
    Calls Try.prog 19 #[.pointer p] w1 fun e w' => ∃ c, e = .returned (.pointer c) ∧ Below w1.heap.size w1 w' ∧ Calls Try.prog 27 #[.pointer q] w' fun e2 w2 => ∃ d, e2 = .returned (.pointer d) ∧ Below w1.heap.size w1 w2 ∧ ((c = none ∧ d = none) ∨ ∃ a b, c = some a ∧ d = some b) ∧ ∃ gs gd SC SR H2 HD NN, Sys A w2.heap.size gs gd c d SC SR H2 HD NN ∧ SC [] w2 ∧ SR [] none w2 := by
  rcases h with ⟨rfl, rfl⟩ | ⟨g, h, rfl, rfl, t1, t2, t3, t4, t5, ns, t6, gt, lv, fv, t7, t8, t9⟩
  · refine (scanner_nil w1).mono ?_
    rintro e w' ⟨rfl, rfl⟩
    refine ⟨none, rfl, Below.refl _ _, (scannerR_nil _).mono ?_⟩
    rintro e w' ⟨rfl, rfl⟩
    exact ⟨none, rfl, Below.refl _ _, .inl ⟨rfl, rfl⟩, _, _, _, _, _, _, _, sys_nil A _ hA, trivial, rfl⟩
  · refine (scanner_any g gt w1 t7).mono ?_
    rintro e w' ⟨rfl, a1, a2, a3⟩
    refine ⟨_, rfl, a2, (scannerR_any h w').mono ?_⟩
    rintro e w2 ⟨rfl, b1, b2, b3⟩
    have hb : Below w1.heap.size w1 w2 := a2.trans (b2.mono (by omega))
    have hs : Scn w1.heap.size gt 0 0 0 w2 := (b2.block _ (by omega)).trans a1
    refine ⟨_, rfl, hb, .inr ⟨_, _, rfl, rfl⟩, ?_⟩
    by_cases hl : l = []
    · subst hl
      have hn : ns = [] := by have := t6.1.len; exact List.length_eq_zero_iff.1 (by simpa using this)
      subst hn
      refine ⟨_, _, _, _, _, _, _, sys_e A w1.heap.size w2.heap.size w1.heap.size w'.heap.size gt h lv fv _ w1 rfl (by omega) (Nat.le_refl _) (by omega) (by omega) t8.tabK t9, ⟨hs, hb.size, fun j hj => hb.block j hj⟩, ⟨⟨_, b1, .inl ⟨rfl, rfl⟩, rfl⟩, hb.size, fun j hj => hb.block j hj⟩⟩
    · have hp := wdO_pt t2 t1 hl
      have hw := hp.wd t6
      refine ⟨_, _, _, _, _, _, _, sys_p l ns _ hp t6 t3 A w1.heap.size w2.heap.size w1.heap.size w'.heap.size gt h lv fv w1 rfl (by omega) (Nat.le_refl _) (by omega) (by omega) t8.tabK t9, ⟨⟨0, ?_, hw.at0⟩, hb.size, fun j hj => hb.block j hj⟩, ⟨⟨_, b1, .inl ⟨rfl, ?_⟩, rfl⟩, hb.size, fun j hj => hb.block j hj⟩⟩
      · have : hld2 (l.map tl) (wdO l).1 [] = 0 := by
          unfold hld2
          rw [show min ((wdO l).1 - 1) ([] : List Nat).length = 0 by simp]
          rfl
        rw [this]; exact hs
      · simp [lastN]
end Go.Proofs.Ytceaklefdahfkab
