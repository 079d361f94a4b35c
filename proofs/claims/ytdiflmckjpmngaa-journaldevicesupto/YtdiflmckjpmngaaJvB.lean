/- The journal's device: bytes.Clone, with, synced. -/
import Derived.Test.YtdiflmckjpmngaaJvA
import Derived.RegionTactic
import Derived.Deep.RegionWith
import Derived.Deep.DrawnRows
import Derived.Deep.DeepCutAuto
import Derived.Laws.CopyOwn
import Derived.Lib.BufferMore
namespace Go.Proofs.Ytdiflmckjpmngaa
open Go.RowKit
attribute [local go_sem ↓] toApB
theorem own_sl {w : World} {lo e sz n : Nat} {v : Value} {xs : List Value} (h : w.ownsRow lo e sz v n xs) : ∃ o m c, v = .slice o m c := by
  rcases h.2 with ⟨h1, _⟩ | ⟨g, cap, cur, h1, _⟩
  · exact ⟨_, _, _, h1⟩
  · exact ⟨_, _, _, h1⟩
set_option maxRecDepth 100000 in
theorem clone_any (u : Value) (l : List Nat) (W : World) (hl : Bl W u l) (hpos : 0 < l.length) (hlim : l.length ≤ LIM) : Calls Try.prog 36 #[u] W fun e w' => ∃ g cap, e = .returned (.slice (some ⟨g, 0, none⟩) l.length cap) ∧ w'.ownsRow W.heap.size 5 1 (.slice (some ⟨g, 0, none⟩) l.length cap) l.length (bs l) ∧ Below W.heap.size W w' ∧ W.heap.size ≤ g ∧ g < w'.heap.size := by
  obtain ⟨W1, hW1⟩ : ∃ W1, W.alloc (.cells #[] 5) = W1 := ⟨_, rfl⟩
  have b1 : Below W.heap.size W W1 := by rw [← hW1]; exact (Below.refl _ W).alloc (Nat.le_refl _) _
  have r1 : W1.heap[W.heap.size]? = some (.cells #[] 5 (0, 0)) := by rw [← hW1]; exact heap_alloc_new _ _
  have o1 : W1.ownsRow W.heap.size 5 1 (.slice (some ⟨W.heap.size, 0, none⟩) 0 0) 0 [] := ⟨rfl, .inr ⟨W.heap.size, 0, #[], rfl, Nat.le_refl _, r1, Nat.le_refl _, by unfold maxLen; omega, rfl, rfl⟩⟩
  obtain ⟨v', X, hr, ho, hg, hat⟩ := run_apB1 W1 W.heap.size 0 _ u [] l o1 (hl.below b1) (by unfold LIM at *; omega) hpos (by have := b1.size; omega)
  rw [Nat.zero_add, List.nil_append] at ho
  have bX : Below W.heap.size W X := by
    refine ⟨hg.os.trans b1.os, hg.tape.trans b1.tape, hg.output.trans b1.output, Nat.le_trans b1.size hg.size, fun j hj => (hg.block j (by have := b1.size; omega) (fun e => by simp [Value.ownBlock] at e; omega)).trans (b1.block j hj)⟩
  obtain ⟨g, cap, hv, hgl, hgs⟩ : ∃ g cap, v' = .slice (some ⟨g, 0, none⟩) l.length cap ∧ W.heap.size ≤ g ∧ g < X.heap.size := by
    rcases ho.2 with ⟨h1, h2⟩ | ⟨g, cap, cur, h1, h2, h3, _⟩
    · omega
    · exact ⟨g, cap, h1, h2, (Array.getElem?_eq_some_iff.1 h3).1⟩
  subst hv
  obtain ⟨oa, cp, rfl, h2, h3, h4, h5⟩ := hl
  obtain ⟨u0, hu0⟩ : ∃ u0, (bs l)[0]? = some u0 := ⟨_, List.getElem?_eq_getElem (by rw [bs_len]; exact hpos)⟩
  obtain ⟨ga, oo, rfl, -, -⟩ := h5 0 u0 hu0
  have HF : Hid (X.ownsRow W.heap.size 5 1 (.slice (some ⟨g, 0, none⟩) l.length cap) l.length (bs l) ∧ Below W.heap.size W X ∧ W.heap.size ≤ g ∧ g < X.heap.size) := ⟨ho, bX, hgl, hgs⟩
  rw [← hW1] at hr
  clear hW1 b1 r1 o1 ho hg hat bX hgl hgs h2 h3 h4 h5 hu0 hpos hlim
  have hn := fun w => Lib.run_eql_slice_some_nil (P := Try.prog) w (t := 25) ⟨ga, oo, none⟩ l.length cp Try.underlying25
  go_enter Try.func36, Try.ntmps36
  go_wp2
  go_ret
  exact ⟨g, cap, rfl, HF.out⟩
theorem row2 (W : World) (a b : Obj) : ((W.alloc a).alloc b).heap[W.heap.size]? = some a := (heap_alloc_old _ _ (h := by simp)).trans (heap_alloc_new _ _)
theorem row2n (W : World) (a b : Obj) : ((W.alloc a).alloc b).heap[W.heap.size + 1]? = some b := by
  have := heap_alloc_new (W.alloc a) b
  rwa [show (W.alloc a).heap.size = W.heap.size + 1 by simp] at this
theorem below2 (W : World) (a b : Obj) : Below W.heap.size W ((W.alloc a).alloc b) := ((Below.refl _ W).alloc (Nat.le_refl _) _).alloc (by simp) _
set_option maxRecDepth 100000 in
theorem synced_any (Q : Nat → Prop) (c : Array Value) (d : List Nat) (s : Nat) (W : World) (hc : Cn Q W c d s) (hQ : ∀ j, Q j → j < W.heap.size) : Calls Try.prog 24 #[.agg c] W fun e w' => ∃ c', e = .returned (.agg c') ∧ Cn Q w' c' d d.length ∧ Below W.heap.size W w' := by
  obtain ⟨p, rfl, hch, hs, hlim⟩ := hc
  have HC : Hid (Ch Q W p d ∧ d.length ≤ LIM) := ⟨hch, hlim⟩
  clear hch hs hlim
  unfold cnA at *
  go_enter Try.func24, Try.ntmps24
  go_wp2
  refine bodyPost_ret (results_C rfl _ _ (W.heap.size + 1) _ rfl rfl (row2n _ _ _)) rfl ?_
  have b := below2 W (.cells #[.pointer p, .int .i64 (d.length : Int), .int .i64 (d.length : Int)] 50) (.cells #[.pointer p, .int .i64 (d.length : Int), .int .i64 (d.length : Int)] 50)
  exact ⟨_, rfl, ⟨p, rfl, HC.out.1.keep (fun j hj => b.block j (hQ j hj)) (fun _ h => h), Nat.le_refl _, HC.out.2⟩, b⟩
theorem Ch.cut1 {Q : Nat → Prop} {W : World} {p : Option Addr} {d : List Nat} (h : Ch Q W p d) : (p = none ∧ d = []) ∨ ∃ (g : Nat) (ah : Option Addr) (m : Nat) (pre : List Nat), p = some ⟨g, 0, none⟩ ∧ W.cell? ⟨g, 0, none⟩ = some (.pointer ah) ∧ W.cell? ⟨g, 1, none⟩ = some (.int .i64 (m : Int)) ∧ Q g ∧ m < d.length ∧ pre = d.take m ∧ pre.length = m ∧ Ch Q W ah pre ∧ ∀ n : Nat, m < n → n ≤ d.length → Ch Q W (some ⟨g, 0, none⟩) (d.take n) := by
  cases h with
  | nil => exact .inl ⟨rfl, rfl⟩
  | cons g b cap k ah pre D h1 h2 h3 h4 h5 h6 h7 h8 h9 h10 =>
    refine .inr ⟨g, ah, pre.length, pre, rfl, by rw [cell_of_row _ _ _ _ _ _ h3]; rfl, by rw [cell_of_row _ _ _ _ _ _ h3]; rfl, h1, ?_, ?_, rfl, h10, fun n hn hn2 => ?_⟩
    · rw [List.length_append, List.length_take]; omega
    · simp
    · rw [List.take_append, List.take_take, List.take_of_length_le (by omega)]
      rw [List.length_append, List.length_take] at hn2
      exact .cons g b cap (min (n - pre.length) k) ah pre D h1 h2 h3 h4 h5 h6 h7 (by omega) (by omega) h10
end Go.Proofs.Ytdiflmckjpmngaa
