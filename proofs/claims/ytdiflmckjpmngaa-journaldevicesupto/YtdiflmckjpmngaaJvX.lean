/- JournalDevices: the document's device as it lies. -/
import Derived.Test.YtdiflmckjpmngaaJvW
import Derived.Test.YtdiflmckjpmngaaJvE
import Derived.Laws.AppendOwn
namespace Go.Proofs.Ytdiflmckjpmngaa
open Go.RowKit
/-- A slice begins where its block does. -/
def Off (oa : Option Addr) (cap : Nat) : Prop := (oa = none → cap = 0) ∧ ∀ a, oa = some a → a = ⟨a.block, 0, none⟩
/-- Bytes in blocks of a kind. -/
def Bq (Q : Nat → Prop) (W : World) (v : Value) (l : List Nat) : Prop :=
  ∃ oa cap, v = .slice oa l.length cap ∧ Off oa cap ∧ l.length ≤ cap ∧ cap ≤ maxLen ∧ Byt l ∧ ∀ (j : Nat) u, (bs l)[j]? = some u → ∃ g o, oa = some ⟨g, o, none⟩ ∧ Q g ∧ W.cell? ⟨g, o + j, none⟩ = some u
theorem Bq.keep {Q Q' : Nat → Prop} {W W' : World} (hb : ∀ j, Q j → W'.heap[j]? = W.heap[j]?) (hq : ∀ j, Q j → Q' j) {v : Value} {l : List Nat} (h : Bq Q W v l) : Bq Q' W' v l := by
  obtain ⟨oa, cap, h1, h2, h3, h4, h5, h6⟩ := h
  refine ⟨oa, cap, h1, h2, h3, h4, h5, fun j u hu => ?_⟩
  obtain ⟨g, o, e1, e2, e3⟩ := h6 j u hu
  exact ⟨g, o, e1, hq g e2, (World.cell?_of_block (w := W) (a := ⟨g, o + j, none⟩) (hb g e2)).trans e3⟩
theorem Bq.bl {Q : Nat → Prop} {W : World} {v : Value} {l : List Nat} (h : Bq Q W v l) (hQ : ∀ j, Q j → j < W.heap.size) : Bl W v l := by
  obtain ⟨oa, cap, h1, h2, h3, h4, h5, h6⟩ := h
  refine ⟨oa, cap, h1, h3, h4, h5, fun j u hu => ?_⟩
  obtain ⟨g, o, e1, e2, e3⟩ := h6 j u hu
  exact ⟨g, o, e1, hQ g e2, e3⟩
theorem bq_nil (Q : Nat → Prop) (W : World) : Bq Q W (.slice none 0 0) [] := ⟨none, 0, rfl, ⟨fun _ => rfl, fun a h => by cases h⟩, Nat.le_refl _, Nat.zero_le _, (fun x h => by cases h), fun j u h => by simp [bs] at h⟩
theorem bq_own {Q : Nat → Prop} {W : World} {base n : Nat} {v : Value} {l : List Nat} (h : W.ownsRow base 5 1 v n (bs l)) (hb : Byt l) (hQ : ∀ g, v.ownBlock = some g → Q g) (hn : n = l.length) : Bq Q W v l := by
  subst hn
  rcases h.2 with ⟨rfl, h2⟩ | ⟨g, cap, cur, rfl, h2, h3, h4, h5, h6, h7⟩
  · obtain rfl : l = [] := List.length_eq_zero_iff.1 h2
    exact bq_nil Q W
  · refine ⟨some ⟨g, 0, none⟩, cap, rfl, ⟨(fun e => by cases e), (fun a e => by cases e; rfl)⟩, h4, h5, hb, fun j u hu => ⟨g, 0, rfl, hQ g rfl, ?_⟩⟩
    have := h.cells (g := g) rfl j u hu
    rwa [Addr.add_mid] at this
/-- Bytes behind bytes of one's own, whatever they are. -/
theorem run_apQ (w : World) (base n : Nat) (v u : Value) (xs : List Value) (l : List Nat) {Q : Nat → Prop} (hown : w.ownsRow base 5 1 v n xs) (hl : Bq Q w u l) (hb : n + l.length ≤ LIM) (hbase : base ≤ w.heap.size) :
    ∃ v' w', (apB 25 #[v, u]).run Try.prog w = .ok v' w' ∧ w'.ownsRow base 5 1 v' (n + l.length) (xs ++ bs l) ∧ w.grownBy w' v.ownBlock ∧ (v'.ownBlock = v.ownBlock ∨ v'.ownBlock = some w.heap.size) := by
  obtain ⟨i0, hi0, hz0, hz1, hz2⟩ := info_parts info5
  obtain ⟨oa, cap, rfl, h1, h2, h3, h4, h5⟩ := hl
  unfold LIM at hb
  cases oa with
  | none =>
    obtain rfl := h1.1 rfl
    obtain rfl : l = [] := List.length_eq_zero_iff.1 (by omega)
    refine ⟨v, w, run_append_owned_none (P := Try.prog) (w := w) base 25 25 5 i0 1 Try.underlying25 hi0 v n _ hown, ?_, ⟨rfl, rfl, rfl, Nat.le_refl _, fun _ _ _ => rfl⟩, .inl rfl⟩
    simpa [bs] using hown
  | some a =>
    obtain ⟨v', w', hr, ho, hg, -, hat⟩ := run_append_own_at (P := Try.prog) w base 25 25 5 i0 _ 1 1 Try.underlying25 hi0 hz0 hz1 hz2 rfl (by omega) v n xs hown a l.length cap (bs l) (by rw [bs_len]; omega) (fun j u hu => by
      obtain ⟨g', o', e1, e2, e3⟩ := h5 j u hu
      cases e1
      rw [Addr.add_mid]
      exact e3) (bs_one l) (by unfold maxLen; omega) (by omega) hbase
    exact ⟨v', w', hr, ho, hg, hat⟩
/-- One file of the document's device: what is safe, what is loose. -/
abbrev Fl := List Nat × List Nat
/-- The document's device as it lies, but for its operations. -/
structure Rw [Inhabited HoleT] (lo : Nat) (W : World) (v : Nat) (ov : Value) (B : List Nat × List Nat) (x y : Fl) : Prop where
  row : ∃ b0 b1 s0 s1 l0 l1, W.heap[v]? = some (.cells #[b0, b1, ov, s0, s1, l0, l1] 64 (0, 0)) ∧ Bq (Qd lo W v ov) W b0 B.1 ∧ Bq (Qd lo W v ov) W b1 B.2 ∧ Bq (Qd lo W v ov) W s0 x.1 ∧ Bq (Qd lo W v ov) W s1 y.1 ∧ Bq (Qd lo W v ov) W l0 x.2 ∧ Bq (Qd lo W v ov) W l1 y.2
  lov : lo ≤ v
  lims : x.1.length + x.2.length ≤ 50000000000000 ∧ y.1.length + y.2.length ≤ 50000000000000
/-- An operation: kind, file, bytes, number. -/
abbrev Opn := Nat × Nat × List Nat × Nat
def stepF (k : Nat) (p : List Nat) (n : Nat) (x : Fl) : Fl :=
  if k = 0 then (x.1, x.2 ++ p) else if k = 1 then (x.1 ++ x.2, []) else if n < x.1.length then (x.1.take n, []) else (x.1, x.2.take (n - x.1.length))
end Go.Proofs.Ytdiflmckjpmngaa
