/- JournalDevices: does of any operation; the operations as they lie; done. -/
import Derived.Test.YtdiflmckjpmngaaJv1
import Derived.Test.YtdiflmckjpmngaaJvL
namespace Go.Proofs.Ytdiflmckjpmngaa
open Go.RowKit
def stepD (o : Opn) (s : Fl × Fl) : Fl × Fl := if o.2.1 = 0 then (stepF o.1 o.2.2.1 o.2.2.2 s.1, s.2) else (s.1, stepF o.1 o.2.2.1 o.2.2.2 s.2)
def tot (x : Fl) : Nat := x.1.length + x.2.length
def pick (f : Nat) (s : Fl × Fl) : Fl := if f = 0 then s.1 else s.2
/-- An operation that is not refused. -/
def okO (o : Opn) (s : Fl × Fl) : Prop := (o.2.1 = 0 ∨ o.2.1 = 1) ∧ (o.1 = 0 ∧ tot (pick o.2.1 s) + o.2.2.1.length ≤ 50000000000000 ∨ o.1 = 1 ∨ o.1 = 2 ∧ o.2.2.2 ≤ tot (pick o.2.1 s))
def opA (o : Opn) (pv : Value) : Array Value := #[.int .i64 (o.1 : Int), .int .i64 (o.2.1 : Int), pv, .int .i64 (o.2.2.2 : Int)]
theorem does_any [Inhabited HoleT] {lo v : Nat} {W : World} {ov : Value} {B : List Nat × List Nat} {s : Fl × Fl} (h : Rw lo W v ov B s.1 s.2) (hlo : lo ≤ W.heap.size) (hH : holeB ≤ W.heap.size) (hov : ∀ g, ov.ownBlock = some g → g < W.heap.size) (hos : ∃ a b c, ov = .slice a b c) (o : Opn) (pv : Value) (hp : Bq (Qp W v) W pv o.2.2.1) (hk : okO o s) :
    Calls Try.prog 35 #[.pointer (some ⟨v, 0, none⟩), .agg (opA o pv)] W fun e w' => e = .returned (.tuple #[]) ∧ Rw lo w' v ov B (stepD o s).1 (stepD o s).2 ∧ Fv W w' v := by
  obtain ⟨oo, on, oc, rfl⟩ := hos
  obtain ⟨k, f, p, n⟩ := o
  obtain ⟨x, y⟩ := s
  obtain ⟨op, cp, hpp, -⟩ := id hp
  obtain ⟨hf, hk⟩ := hk
  dsimp only at *
  rcases hf with rfl | rfl <;> rcases hk with ⟨rfl, hk⟩ | rfl | ⟨rfl, hk⟩
  · exact does_app0 h hlo hH hov pv p hp n hk
  · subst hpp; exact does_syn0 h hlo hH hov _ _ _ n
  · subst hpp
    rcases Nat.lt_or_ge n x.1.length with q | q
    · have e : stepD (2, 0, p, n) (x, y) = ((x.1.take n, []), y) := by simp [stepD, stepF, q]
      rw [e]
      exact does_cut00 h hlo hH hov _ _ _ n q
    · have e : stepD (2, 0, p, n) (x, y) = ((x.1, x.2.take (n - x.1.length)), y) := by simp [stepD, stepF, Nat.not_lt.2 q]
      rw [e]
      exact does_cut01 h hlo hH hov _ _ _ n (Nat.not_lt.2 q) hk
  · exact does_app1 h hlo hH hov pv p hp n hk
  · subst hpp; exact does_syn1 h hlo hH hov _ _ _ n
  · subst hpp
    rcases Nat.lt_or_ge n y.1.length with q | q
    · have e : stepD (2, 1, p, n) (x, y) = (x, (y.1.take n, [])) := by simp [stepD, stepF, q]
      rw [e]
      exact does_cut10 h hlo hH hov _ _ _ n q
    · have e : stepD (2, 1, p, n) (x, y) = (x, (y.1, y.2.take (n - y.1.length))) := by simp [stepD, stepF, Nat.not_lt.2 q]
      rw [e]
      exact does_cut11 h hlo hH hov _ _ _ n (Nat.not_lt.2 q) hk
end Go.Proofs.Ytdiflmckjpmngaa
