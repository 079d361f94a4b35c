/- Graphs: the document's Check; lists of edges held against one another. -/
import Derived.Test.YtgedmfcfhdfoeaaGb
namespace Go.Proofs.Ytgedmfcfhdfoeaa
open Go.RowKit
theorem forIn_step {P : Program} {n : Nat} {f : Nat → (Option Bool × Unit) → Sem (ForInStep (Option Bool × Unit))} (w : World) (q : Nat → Bool) (hf : ∀ i, i < n → ∀ st, (f i st).run P w = .ok (if q i = true then .yield (none, ()) else .done (some false, ())) w) :
    ∀ m s, s + m ≤ n → (forIn (List.range' s m) (none, ()) f).run P w = .ok (if (List.range' s m).all q = true then (none, ()) else (some false, ())) w
  | 0, s, _ => by simp
  | m + 1, s, h => by
    rw [List.range'_succ, List.forIn_cons, Sem.run_bind, hf s (by omega)]
    by_cases hq : q s = true
    · simp only [hq, if_true, Result.andThen_ok, List.all_cons, Bool.true_and]
      exact forIn_step w q hf m (s + 1) (by omega)
    · simp [hq]
theorem run_part3 (w : World) (a b : Int) (i : Nat) (hi : i < 2) : (part 3 #[.int .i64 a, .int .i64 b] i).run Try.prog w = .ok (.int .i64 (if i = 0 then a else b)) w := by
  have hagg : (isAgg 3).run Try.prog w = .ok false w := by
    unfold isAgg
    rw [Sem.run_bind, run_underlying Try.underlying3 w]
    simp
  have : i = 0 ∨ i = 1 := by omega
  rcases this with rfl | rfl <;> simp [part, Sem.run_bind, hagg]
theorem run_size3 (w : World) : (sizeOf 3).run Try.prog w = .ok 1 w := by
  obtain ⟨i, hi, _, hs, _⟩ := info_parts info3
  simp [sizeOf, typeInfo, hi, hs]
/-- Two edges held against one another, kept shut. -/
def eqA (x y : Value) : Sem Bool := Op.equalIn 10000 52 x y
theorem toEqA (x y : Value) : Op.equalIn 10000 52 x y = eqA x y := rfl
theorem run_eqA (w : World) (a b c d : Int) : (eqA (.agg #[.int .i64 a, .int .i64 b]) (.agg #[.int .i64 c, .int .i64 d])).run Try.prog w = .ok (decide (a = c ∧ b = d)) w := by
  show (Op.equalIn (9998 + 2) 52 _ _).run Try.prog w = _
  rw [Op.equalIn]
  simp only [Sem.run_bind, run_underlying Try.underlying52, Result.andThen_ok, run_size3]
  rw [Std.Legacy.Range.forIn_eq_forIn_range']
  have hs : ([:2] : Std.Legacy.Range).size = 2 := by simp [Std.Legacy.Range.size]
  rw [hs]
  rw [forIn_step (n := 2) w (fun i => (if i = 0 then a else b) == (if i = 0 then c else d)) ?_ 2 0 (by omega)]
  · by_cases h1 : a = c
    · by_cases h2 : b = d
      · simp [h1, h2, List.range']
      · simp [h1, h2, List.range']
    · simp [h1, List.range']
  · intro i hi st
    simp only [Nat.mul_one, Sem.run_bind, run_part3 w a b i hi, run_part3 w c d i hi, Result.andThen_ok, run_equalIn_int w (9998) 3 .i64 .i64 _ _ Try.underlying3]
    generalize ((if i = 0 then a else b) == (if i = 0 then c else d)) = q
    cases q <;> rfl
attribute [local go_sem ↓] toEqA
/- Two lists that are alike. -/
end Go.Proofs.Ytgedmfcfhdfoeaa
