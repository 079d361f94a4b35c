/- A number within 2^53 is a whole one when it is cut. -/
import Derived.Test.YtnljnknnjahjkaaNi1
namespace Go.Proofs.Ytnljnknnjahjkaa
open Go.RowKit
def loB : Nat := 14069245235905429503
def hiB : Nat := 4845873199050653695
theorem cmp_ge {a b : Int} (h : compare a b = .gt ∨ compare a b = .eq) : b ≤ a := by
  simp only [compare, compareOfLessAndEq] at h
  split at h
  · rcases h with h | h <;> cases h
  · omega
theorem cmp_le {a b : Int} (h : compare a b = .lt ∨ compare a b = .eq) : a ≤ b := by
  simp only [compare, compareOfLessAndEq] at h
  split at h
  · omega
  · split at h
    · omega
    · rcases h with h | h <;> cases h
theorem rd_lo : FloatKind.f64.format.read loB = .number true 9007199254740991 0 := by decide +kernel
theorem rd_hi : FloatKind.f64.format.read hiB = .number false 9007199254740991 0 := by decide +kernel
theorem cut_le (m d M : Nat) (h : m ≤ M * 2 ^ d) (s : Bool) : Ieee.Toward.zero.cut s m d ≤ M := by
  unfold Ieee.Toward.cut
  simp only [Nat.shiftLeft_eq, Nat.one_mul, Bool.toNat_false, Nat.add_zero]
  rcases Nat.le_total d (m.log2 + 2) with hd | hd
  · rw [Nat.min_eq_left hd]
    exact Nat.div_le_of_le_mul (by rw [Nat.mul_comm]; exact h)
  · rw [Nat.min_eq_right hd]
    have hm : m < 2 ^ (m.log2 + 2) := by
      have : m < 2 ^ (m.log2 + 1) := Nat.lt_log2_self
      have h2 : 2 ^ (m.log2 + 1) ≤ 2 ^ (m.log2 + 2) := Nat.pow_le_pow_right (by omega) (by omega)
      omega
    rw [Nat.div_eq_of_lt hm]
    exact Nat.zero_le _
theorem rng {x : Nat} (h1 : ordF x loB = some .gt ∨ ordF x loB = some .eq) (h2 : ordF x hiB = some .lt ∨ ordF x hiB = some .eq) : ∃ n, floatToIntVal .f64 x .i64 = some n := by
  unfold ordF Ieee.Format.order at h1 h2
  rw [rd_lo] at h1
  rw [rd_hi] at h2
  have hdec : FloatKind.f64.decode x = FloatKind.f64.format.read x := rfl
  unfold floatToIntVal
  rw [hdec]
  cases hD : FloatKind.f64.format.read x with
  | nan s p => rw [hD] at h1; simp [Ieee.Datum.order] at h1
  | infinity s =>
    rw [hD] at h1 h2
    cases s <;> simp [Ieee.Datum.order] at h1 h2
  | number s m i =>
    rw [hD] at h1 h2
    simp only [Ieee.Datum.order, Option.some.injEq] at h1 h2
    have g1 := cmp_ge h1
    have g2 := cmp_le h2
    have key : Ieee.Toward.zero.cut s (m <<< i.toNat) (-i).toNat ≤ 9007199254740991 := by
      rcases Int.le_total 0 i with hi | hi
      · rw [show min i 0 = 0 by omega] at g1 g2
        rw [show (-i).toNat = 0 by omega]
        refine cut_le _ 0 _ ?_ s
        simp only [Ieee.signed, Nat.shiftLeft_eq] at g1 g2 ⊢
        rw [show (i - 0).toNat = i.toNat by omega] at g1 g2
        obtain ⟨q, hq⟩ : ∃ q, q = m * 2 ^ i.toNat := ⟨_, rfl⟩
        rw [← hq] at g1 g2 ⊢
        cases s <;> simp only [if_true, if_false, Bool.false_eq_true, Int.sub_self, Int.toNat_zero, Nat.pow_zero, Nat.mul_one] at g1 g2 ⊢ <;> omega
      · rw [show min i 0 = i by omega] at g1 g2
        rw [show i.toNat = 0 by omega]
        have h0 : m <<< 0 = m := rfl
        rw [h0]
        refine cut_le _ _ _ ?_ s
        simp only [Ieee.signed, Nat.shiftLeft_eq] at g1 g2
        rw [show (i - i).toNat = 0 by omega, show (0 - i).toNat = (-i).toNat by omega] at g1 g2
        obtain ⟨q, hq⟩ : ∃ q, q = 2 ^ (-i).toNat := ⟨_, rfl⟩
        rw [← hq] at g1 g2 ⊢
        cases s <;> simp only [if_true, if_false, Bool.false_eq_true, Nat.pow_zero, Nat.mul_one] at g1 g2 <;> omega
    simp only [Ieee.Datum.toInt, Ieee.Datum.integral, Ieee.signed]
    have hs0 : ∀ n : Nat, n <<< 0 = n := fun n => rfl
    rw [hs0]
    have e1 : IntKind.i64.min = -9223372036854775808 := by decide
    have e2 : IntKind.i64.max = 9223372036854775807 := by decide
    rw [e1, e2]
    obtain ⟨q, hq⟩ : ∃ q, q = Ieee.Toward.zero.cut s (m <<< i.toNat) (-i).toNat := ⟨_, rfl⟩
    rw [← hq] at key ⊢
    cases s
    · exact ⟨_, if_pos (by constructor <;> simp <;> omega)⟩
    · exact ⟨_, if_pos (by constructor <;> simp <;> omega)⟩
end Go.Proofs.Ytnljnknnjahjkaa
