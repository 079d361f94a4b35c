/- Graphs reduced: numbers. -/
import Derived.Test.YtibhjkmbbfgnpaaGi
namespace Go.Proofs.Ytibhjkmbbfgnpaa
open Go.RowKit GM
theorem and_ex65535 (x : Int) : ∃ r : Nat, bits BinOp.and IntKind.i64 x 65535 = (r : Int) ∧ r ≤ 65535 := by
  have h : (BitVec.ofInt 64 x &&& 65535#64).toNat ≤ 65535 := by rw [BitVec.toNat_and]; exact Nat.and_le_right
  refine ⟨(BitVec.ofInt 64 x &&& 65535#64).toNat, ?_, h⟩
  unfold bits
  simp only [IntKind.bits]
  show IntKind.i64.wrap ((BitVec.ofInt 64 x &&& 65535#64).toNat : Int) = _
  generalize (BitVec.ofInt 64 x &&& 65535#64).toNat = r at h
  rw [IntKind.wrap_i64]
  omega
theorem measQ (N k : Nat) (h : k < N) : N + 1 - ((k : Int) + 1).toNat < N + 1 - (k : Int).toNat := by omega
theorem Gst.drew {w : World} {N : Nat} {A : List (Nat × Nat)} {ev : Value} {W : World} (h : Gst w N A ev W) : Gst w N A ev W.drew := ⟨⟨h.bel.os, h.bel.tape, h.bel.output, h.bel.size, h.bel.block⟩, h.res, h.loc, own_keep2 h.own fun _ _ => rfl⟩
theorem tmod_n (r N : Nat) (hr : r ≤ 65535) : wrap64 ((r : Int).tmod (N : Int)) = ((r % N : Nat) : Int) := by
  rw [Int.tmod_eq_emod_of_nonneg (by omega)]
  have h1 : ((r : Int) % (N : Int)) = ((r % N : Nat) : Int) := by simp
  have h2 : r % N ≤ r := Nat.mod_le _ _
  rw [h1]
  unfold wrap64
  omega
end Go.Proofs.Ytibhjkmbbfgnpaa
