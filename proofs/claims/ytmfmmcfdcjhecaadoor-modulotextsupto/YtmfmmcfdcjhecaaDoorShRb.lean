/- The document's own block: its tails, as code. -/
import Derived.Test.YtmfmmcfdcjhecaaDoorShMix
namespace Go.Proofs.YtmfmmcfdcjhecaaDoor.Sha
open Go.RowKit
def headR : Code → Option Nat
  | .region id _ _ => some id
  | .seq a _ => headR a
  | .scope c => headR c
  | .block _ c => headR c
  | _ => none
def fromR (n : Nat) : Code → Option Code
  | .seq a b => if headR a = some n then some (.seq a b) else match fromR n a with
    | some c => some (.seq c b)
    | none => fromR n b
  | .scope c => fromR n c
  | _ => none
noncomputable def tail58a : Code := ((Tryd.f23.body.bind (fromR 12)).getD .skip)
noncomputable def tail58b : Code := ((Tryd.f23.body.bind (fromR 21)).getD .skip)
/-- A word turned right, the document's. -/
theorem ror_any (x n m : Nat) (hx : x < 4294967296) (hm : Hid (m = 32 - n)) (h1 : 0 < n) (h2 : n < 32) (w : World) : Calls Tryd.prog 29 #[.int .u32 (x : Int), .int .i64 (n : Int)] w fun e w' => e = .returned (.int .u32 ((ror x n : Nat) : Int)) ∧ w' = w := by
  have hm1 : m < 32 := by have := hm.out; omega
  have hm2 : (m : Int) < 32 := by omega
  have hn2 : (n : Int) < 32 := by omega
  have e32 : (32 : Int) - (n : Int) = (m : Int) := by have := hm.out; omega
  go_enter Tryd.func29, Tryd.ntmps29
  go_wp2
  go_ret
  refine ⟨ret_int ?_, rfl⟩
  have e1 : ((x : Int) * 2 ^ m % 4294967296) = ((x * 2 ^ m % 4294967296 : Nat) : Int) := by simp only [Int.natCast_emod, Int.natCast_mul, Int.natCast_pow]; rfl
  have e2 : ((x : Int) / 2 ^ n) = ((x / 2 ^ n : Nat) : Int) := by simp only [Int.natCast_ediv, Int.natCast_pow]; rfl
  rw [e1, e2, u32_or_nat _ _ (Nat.lt_of_le_of_lt (Nat.div_le_self _ _) hx) (Nat.mod_lt _ (by decide))]
  unfold ror
  rw [← hm.out, Nat.or_comm]
theorem ror_r (x n : Nat) (hx : x < 4294967296) (h1 : 0 < n) (h2 : n < 32) (w : World) : Calls Tryd.prog 29 #[.int .u32 (x : Int), .int .i64 (n : Int)] w fun e w' => e = .returned (.int .u32 ((ror x n : Nat) : Int)) ∧ w' = w := ror_any x n _ hx rfl h1 h2 w
end Go.Proofs.YtmfmmcfdcjhecaaDoor.Sha
