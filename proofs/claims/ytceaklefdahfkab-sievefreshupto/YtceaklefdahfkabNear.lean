/- The two readings of a distance: is b - a, as a whole number, below width? -/
import Derived.Test.YtceaklefdahfkabRows
import Derived.WalkKit
import Derived.WalkSpells
import Derived.WalkLawsBesides
import Derived.ProofKit
namespace Go.Proofs.Ytceaklefdahfkab
open Go.RowKit
def I64 (x : Int) : Prop := -9223372036854775808 ≤ x ∧ x < 9223372036854775808
theorem wu (x : Int) : IntKind.u64.wrap x = x % 18446744073709551616 := by
  simp [IntKind.wrap, IntKind.bits, IntKind.signed]
theorem nearer_any (a b d : Int) (ha : I64 a) (hb : I64 b) (hd : I64 d) (w : World) :
    Calls Try.prog 48 #[.int .i64 a, .int .i64 b, .int .i64 d] w fun e w' => e = .returned (.bool (decide (b - a < d))) ∧ w' = w := by
  unfold I64 at ha hb hd
  go_enter Try.func48, Try.ntmps48
  go_wp2
  all_goals go_ret
  all_goals refine ⟨congrArg (fun x => Ending.returned (Value.bool x)) ?_, rfl⟩
  all_goals (try rw [wu, wu, wu])
  · apply decide_eq_decide.2; omega
  · symm; apply decide_eq_false; omega
  · simp only [wu]
    rw [decide_eq_false (show ¬ 0 ≤ d by omega), Bool.false_or]
    apply decide_eq_decide.2; omega
  · symm; apply decide_eq_true; omega
end Go.Proofs.Ytceaklefdahfkab
