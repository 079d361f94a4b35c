/- NoteInts: number, Int of both. -/
import Derived.Test.YtnljnknnjahjkaaChecked
import Derived.WalkKit
import Derived.RowKitTokens
import Derived.BigQuiet
import Derived.Laws.Cover2
import Derived.Laws.FloatArith
namespace Go.Proofs.Ytnljnknnjahjkaa
open Go.RowKit
def noteA (k : Int) (b : Bool) (x : Nat) (s : ByteArray) (L F : Value) : Array Value := #[.int .i64 k, .bool b, .float .f64 x, .string s, L, F]
def ordF (x y : Nat) : Option Ordering := FloatKind.f64.format.order x y
theorem toOrd (x y : Nat) : FloatKind.f64.format.order x y = ordF x y := rfl
attribute [local go_sem] toOrd
set_option maxRecDepth 100000 in
set_option maxHeartbeats 1600000 in
theorem number_any (x : Nat) (w : World) : Calls Try.prog 9 #[.float .f64 x, .float .f64 x] w fun e w' => e = .returned (.bool true) ∧ w' = w := by
  cases h : (ordF x x == some .eq) with
  | true =>
    go_enter Try.func9, Try.ntmps9
    go_wp2
    go_ret
    exact ⟨rfl, rfl⟩
  | false =>
    have h2 : (ordF x x != some .eq) = true := by unfold bne; rw [h]; rfl
    go_enter Try.func9, Try.ntmps9
    go_wp2
    go_ret
    exact ⟨rfl, rfl⟩
end Go.Proofs.Ytnljnknnjahjkaa
