/- The law's helper taken. -/
import Derived.Test.YtkppejaigodgiabDoorRfR
import Derived.Test.YtkppejaigodgiabDoorAux
namespace Go.Proofs.YtkppejaigodgiabDoor
open Go.RowKit
set_option maxHeartbeats 1000000 in
theorem taken_any (a b : Value) (l : List Nat) (hl : l.length ≤ 1099511627776) (E P : Nat) (w : World) (ha : Byl a l w) (hb : Byl b l w) :
    Calls Tryd.prog 48 #[a, .int .i64 (E : Int), .int .i64 (P : Int), b, .int .i64 (E : Int), .int .i64 (P : Int)] w fun e w' => e = .returned (.bool true) ∧ Below w.heap.size w w' := by
  have CB : Hid (Calls Tryd.prog 18 #[a, b] w fun e w' => e = .returned (.bool true) ∧ Below w.heap.size w w') := by
    refine (bytes_any l l hl a b w ha hb).mono ?_
    rintro e w' ⟨rfl, h⟩
    exact ⟨by simp, h⟩
  go_enter Tryd.func48, Tryd.ntmps48
  go_wp2_with (go_at_call 18; refine CB.out.mono ?_; rintro e w' ⟨rfl, hw'⟩)
  go_ret
  exact ⟨rfl, hw'⟩
end Go.Proofs.YtkppejaigodgiabDoor
