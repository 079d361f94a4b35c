/- JournalReplays: giving up. -/
import Derived.Test.YtfimaflglnemdaaDoorJrF
import Derived.WalkSmall
namespace Go.Proofs.YtfimaflglnemdaaDoor
open Go.RowKit
/-- What a reader gives up for. -/
def brV (s : Bool) (n : Nat) : Value := .iface 112 (.agg #[.bool s, .int .i64 (n : Int)])
set_option maxRecDepth 100000 in
theorem spoilt_no (g : Nat) (W : World) : Calls Tryd.prog 79 #[.pointer (some ⟨g, 0, none⟩), .bool false] W fun e w' => e = .returned (.tuple #[]) ∧ w' = W := by
  go_enter Tryd.func79, Tryd.ntmps79
  go_wp2_with fail
  first | go_end0 | refine bodyPost_ret (results_none rfl _ _ _) rfl ?_
  exact ⟨rfl, rfl⟩
set_option maxRecDepth 100000 in
theorem spoilt_yes (g n : Nat) (W : World) (hc : W.cell? ⟨g, 2, none⟩ = some (.int .i64 (n : Int))) : Calls Tryd.prog 79 #[.pointer (some ⟨g, 0, none⟩), .bool true] W fun e w' => e = .panicked [{ v := brV true n, recovered := false }] ∧ w' = W := by
  go_enter Tryd.func79, Tryd.ntmps79
  go_wp2_with fail
  exact ⟨rfl, rfl, rfl⟩
set_option maxRecDepth 100000 in
theorem torn_no (g : Nat) (W : World) : Calls Tryd.prog 81 #[.pointer (some ⟨g, 0, none⟩), .bool false] W fun e w' => e = .returned (.tuple #[]) ∧ w' = W := by
  go_enter Tryd.func81, Tryd.ntmps81
  go_wp2_with fail
  first | go_end0 | refine bodyPost_ret (results_none rfl _ _ _) rfl ?_
  exact ⟨rfl, rfl⟩
set_option maxRecDepth 100000 in
theorem torn_yes (g n : Nat) (W : World) (hc : W.cell? ⟨g, 2, none⟩ = some (.int .i64 (n : Int))) : Calls Tryd.prog 81 #[.pointer (some ⟨g, 0, none⟩), .bool true] W fun e w' => e = .panicked [{ v := brV false n, recovered := false }] ∧ w' = W := by
  go_enter Tryd.func81, Tryd.ntmps81
  go_wp2_with fail
  exact ⟨rfl, rfl, rfl⟩
/-- How asking ends. -/
def brE (t s : Bool) (n : Nat) : Ending := if t then .panicked [{ v := brV s n, recovered := false }] else .returned (.tuple #[])
theorem spoilt_any (t : Bool) (g n : Nat) (W : World) (hc : W.cell? ⟨g, 2, none⟩ = some (.int .i64 (n : Int))) : Calls Tryd.prog 79 #[.pointer (some ⟨g, 0, none⟩), .bool t] W fun e w' => e = brE t true n ∧ w' = W := by
  cases t with
  | false => exact spoilt_no g W
  | true => exact spoilt_yes g n W hc
theorem torn_any (t : Bool) (g n : Nat) (W : World) (hc : W.cell? ⟨g, 2, none⟩ = some (.int .i64 (n : Int))) : Calls Tryd.prog 81 #[.pointer (some ⟨g, 0, none⟩), .bool t] W fun e w' => e = brE t false n ∧ w' = W := by
  cases t with
  | false => exact torn_no g W
  | true => exact torn_yes g n W hc
end Go.Proofs.YtfimaflglnemdaaDoor
