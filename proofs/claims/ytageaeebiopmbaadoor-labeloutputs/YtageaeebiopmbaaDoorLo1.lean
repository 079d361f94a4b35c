/- LabelOutputs: Sort of no label; the builder. -/
import Derived.Test.YtageaeebiopmbaaDoorRd
import Derived.Shelf.Strings.BuilderK
import Derived.Shelf.Lay
import Derived.Ground.NamesProg
import Derived.Handy
namespace Go.Proofs.YtageaeebiopmbaaDoor
open Go.RowKit
set_option maxRecDepth 100000 in
theorem len64_0 (w : World) : Calls Tryd.prog 60 #[.int .u64 0] w fun e w' => e = .returned (.int .i64 0) ∧ w' = w := by
  go_enter Tryd.func60, Tryd.ntmps60
  go_wp2
  go_ret
  exact ⟨by kernel_rfl, rfl⟩
theorem len_0 (w : World) : Calls Tryd.prog 45 #[.int .u64 0] w fun e w' => e = .returned (.int .i64 0) ∧ w' = w := by
  have C : Hid _ := len64_0 w
  go_enter Tryd.func45, Tryd.ntmps45
  go_wp2_with fail
  refine Calls.mono C.out ?_
  rintro e W ⟨rfl, rfl⟩
  go_wp2
  go_ret
  exact ⟨rfl, rfl⟩
set_option maxRecDepth 100000 in
set_option maxHeartbeats 1000000 in
theorem ins_0 (o : Option Addr) (c : Nat) (f : Value) (w : World) : Calls Tryd.prog 51 #[.slice o 0 c, .int .i64 0, .int .i64 0, f] w fun e w' => e = .returned (.tuple #[]) ∧ w' = w := by
  go_enter Tryd.func51, Tryd.ntmps51
  go_wp2_with fail
  go_loopw [8] (fun iv wr => iv = .int .i64 1 ∧ wr = w) (fun _ _ => 0)
  case atStart => exact ⟨rfl, rfl⟩
  case round =>
    obtain ⟨rfl, rfl⟩ := hrel
    go_wp2
    go_returns
    exact ⟨rfl, rfl⟩
set_option maxRecDepth 100000 in
set_option maxHeartbeats 1000000 in
theorem pdq_0 (o : Option Addr) (c : Nat) (f : Value) (w : World) : Calls Tryd.prog 44 #[.slice o 0 c, .int .i64 0, .int .i64 0, .int .i64 0, f] w fun e w' => e = .returned (.tuple #[]) ∧ w' = w := by
  have C : Hid _ := ins_0 o c f w
  go_enter Tryd.func44, Tryd.ntmps44
  go_wp2_with fail
  go_loopw [1, 2, 3] (fun a b l wr => a = .int .i64 0 ∧ b = .int .i64 0 ∧ l = .int .i64 0 ∧ wr = w) (fun _ _ _ _ => 0)
  case atStart => exact ⟨rfl, rfl, rfl, rfl⟩
  case round =>
    obtain ⟨rfl, rfl, rfl, rfl⟩ := hrel
    go_wp2_with fail
    refine Calls.mono C.out ?_
    rintro e W ⟨rfl, rfl⟩
    go_wp2
    go_returns
    exact ⟨rfl, rfl⟩
set_option maxRecDepth 100000 in
theorem sortF_0 (o : Option Addr) (c : Nat) (f : Value) (w : World) : Calls Tryd.prog 35 #[.slice o 0 c, f] w fun e w' => e = .returned (.tuple #[]) ∧ w' = w := by
  have C : Hid _ := len_0 w
  have C2 : Hid _ := pdq_0 o c f w
  go_enter Tryd.func35, Tryd.ntmps35
  go_wp2_with fail
  refine Calls.mono C.out ?_
  rintro e W ⟨rfl, rfl⟩
  go_wp2_with fail
  refine Calls.mono C2.out ?_
  rintro e W ⟨rfl, rfl⟩
  go_wp2
  go_returns
  exact ⟨rfl, rfl⟩
set_option maxRecDepth 100000 in
theorem compact_0 (o : Option Addr) (c : Nat) (w : World) : Calls Tryd.prog 37 #[.slice o 0 c] w fun e w' => e = .returned (.slice o 0 c) ∧ w' = w := by
  go_enter Tryd.func37, Tryd.ntmps37
  go_wp2
  go_ret
  exact ⟨rfl, rfl⟩
/-- make([]Label, n), copy, kept shut. -/
def mkL (l c : Value) : Sem Value := Instr.makeSlice 37 l c
theorem toMkL (l c : Value) : Instr.makeSlice 37 l c = mkL l c := rfl
theorem run_mkL0 (w : World) : ∃ w', (mkL (.int .i64 0) (.int .i64 0)).run Tryd.prog w = .ok (.slice (some ⟨w.heap.size, 0, none⟩) 0 0) w' ∧ Below w.heap.size w w' := by
  obtain ⟨i0, hi0, hz0, hz1, hz2⟩ := info_parts (show (Tryd.prog.info? 27).map (fun i => (i.zero, i.size, i.bytes)) = some (some (.agg none25), 21, 40) by kernel_rfl)
  have hr := run_make (P := Tryd.prog) w 37 27 i0 _ Tryd.underlying37 hi0 hz0 .i64 .i64 0 0 (by omega) (Int.le_refl _) (by rw [hz2]; omega) (by omega)
  exact ⟨_, hr, (Below.refl _ w).alloc (Nat.le_refl _) _⟩
shelf_lay Lays.n169 Nm 169 at Tryd as Tryd.stL
end Go.Proofs.YtageaeebiopmbaaDoor
