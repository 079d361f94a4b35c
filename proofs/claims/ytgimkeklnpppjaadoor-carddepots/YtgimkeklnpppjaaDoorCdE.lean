/- errors.Is at a fault and at a fault in a line: Go's own text is walked. -/
import Derived.Test.YtgimkeklnpppjaaDoorChecked
import Derived.WalkKit
import Derived.LaidEql
import Derived.Stop.Asserts
import Derived.RowKitTokens
namespace Go.Proofs.YtgimkeklnpppjaaDoor
open Go.RowKit Go.Extern.Stop Go.Stop Go.Extern
theorem isTypeOf (v : Value) (w : World) : (Extern.ReflectliteType.typeOf #[.iface 135 v]).run Tryd.prog w = .ok (.iface 82 (.agg #[.pointer (some ⟨14, 135, none⟩)])) w := by kernel_rfl
/-- The model's entry for Comparable, kept shut. -/
def compF : Array Value → Sem Value := Extern.ReflectliteType.method fun t => do Extern.Rtype.noPackHeld "Comparable" t; pure (.bool (← typeInfo t).comparable)
theorem isComparable (w : World) : (compF #[.agg #[.pointer (some ⟨14, 135, none⟩)]]).run Tryd.prog w = .ok (.bool true) w := by kernel_rfl
theorem callComp : ∀ args w, (callFunc 96 args).run Tryd.prog w = ((compF args).run Tryd.prog w).andThen fun v w' => .ok (.value v) w' := @run_callFunc_extern Tryd.prog 96 _ compF Tryd.func96 (by kernel_rfl) (by kernel_rfl) (by kernel_rfl) (by kernel_rfl)
theorem callTypeOf : ∀ args w, (callFunc 27 args).run Tryd.prog w = ((Extern.ReflectliteType.typeOf args).run Tryd.prog w).andThen fun v w' => .ok (.value v) w' := @run_callFunc_extern Tryd.prog 27 _ Extern.ReflectliteType.typeOf Tryd.func27 (by kernel_rfl) (by kernel_rfl) (by kernel_rfl) (by kernel_rfl)
theorem isMethodComparable (v : Value) (w : World) : (Go.method 266 82 v "Comparable").run Tryd.prog w = .ok (96, v) w := by kernel_rfl
theorem isComp : (Tryd.prog.info? 135).map (·.comparable) = some true := by kernel_rfl
theorem isSize : (Tryd.prog.info? 137).map (·.size) = some 1 := by kernel_rfl
theorem noIsE (v : Value) (xT : TypeId) (w : World) : (Instr.typeAssert (.iface 135 v) xT 84 true).run Tryd.prog w = .ok (.tuple #[.nilIface, .bool false]) w := run_typeAssert_lacksB Tryd.underlying84 (by kernel_rfl) (by kernel_rfl) v xT w
theorem noUnwrapE (v : Value) (xT : TypeId) (w : World) : (Instr.typeAssert (.iface 135 v) xT 87 true).run Tryd.prog w = .ok (.tuple #[.nilIface, .bool false]) w := run_typeAssert_lacksB Tryd.underlying87 (by kernel_rfl) (by kernel_rfl) v xT w
theorem noUnwrapsE (v : Value) (xT : TypeId) (w : World) : (Instr.typeAssert (.iface 135 v) xT 89 true).run Tryd.prog w = .ok (.tuple #[.nilIface, .bool false]) w := run_typeAssert_lacksB Tryd.underlying89 (by kernel_rfl) (by kernel_rfl) v xT w
theorem noIsF (v : Value) (xT : TypeId) (w : World) : (Instr.typeAssert (.iface 44 v) xT 84 true).run Tryd.prog w = .ok (.tuple #[.nilIface, .bool false]) w := run_typeAssert_lacksB Tryd.underlying84 (by kernel_rfl) (by kernel_rfl) v xT w
theorem hasUnwrapF (v : Value) (xT : TypeId) (w : World) : (Instr.typeAssert (.iface 44 v) xT 87 true).run Tryd.prog w = .ok (.tuple #[.iface 44 v, .bool true]) w := run_typeAssert_hasB Tryd.underlying87 (by kernel_rfl) v xT w
theorem methodUnwrapF (v : Value) (w : World) : (Go.method 266 44 v "Unwrap").run Tryd.prog w = .ok (88, v) w := by kernel_rfl
theorem noIsL (v : Value) (xT : TypeId) (w : World) : (Instr.typeAssert (.iface 50 v) xT 84 true).run Tryd.prog w = .ok (.tuple #[.nilIface, .bool false]) w := run_typeAssert_lacksB Tryd.underlying84 (by kernel_rfl) (by kernel_rfl) v xT w
theorem hasUnwrapL (v : Value) (xT : TypeId) (w : World) : (Instr.typeAssert (.iface 50 v) xT 87 true).run Tryd.prog w = .ok (.tuple #[.iface 50 v, .bool true]) w := run_typeAssert_hasB Tryd.underlying87 (by kernel_rfl) v xT w
theorem methodUnwrapL (v : Value) (w : World) : (Go.method 266 50 v "Unwrap").run Tryd.prog w = .ok (90, v) w := by kernel_rfl
/-- What a fault holds. -/
def fltA (a : Addr) (fld at_ : Int) : Array Value := #[.iface 135 (.pointer (some a)), .int .i64 fld, .int .i64 at_]
def flt (a : Addr) (fld at_ : Int) : Value := .iface 44 (.agg (fltA a fld at_))
def lnA (beg : Int) (e : Value) : Array Value := #[.int .i64 beg, e]
def ln (beg : Int) (e : Value) : Value := .iface 50 (.agg (lnA beg e))
set_option maxHeartbeats 1000000 in
theorem unwF (a : Addr) (fld at_ : Int) (w : World) : Calls Tryd.prog 88 #[.agg #[.iface 135 (.pointer (some a)), .int .i64 fld, .int .i64 at_]] w fun e w' => e = .returned (.iface 135 (.pointer (some a))) ∧ w' = w.alloc (.cells #[.iface 135 (.pointer (some a)), .int .i64 fld, .int .i64 at_] 44) := by
  go_enter Tryd.func88, Tryd.ntmps88
  go_wp2
  go_ret
  exact ⟨rfl, rfl⟩
set_option maxHeartbeats 1000000 in
theorem unwL (beg : Int) (x : Value) (t : TypeId) (w : World) : Calls Tryd.prog 90 #[.agg #[.int .i64 beg, .iface t x]] w fun e w' => e = .returned (.iface t x) ∧ w' = w.alloc (.cells #[.int .i64 beg, .iface t x] 50) := by
  go_enter Tryd.func90, Tryd.ntmps90
  go_wp2
  go_ret
  exact ⟨rfl, rfl⟩
end Go.Proofs.YtgimkeklnpppjaaDoor
