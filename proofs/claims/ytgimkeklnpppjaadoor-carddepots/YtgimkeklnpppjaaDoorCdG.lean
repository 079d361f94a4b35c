/- errors.As at a fault and at a fault in a line: what the model's entries answer. Made by a program. -/
import Derived.Test.YtgimkeklnpppjaaDoorCdE
import Derived.Laws.Tables
namespace Go.Proofs.YtgimkeklnpppjaaDoor
open Go.RowKit Go.Extern.Stop Go.Stop Go.Extern
/-- The model's entries, kept shut. -/
def vofF (args : Array Value) : Sem Value := ReflectliteValue.unpack (args.getD 0 (.tuple #[]))
def vtyF : Array Value → Sem Value := ReflectliteValue.methodAny (ReflectliteValue.valueError "reflectlite.Value.Type" 0) (fun t _ _ _ => ReflectliteType.toType t)
def vnilF : Array Value → Sem Value := ReflectliteValue.method (ReflectliteValue.valueError "reflectlite.Value.IsNil" 0) ReflectliteValue.isNil
def kindF : Array Value → Sem Value := ReflectliteType.abiMethod fun t => do pure (.int .u8 (← Rtype.kind t))
def telF : Array Value → Sem Value := ReflectliteType.method ReflectliteType.elem
def impF : Array Value → Sem Value := ReflectliteType.relation "Implements" ReflectliteType.implements_
def asgF : Array Value → Sem Value := ReflectliteType.relation "AssignableTo" ReflectliteType.assignableTo
def velF : Array Value → Sem Value := ReflectliteValue.method (ReflectliteValue.valueError "reflectlite.Value.Elem" 0) ReflectliteValue.elem
theorem callVof : ∀ args w, (callFunc 29 args).run Tryd.prog w = ((vofF args).run Tryd.prog w).andThen fun v w' => .ok (.value v) w' := @run_callFunc_extern Tryd.prog 29 _ vofF Tryd.func29 (by kernel_rfl) (by kernel_rfl) (by kernel_rfl) (by kernel_rfl)
theorem callVty : ∀ args w, (callFunc 30 args).run Tryd.prog w = ((vtyF args).run Tryd.prog w).andThen fun v w' => .ok (.value v) w' := @run_callFunc_extern Tryd.prog 30 _ vtyF Tryd.func30 (by kernel_rfl) (by kernel_rfl) (by kernel_rfl) (by kernel_rfl)
theorem callVnil : ∀ args w, (callFunc 31 args).run Tryd.prog w = ((vnilF args).run Tryd.prog w).andThen fun v w' => .ok (.value v) w' := @run_callFunc_extern Tryd.prog 31 _ vnilF Tryd.func31 (by kernel_rfl) (by kernel_rfl) (by kernel_rfl) (by kernel_rfl)
theorem callKind : ∀ args w, (callFunc 84 args).run Tryd.prog w = ((kindF args).run Tryd.prog w).andThen fun v w' => .ok (.value v) w' := @run_callFunc_extern Tryd.prog 84 _ kindF Tryd.func84 (by kernel_rfl) (by kernel_rfl) (by kernel_rfl) (by kernel_rfl)
theorem callTel : ∀ args w, (callFunc 97 args).run Tryd.prog w = ((telF args).run Tryd.prog w).andThen fun v w' => .ok (.value v) w' := @run_callFunc_extern Tryd.prog 97 _ telF Tryd.func97 (by kernel_rfl) (by kernel_rfl) (by kernel_rfl) (by kernel_rfl)
theorem callImp : ∀ args w, (callFunc 98 args).run Tryd.prog w = ((impF args).run Tryd.prog w).andThen fun v w' => .ok (.value v) w' := @run_callFunc_extern Tryd.prog 98 _ impF Tryd.func98 (by kernel_rfl) (by kernel_rfl) (by kernel_rfl) (by kernel_rfl)
theorem callAsg : ∀ args w, (callFunc 95 args).run Tryd.prog w = ((asgF args).run Tryd.prog w).andThen fun v w' => .ok (.value v) w' := @run_callFunc_extern Tryd.prog 95 _ asgF Tryd.func95 (by kernel_rfl) (by kernel_rfl) (by kernel_rfl) (by kernel_rfl)
theorem callVel : ∀ args w, (callFunc 37 args).run Tryd.prog w = ((velF args).run Tryd.prog w).andThen fun v w' => .ok (.value v) w' := @run_callFunc_extern Tryd.prog 37 _ velF Tryd.func37 (by kernel_rfl) (by kernel_rfl) (by kernel_rfl) (by kernel_rfl)
theorem callSet : ∀ args w, (callFunc 38 args).run Tryd.prog w = ((ReflectliteValue.set args).run Tryd.prog w).andThen fun v w' => .ok (.value v) w' := @run_callFunc_extern Tryd.prog 38 _ ReflectliteValue.set Tryd.func38 (by kernel_rfl) (by kernel_rfl) (by kernel_rfl) (by kernel_rfl)
theorem set_m3 (v x : Value) (f : Value → Value → Sem Value) (h : Array Value → Sem Value) : ReflectliteValue.set.match_3 (fun _ => Sem Value) #[v, x] f h = f v x := rfl
theorem rlm (z : Sem Value) (f : TypeId → Addr → Nat → Nat → Sem Value) (v : Value) : ReflectliteValue.method z f #[v] = (ReflectliteValue.parts v >>= fun x => match x with | none => z | some (t, a, fl) => f t a fl (fl % 32)) := rfl
theorem mtKind (h : Value) (w : World) : (Go.method 266 82 (.agg #[h]) "Kind").run Tryd.prog w = .ok (84, h) w := by kernel_rfl
theorem mtElem (h : Value) (w : World) : (Go.method 266 82 (.agg #[h]) "Elem").run Tryd.prog w = .ok (97, .agg #[h]) w := by kernel_rfl
theorem mtImp (h : Value) (w : World) : (Go.method 266 82 (.agg #[h]) "Implements").run Tryd.prog w = .ok (98, .agg #[h]) w := by kernel_rfl
theorem mtAsg (h : Value) (w : World) : (Go.method 266 82 (.agg #[h]) "AssignableTo").run Tryd.prog w = .ok (95, .agg #[h]) w := by kernel_rfl
theorem noAsE (v : Value) (xT : TypeId) (w : World) : (Instr.typeAssert (.iface 135 v) xT 94 true).run Tryd.prog w = .ok (.tuple #[.nilIface, .bool false]) w := run_typeAssert_lacksB Tryd.underlying94 (by kernel_rfl) (by kernel_rfl) v xT w
theorem noAsF (v : Value) (xT : TypeId) (w : World) : (Instr.typeAssert (.iface 44 v) xT 94 true).run Tryd.prog w = .ok (.tuple #[.nilIface, .bool false]) w := run_typeAssert_lacksB Tryd.underlying94 (by kernel_rfl) (by kernel_rfl) v xT w
theorem noAsL (v : Value) (xT : TypeId) (w : World) : (Instr.typeAssert (.iface 50 v) xT 94 true).run Tryd.prog w = .ok (.tuple #[.nilIface, .bool false]) w := run_typeAssert_lacksB Tryd.underlying94 (by kernel_rfl) (by kernel_rfl) v xT w
theorem vof_pF (t : Addr) (w : World) : (vofF #[.iface 54 (.pointer (some t))]).run Tryd.prog w = .ok (.agg #[.pointer (some ⟨14, 54, none⟩), .pointer (some ⟨w.heap.size, 0, none⟩), .int .u64 150]) (w.alloc (.cells #[.pointer (some t)] 54)) := by kernel_rfl
theorem vty_pF (a : Addr) (w : World) : (vtyF #[.agg #[.pointer (some ⟨14, 54, none⟩), .pointer (some a), .int .u64 150]]).run Tryd.prog w = .ok (.iface 82 (.agg #[.pointer (some ⟨14, 54, none⟩)])) w := by kernel_rfl
theorem kind_pF (w : World) : (kindF #[.pointer (some ⟨14, 54, none⟩)]).run Tryd.prog w = .ok (.int .u8 22) w := by kernel_rfl
theorem kind_F (w : World) : (kindF #[.pointer (some ⟨14, 44, none⟩)]).run Tryd.prog w = .ok (.int .u8 25) w := by kernel_rfl
theorem parts_pF (a : Addr) (w : World) : (ReflectliteValue.parts (.agg #[.pointer (some ⟨14, 54, none⟩), .pointer (some a), .int .u64 150])).run Tryd.prog w = .ok (some (54, a, 150)) w := by kernel_rfl
theorem vnil_pF (a p : Addr) (W : World) (ha : W.cell? a = some (.pointer (some p))) : (vnilF #[.agg #[.pointer (some ⟨14, 54, none⟩), .pointer (some a), .int .u64 150]]).run Tryd.prog W = .ok (.bool false) W := by
  unfold vnilF
  rw [rlm]
  simp only [Sem.run_bind, parts_pF, Result.andThen]
  simp [ReflectliteValue.isNil, loadVar, isAgg, underlying, Tryd.underlying54, ha, Result.andThen]
theorem tel_pF (w : World) : (telF #[.agg #[.pointer (some ⟨14, 54, none⟩)]]).run Tryd.prog w = .ok (.iface 82 (.agg #[.pointer (some ⟨14, 44, none⟩)])) w := by kernel_rfl
theorem imp_F (w : World) : (impF #[.agg #[.pointer (some ⟨14, 44, none⟩)], .iface 82 (.agg #[.pointer (some ⟨14, 33, none⟩)])]).run Tryd.prog w = .ok (.bool true) w := by kernel_rfl
theorem tof_F (v : Value) (w : World) : (ReflectliteType.typeOf #[.iface 44 v]).run Tryd.prog w = .ok (.iface 82 (.agg #[.pointer (some ⟨14, 44, none⟩)])) w := by kernel_rfl
theorem asg_FF (w : World) : (asgF #[.agg #[.pointer (some ⟨14, 44, none⟩)], .iface 82 (.agg #[.pointer (some ⟨14, 44, none⟩)])]).run Tryd.prog w = .ok (.bool true) w := by kernel_rfl
theorem asg_EF (w : World) : (asgF #[.agg #[.pointer (some ⟨14, 135, none⟩)], .iface 82 (.agg #[.pointer (some ⟨14, 44, none⟩)])]).run Tryd.prog w = .ok (.bool false) w := by kernel_rfl
theorem vof_F (x0 x1 x2 : Value) (w : World) : (vofF #[.iface 44 (.agg #[x0, x1, x2])]).run Tryd.prog w = .ok (.agg #[.pointer (some ⟨14, 44, none⟩), .pointer (some ⟨w.heap.size, 0, none⟩), .int .u64 153]) (w.alloc (.cells #[x0, x1, x2] 44)) := by kernel_rfl
theorem elof_F (w : World) : (Rtype.elem? 54).run Tryd.prog w = .ok (some 44) w := by kernel_rfl
theorem mk_F (p : Addr) (w : World) : (ReflectliteValue.mk 44 p ReflectliteValue.flagAddr).run Tryd.prog w = .ok (.agg #[.pointer (some ⟨14, 44, none⟩), .pointer (some p), .int .u64 409]) w := by kernel_rfl
theorem vel_pF (a p : Addr) (W : World) (ha : W.cell? a = some (.pointer (some p))) : (velF #[.agg #[.pointer (some ⟨14, 54, none⟩), .pointer (some a), .int .u64 150]]).run Tryd.prog W = .ok (.agg #[.pointer (some ⟨14, 44, none⟩), .pointer (some p), .int .u64 409]) W := by
  unfold velF
  rw [rlm]
  simp only [Sem.run_bind, parts_pF, Result.andThen]
  simp [ReflectliteValue.elem, loadVar, isAgg, underlying, Tryd.underlying54, ha, Result.andThen, elof_F, mk_F]
theorem partsA_F (a : Addr) (w : World) : (ReflectliteValue.parts (.agg #[.pointer (some ⟨14, 44, none⟩), .pointer (some a), .int .u64 409])).run Tryd.prog w = .ok (some (44, a, 409)) w := by kernel_rfl
theorem partsB_F (a : Addr) (w : World) : (ReflectliteValue.parts (.agg #[.pointer (some ⟨14, 44, none⟩), .pointer (some a), .int .u64 153])).run Tryd.prog w = .ok (some (44, a, 153)) w := by kernel_rfl
theorem dir_F (w : World) : (Rtype.directlyAssignable 44 44).run Tryd.prog w = .ok true w := by kernel_rfl
theorem size_F : (Tryd.prog.info? 44).map (·.size) = some 3 := by kernel_rfl
theorem set_F (g b : Nat) (old new : Array Value) (W : World) (hb : W.heap[b]? = some (.cells new 44 (0, 0))) (ht : W.heap[g]? = some (.cells old 44 (0, 0))) (h1 : old.size = 3) (h2 : new.size = 3) (h3 : new.all (·.oneCell') = true) :
    (ReflectliteValue.set #[.agg #[.pointer (some ⟨14, 44, none⟩), .pointer (some ⟨g, 0, none⟩), .int .u64 409], .agg #[.pointer (some ⟨14, 44, none⟩), .pointer (some ⟨b, 0, none⟩), .int .u64 153]]).run Tryd.prog W = .ok (.tuple #[]) (W.setRow g new) := by
  delta ReflectliteValue.set
  rw [set_m3]
  simp only [Sem.run_bind, partsA_F, partsB_F, Result.andThen]
  simp [ReflectliteValue.flagAddr, Result.andThen, dir_F, run_loadVar_row W b 44 44 new (0, 0) _ hb Tryd.underlying44 rfl (by rw [size_F, h2]), run_storeVar_row W g 44 44 old new ht (by rw [size_F, h2]) (by rw [h1, h2]) h3]
theorem vof_pL (t : Addr) (w : World) : (vofF #[.iface 55 (.pointer (some t))]).run Tryd.prog w = .ok (.agg #[.pointer (some ⟨14, 55, none⟩), .pointer (some ⟨w.heap.size, 0, none⟩), .int .u64 150]) (w.alloc (.cells #[.pointer (some t)] 55)) := by kernel_rfl
theorem vty_pL (a : Addr) (w : World) : (vtyF #[.agg #[.pointer (some ⟨14, 55, none⟩), .pointer (some a), .int .u64 150]]).run Tryd.prog w = .ok (.iface 82 (.agg #[.pointer (some ⟨14, 55, none⟩)])) w := by kernel_rfl
theorem kind_pL (w : World) : (kindF #[.pointer (some ⟨14, 55, none⟩)]).run Tryd.prog w = .ok (.int .u8 22) w := by kernel_rfl
theorem kind_L (w : World) : (kindF #[.pointer (some ⟨14, 50, none⟩)]).run Tryd.prog w = .ok (.int .u8 25) w := by kernel_rfl
theorem parts_pL (a : Addr) (w : World) : (ReflectliteValue.parts (.agg #[.pointer (some ⟨14, 55, none⟩), .pointer (some a), .int .u64 150])).run Tryd.prog w = .ok (some (55, a, 150)) w := by kernel_rfl
theorem vnil_pL (a p : Addr) (W : World) (ha : W.cell? a = some (.pointer (some p))) : (vnilF #[.agg #[.pointer (some ⟨14, 55, none⟩), .pointer (some a), .int .u64 150]]).run Tryd.prog W = .ok (.bool false) W := by
  unfold vnilF
  rw [rlm]
  simp only [Sem.run_bind, parts_pL, Result.andThen]
  simp [ReflectliteValue.isNil, loadVar, isAgg, underlying, Tryd.underlying55, ha, Result.andThen]
theorem tel_pL (w : World) : (telF #[.agg #[.pointer (some ⟨14, 55, none⟩)]]).run Tryd.prog w = .ok (.iface 82 (.agg #[.pointer (some ⟨14, 50, none⟩)])) w := by kernel_rfl
theorem imp_L (w : World) : (impF #[.agg #[.pointer (some ⟨14, 50, none⟩)], .iface 82 (.agg #[.pointer (some ⟨14, 33, none⟩)])]).run Tryd.prog w = .ok (.bool true) w := by kernel_rfl
theorem tof_L (v : Value) (w : World) : (ReflectliteType.typeOf #[.iface 50 v]).run Tryd.prog w = .ok (.iface 82 (.agg #[.pointer (some ⟨14, 50, none⟩)])) w := by kernel_rfl
theorem asg_LL (w : World) : (asgF #[.agg #[.pointer (some ⟨14, 50, none⟩)], .iface 82 (.agg #[.pointer (some ⟨14, 50, none⟩)])]).run Tryd.prog w = .ok (.bool true) w := by kernel_rfl
theorem asg_EL (w : World) : (asgF #[.agg #[.pointer (some ⟨14, 135, none⟩)], .iface 82 (.agg #[.pointer (some ⟨14, 50, none⟩)])]).run Tryd.prog w = .ok (.bool false) w := by kernel_rfl
theorem vof_L (x0 x1 : Value) (w : World) : (vofF #[.iface 50 (.agg #[x0, x1])]).run Tryd.prog w = .ok (.agg #[.pointer (some ⟨14, 50, none⟩), .pointer (some ⟨w.heap.size, 0, none⟩), .int .u64 153]) (w.alloc (.cells #[x0, x1] 50)) := by kernel_rfl
theorem elof_L (w : World) : (Rtype.elem? 55).run Tryd.prog w = .ok (some 50) w := by kernel_rfl
theorem mk_L (p : Addr) (w : World) : (ReflectliteValue.mk 50 p ReflectliteValue.flagAddr).run Tryd.prog w = .ok (.agg #[.pointer (some ⟨14, 50, none⟩), .pointer (some p), .int .u64 409]) w := by kernel_rfl
theorem vel_pL (a p : Addr) (W : World) (ha : W.cell? a = some (.pointer (some p))) : (velF #[.agg #[.pointer (some ⟨14, 55, none⟩), .pointer (some a), .int .u64 150]]).run Tryd.prog W = .ok (.agg #[.pointer (some ⟨14, 50, none⟩), .pointer (some p), .int .u64 409]) W := by
  unfold velF
  rw [rlm]
  simp only [Sem.run_bind, parts_pL, Result.andThen]
  simp [ReflectliteValue.elem, loadVar, isAgg, underlying, Tryd.underlying55, ha, Result.andThen, elof_L, mk_L]
theorem partsA_L (a : Addr) (w : World) : (ReflectliteValue.parts (.agg #[.pointer (some ⟨14, 50, none⟩), .pointer (some a), .int .u64 409])).run Tryd.prog w = .ok (some (50, a, 409)) w := by kernel_rfl
theorem partsB_L (a : Addr) (w : World) : (ReflectliteValue.parts (.agg #[.pointer (some ⟨14, 50, none⟩), .pointer (some a), .int .u64 153])).run Tryd.prog w = .ok (some (50, a, 153)) w := by kernel_rfl
theorem dir_L (w : World) : (Rtype.directlyAssignable 50 50).run Tryd.prog w = .ok true w := by kernel_rfl
theorem size_L : (Tryd.prog.info? 50).map (·.size) = some 2 := by kernel_rfl
theorem set_L (g b : Nat) (old new : Array Value) (W : World) (hb : W.heap[b]? = some (.cells new 50 (0, 0))) (ht : W.heap[g]? = some (.cells old 50 (0, 0))) (h1 : old.size = 2) (h2 : new.size = 2) (h3 : new.all (·.oneCell') = true) :
    (ReflectliteValue.set #[.agg #[.pointer (some ⟨14, 50, none⟩), .pointer (some ⟨g, 0, none⟩), .int .u64 409], .agg #[.pointer (some ⟨14, 50, none⟩), .pointer (some ⟨b, 0, none⟩), .int .u64 153]]).run Tryd.prog W = .ok (.tuple #[]) (W.setRow g new) := by
  delta ReflectliteValue.set
  rw [set_m3]
  simp only [Sem.run_bind, partsA_L, partsB_L, Result.andThen]
  simp [ReflectliteValue.flagAddr, Result.andThen, dir_L, run_loadVar_row W b 50 50 new (0, 0) _ hb Tryd.underlying50 rfl (by rw [size_L, h2]), run_storeVar_row W g 50 50 old new ht (by rw [size_L, h2]) (by rw [h1, h2]) h3]
theorem asg_FL (w : World) : (asgF #[.agg #[.pointer (some ⟨14, 44, none⟩)], .iface 82 (.agg #[.pointer (some ⟨14, 50, none⟩)])]).run Tryd.prog w = .ok (.bool false) w := by kernel_rfl
theorem asg_LF (w : World) : (asgF #[.agg #[.pointer (some ⟨14, 50, none⟩)], .iface 82 (.agg #[.pointer (some ⟨14, 44, none⟩)])]).run Tryd.prog w = .ok (.bool false) w := by kernel_rfl
end Go.Proofs.YtgimkeklnpppjaaDoor
