import Derived.Test.YteajpimonenopaaGreatDoorRows
import Derived.Test.YteajpimonenopaaGreatDoorBytes
import Derived.Test.YteajpimonenopaaGreatDoorShShaM
import Derived.Deep.QuietTactic
import Derived.BigQuiet
namespace Go.Proofs.YteajpimonenopaaGreatDoor.Sha
open Go.RowKit
/-- A list of words as cells. -/
def ws (l : List Nat) : Array Value := (l.map fun (b : Nat) => Value.int .u32 (b : Int)).toArray
theorem ws_size (l : List Nat) : (ws l).size = l.length := by simp [ws]
theorem ws_get (l : List Nat) (k : Nat) (h : k < l.length) : (ws l)[k]? = some (.int .u32 ((l.getD k 0 : Nat) : Int)) := by
  simp [ws, List.getD, h]
theorem ws_set (l : List Nat) (k b : Nat) : (ws l).setIfInBounds k (.int .u32 (b : Int)) = ws (l.set k b) := by
  simp [ws, List.map_set]
theorem ws_one (l : List Nat) : (ws l).all (·.oneCell') = true := by
  simp [ws, Value.oneCell']
section
variable {P : Program} {t e : TypeId} {n : Nat}
theorem run_part_ws (w : World) (he : P.underlying e = some (.int .u32)) (l : List Nat) (k : Nat) (hk : k < l.length) :
    (part e (ws l) k).run P w = .ok (.int .u32 ((l.getD k 0 : Nat) : Int)) w := by
  have hagg : (isAgg e).run P w = .ok false w := by
    unfold isAgg
    rw [Sem.run_bind, run_underlying he w]
    simp
  simp [part, Sem.run_bind, hagg, ws_get l k hk]
theorem run_index_ws (w : World) (ht : P.underlying t = some (.array n e)) (he : P.underlying e = some (.int .u32)) (h1 : (P.info? e).map (·.size) = some 1) (l : List Nat) (hl : l.length = n) (k : Nat) (hk : k < n) :
    (Instr.index t (.agg (ws l)) (.int .i64 (k : Int))).run P w = .ok (.int .u32 ((l.getD k 0 : Nat) : Int)) w := by
  have hp := run_part_ws (P := P) w he l k (by omega)
  simp [Instr.index, asIntOf, Sem.run_bind, run_underlying ht, run_size_bs w h1, hk, hp]
end
theorem size5 : (Tryz.prog.info? 5).map (·.size) = some 1 := by kernel_rfl
theorem size40 : (Tryz.prog.info? 52).map (·.size) = some 1 := by kernel_rfl
theorem size41 : (Tryz.prog.info? 53).map (·.size) = some 8 := by kernel_rfl
theorem size48 : (Tryz.prog.info? 56).map (·.size) = some 64 := by kernel_rfl
theorem size28 : (Tryz.prog.info? 24).map (·.size) = some 32 := by kernel_rfl
theorem alloc_at (w : World) (o : Obj) (n : Nat) (h : n = w.heap.size) : (w.alloc o).heap[n]? = some o := by
  subst h
  exact heap_alloc_new w o
theorem below_setRow {B : Nat} {a w : World} (h : Below B a w) {g : Nat} (hg : B ≤ g) (cs : Array Value) : Below B a (w.setRow g cs) :=
  ⟨h.os, h.tape, h.output, by simpa using h.size, fun j hj => (setRow_other _ _ _ _ (by omega)).trans (h.block j hj)⟩
theorem ret_int {k : IntKind} {a b : Int} (h : a = b) : Ending.returned (.int k a) = .returned (.int k b) := by rw [h]
theorem and31 (n : Nat) (h1 : 0 < n) (h2 : n < 32) : bits BinOp.and IntKind.u64 (IntKind.u64.wrap (-(n : Int))) 31 = ((32 - n : Nat) : Int) := by
  have e : IntKind.u64.wrap (-(n : Int)) = ((18446744073709551616 - n : Nat) : Int) := by
    simp [IntKind.wrap, IntKind.bits, IntKind.signed]; omega
  rw [e, show (31 : Int) = ((31 : Nat) : Int) from rfl, u64_and_nat _ _ (by omega) (by decide)]
  rw [show (31 : Nat) = 2 ^ 5 - 1 from rfl, Nat.and_two_pow_sub_one_eq_mod]
  omega
set_option maxHeartbeats 400000 in
theorem rot_any (x n m : Nat) (hx : x < 4294967296) (hm : Hid (m = 32 - n)) (h1 : 0 < n) (h2 : n < 32) (w : World) : Calls Tryz.prog 90 #[.int .u32 (x : Int), .int .i64 (-(n : Int))] w fun e w' => e = .returned (.int .u32 ((ror x n : Nat) : Int)) ∧ w' = w := by
  have hand := and31 n h1 h2
  rw [← hm.out] at hand
  have hm1 : m < 32 := by have := hm.out; omega
  have hm2 : (m : Int) < 32 := by omega
  go_enter Tryz.func90, Tryz.ntmps90
  go_wp2
  go_ret
  refine ⟨ret_int ?_, rfl⟩
  have e1 : ((x : Int) * 2 ^ m % 4294967296) = ((x * 2 ^ m % 4294967296 : Nat) : Int) := by simp only [Int.natCast_emod, Int.natCast_mul, Int.natCast_pow]; rfl
  have e2 : ((x : Int) / 2 ^ (32 - m)) = ((x / 2 ^ (32 - m) : Nat) : Int) := by simp only [Int.natCast_ediv, Int.natCast_pow]; rfl
  rw [e1, e2, u32_or_nat _ _ (Nat.mod_lt _ (by decide)) (Nat.lt_of_le_of_lt (Nat.div_le_self _ _) hx)]
  unfold ror
  rw [← hm.out, show 32 - m = n by have := hm.out; omega]
set_option maxHeartbeats 400000 in
theorem right_any (x n : Nat) (hx : x < 4294967296) (h1 : 0 < n) (h2 : n < 32) (w : World) : Calls Tryz.prog 73 #[.int .u32 (x : Int), .int .i64 (n : Int)] w fun e w' => e = .returned (.int .u32 ((ror x n : Nat) : Int)) ∧ w' = w := by
  have h3 : (n : Int) < 32 := by omega
  go_enter Tryz.func73, Tryz.ntmps73
  go_wp2_with (go_at_call 90; refine (rot_any x n _ hx rfl h1 h2 _).mono ?_; rintro e w' ⟨rfl, rfl⟩)
  go_ret
  exact ⟨rfl, rfl⟩
set_option maxHeartbeats 400000 in
theorem turns_any (x i j k : Nat) (hx : x < 4294967296) (hi1 : 0 < i) (hi2 : i < 32) (hj1 : 0 < j) (hj2 : j < 32) (hk1 : 0 < k) (hk2 : k < 32) (w : World) :
    Calls Tryz.prog 65 #[.int .u32 (x : Int), .int .i64 (i : Int), .int .i64 (j : Int), .int .i64 (k : Int)] w fun e w' => e = .returned (.int .u32 ((tri x i j k : Nat) : Int)) ∧ w' = w := by
  go_enter Tryz.func65, Tryz.ntmps65
  go_wp2_with fail
  refine (right_any x i hx hi1 hi2 _).mono ?_
  rintro e w' ⟨rfl, rfl⟩
  go_wp2_with fail
  refine (right_any x j hx hj1 hj2 _).mono ?_
  rintro e w' ⟨rfl, rfl⟩
  go_wp2_with fail
  refine (right_any x k hx hk1 hk2 _).mono ?_
  rintro e w' ⟨rfl, rfl⟩
  go_wp2
  go_ret
  refine ⟨ret_int ?_, rfl⟩
  rw [u32_xor_nat _ _ (ror_lt _ _ hx) (ror_lt _ _ hx), u32_xor_nat _ _ (xor_lt (ror_lt _ _ hx) (ror_lt _ _ hx)) (ror_lt _ _ hx)]
  rfl
end Go.Proofs.YteajpimonenopaaGreatDoor.Sha
