/- The sieve: methods of nil objects. -/
import Derived.Test.YtceaklefdahfkabSv8
import Derived.OwnWalk
import Derived.Handy
namespace Go.Proofs.Ytceaklefdahfkab
open Go.RowKit
theorem rnone_nil (w : World) : Calls Try.prog 57 #[.pointer none] w fun e w' => e = .returned (.bool true) ∧ w' = w := by
  go_enter Try.func57, Try.ntmps57
  go_wp2
  go_ret
  exact ⟨rfl, rfl⟩
theorem rewriter_nil (v : Value) (w : World) : Calls Try.prog 20 #[.pointer none, v] w fun e w' => e = .returned (.tuple #[.pointer none, .int .i64 0]) ∧ w' = w := by
  have C0 : Hid _ := none_nil w
  go_enter Try.func20, Try.ntmps20
  go_wp2_with fail
  refine Calls.mono C0.out ?_
  rintro e W ⟨rfl, rfl⟩
  go_wp2
  go_ret2
  exact ⟨rfl, rfl⟩
theorem rfeed_nil (v : Value) (w : World) : Calls Try.prog 22 #[.pointer none, v] w fun e w' => e = .returned (.tuple #[.slice none 0 0, .int .i64 0, .int .i64 0]) ∧ w' = w := by
  have C0 : Hid _ := rnone_nil w
  go_enter Try.func22, Try.ntmps22
  go_wp2_with fail
  refine Calls.mono C0.out ?_
  rintro e W ⟨rfl, rfl⟩
  go_wp2
  go_ret3
  exact ⟨rfl, rfl⟩
theorem rclose_nil (w : World) : Calls Try.prog 23 #[.pointer none] w fun e w' => e = .returned (.tuple #[.slice none 0 0, .int .i64 0, .int .i64 0]) ∧ w' = w := by
  have C0 : Hid _ := rnone_nil w
  go_enter Try.func23, Try.ntmps23
  go_wp2_with fail
  refine Calls.mono C0.out ?_
  rintro e W ⟨rfl, rfl⟩
  go_wp2
  go_ret3
  exact ⟨rfl, rfl⟩
theorem rat_nil (w : World) : Calls Try.prog 60 #[.pointer none] w fun e w' => e = .returned (.int .i64 0) ∧ w' = w := by
  go_enter Try.func60, Try.ntmps60
  go_wp2
  go_ret
  exact ⟨rfl, rfl⟩
theorem rheld_nil (w : World) : Calls Try.prog 58 #[.pointer none] w fun e w' => e = .returned (.int .i64 0) ∧ w' = w := by
  go_enter Try.func58, Try.ntmps58
  go_wp2
  go_ret
  exact ⟨rfl, rfl⟩
theorem sat_nil (w : World) : Calls Try.prog 31 #[.pointer none] w fun e w' => e = .returned (.int .i64 0) ∧ w' = w := by
  go_enter Try.func31, Try.ntmps31
  go_wp2
  go_ret
  exact ⟨rfl, rfl⟩
theorem sheld_nil (w : World) : Calls Try.prog 33 #[.pointer none] w fun e w' => e = .returned (.int .i64 0) ∧ w' = w := by
  go_enter Try.func33, Try.ntmps33
  go_wp2
  go_ret
  exact ⟨rfl, rfl⟩
theorem rewrite_nil (u v : Value) (w : World) : Calls Try.prog 13 #[.pointer none, u, v] w fun e w' => e = .returned (.tuple #[.slice none 0 0, .int .i64 0, .int .i64 0]) ∧ w' = w := by
  have C0 : Hid _ := rewriter_nil v w
  go_enter Try.func13, Try.ntmps13
  go_wp2_with fail
  refine Calls.mono C0.out ?_
  rintro e W ⟨rfl, rfl⟩
  go_wp2
  go_ret3
  exact ⟨rfl, rfl⟩
set_option maxRecDepth 100000 in
theorem srep0 (s : Value) (w : World) : Calls Try.prog 65 #[s, .int .i64 0] w fun e w' => e = .returned (.string ⟨#[]⟩) ∧ w' = w := by
  go_enter Try.func65, Try.ntmps65
  go_wp2
  go_ret
  exact ⟨rfl, rfl⟩
set_option maxRecDepth 100000 in
theorem mul64_10 (w : World) : Calls Try.prog 95 #[.int .u64 1, .int .u64 0] w fun e w' => e = .returned (.tuple #[.int .u64 0, .int .u64 0]) ∧ w' = w := by
  go_enter Try.func95, Try.ntmps95
  go_wp2
  go_ret2
  exact ⟨rfl, rfl⟩
theorem mul_10 (w : World) : Calls Try.prog 81 #[.int .u64 1, .int .u64 0] w fun e w' => e = .returned (.tuple #[.int .u64 0, .int .u64 0]) ∧ w' = w := by
  have C0 : Hid _ := mul64_10 w
  go_enter Try.func81, Try.ntmps81
  go_wp2_with fail
  refine Calls.mono C0.out ?_
  rintro e W ⟨rfl, rfl⟩
  go_wp2
  go_ret2
  exact ⟨rfl, rfl⟩
def mkS (l c : Value) : Sem Value := Instr.makeSlice 22 l c
theorem toMkS (l c : Value) : Instr.makeSlice 22 l c = mkS l c := rfl
theorem info9 : (Try.prog.info? 9).map (fun i => (i.zero, i.size, i.bytes)) = some (some (.string ⟨#[]⟩), 1, 16) := by kernel_rfl
set_option maxRecDepth 100000 in
/-- make([]string, n). -/
theorem run_mkS (w : World) (n : Nat) (hn : n ≤ 1099511627776) : ∃ w', (mkS (.int .i64 (n : Int)) (.int .i64 (n : Int))).run Try.prog w = .ok (.slice (some ⟨w.heap.size, 0, none⟩) n n) w' ∧ w'.heap[w.heap.size]? = some (.cells (List.replicate n (.string ⟨#[]⟩)).toArray 9 (0, 0)) ∧ Below w.heap.size w w' := by
  obtain ⟨i0, hi0, hz0, hz1, hz2⟩ := info_parts info9
  have hr := run_make (P := Try.prog) w 22 9 i0 _ (by kernel_rfl) hi0 hz0 .i64 .i64 n n (by omega) (Int.le_refl _) (by rw [hz2]; omega) (by omega)
  simp only [Int.toNat_natCast] at hr
  refine ⟨_, hr, ?_, (Below.refl _ w).alloc (Nat.le_refl _) _⟩
  rw [heap_alloc_new, hz1, Nat.mul_one]
  congr 2
  apply Array.ext'
  have : (Value.string ⟨#[]⟩).cells = #[Value.string ⟨#[]⟩] := rfl
  rw [this, toList_madeCells_one]
attribute [local go_sem ↓] toMkS
set_option maxRecDepth 100000 in
theorem rep0 (o : Option Addr) (c : Nat) (w : World) : Calls Try.prog 66 #[.slice o 1 c, .int .i64 0] w fun e w' => ∃ v, e = .returned v ∧ Below w.heap.size w w' := by
  have C0 : Hid _ := mul_10 w
  go_enter Try.func66, Try.ntmps66
  go_wp2_with fail
  refine Calls.mono C0.out ?_
  rintro e W ⟨rfl, rfl⟩
  obtain ⟨W0, r0', R0, B0⟩ := run_mkS W 0 (by omega)
  have r0 : (mkS (.int .i64 0) (.int .i64 0)).run Try.prog W = .ok (.slice (some ⟨W.heap.size, 0, none⟩) 0 0) W0 := r0'
  clear r0'
  have HB0 : Hid _ := B0
  clear R0 B0
  have rc : (Builtin.copy_ #[22, 22] 3 #[.slice (some ⟨W.heap.size, 0, none⟩) 0 0, .slice o 1 c]).run Try.prog W0 = .ok (.int .i64 0) W0 := run_copy_none (P := Try.prog) W0 22 22 3 9 (some ⟨W.heap.size, 0, none⟩) o 0 0 1 c (by kernel_rfl) (by kernel_rfl) rfl
  go_wp2_with fail
  go_loopw [8] (fun iv wr => iv = .int .i64 0 ∧ wr = W0) (fun _ _ => 0)
  case atStart => exact ⟨rfl, rfl⟩
  case round =>
    obtain ⟨rfl, rfl⟩ := hrel
    go_wp2
    go_ret
    exact ⟨_, rfl, HB0.out⟩
theorem masker_nil (w : World) : Calls Try.prog 39 #[.pointer none] w fun e w' => e = .returned (.pointer none) ∧ Below w.heap.size w w' := by
  have C0 : Hid _ := width_nil w
  have C1 : Hid _ := srep0 (.string ⟨#[0]⟩) w
  go_enter Try.func39, Try.ntmps39
  go_wp2_with fail
  refine Calls.mono C0.out ?_
  rintro e W ⟨rfl, rfl⟩
  go_wp2_with fail
  refine Calls.mono C1.out ?_
  rintro e W ⟨rfl, rfl⟩
  obtain ⟨Wa, hWa⟩ : ∃ Wa, W.alloc (.cells #[.string ⟨#[]⟩] 9) = Wa := ⟨_, rfl⟩
  have C2 : Hid _ := len_nil Wa
  have HB : Hid (Below W.heap.size W Wa) := by
    rw [← hWa]
    exact ⟨rfl, rfl, rfl, by simp, fun j hj => heap_alloc_old _ _ (h := hj)⟩
  have C3 : Hid _ := rep0 (some ⟨W.heap.size, 0, none⟩) 1 Wa
  have HZ : Hid (W.heap.size ≤ Wa.heap.size) := HB.out.size
  go_wp2_with fail
  clear hWa
  refine Calls.mono C2.out ?_
  rintro e W2 ⟨rfl, rfl⟩
  go_wp2_with fail
  refine Calls.mono C3.out ?_
  rintro e W3 ⟨v, rfl, b3⟩
  have HB3 : Hid (Below W.heap.size W W3) := HB.out.trans (b3.mono HZ.out)
  have C4 : Hid _ := rewriter_nil v W3
  clear b3
  go_wp2_with fail
  refine Calls.mono C4.out ?_
  rintro e W4 ⟨rfl, rfl⟩
  go_wp2
  go_ret
  exact ⟨rfl, HB3.out⟩
theorem mask_nil (v : Value) (w : World) : Calls Try.prog 14 #[.pointer none, v] w fun e w' => e = .returned (.tuple #[.slice none 0 0, .slice none 0 0, .int .i64 0, .int .i64 0]) ∧ Below w.heap.size w w' := by
  have C0 : Hid _ := masker_nil w
  go_enter Try.func14, Try.ntmps14
  go_wp2_with fail
  refine Calls.mono C0.out ?_
  rintro e W ⟨rfl, b⟩
  have HB : Hid _ := b
  clear b
  go_wp2
  go_returns
  exact ⟨rfl, HB.out⟩
end Go.Proofs.Ytceaklefdahfkab
