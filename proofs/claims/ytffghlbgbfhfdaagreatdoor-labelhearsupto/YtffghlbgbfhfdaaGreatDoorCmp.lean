/- Compare: the code's and the document's. -/
import Derived.Test.YtffghlbgbfhfdaaGreatDoorLab
import Derived.Laws.Externs
namespace Go.Proofs.YtffghlbgbfhfdaaGreatDoor
open Go.RowKit
set_option maxRecDepth 100000 in
theorem cmp_zero : ∀ a b : List UInt8, Lib.compareBytes a b = 0 → a = b
  | [], [], _ => rfl
  | [], _ :: _, h => by simp [Lib.compareBytes] at h
  | _ :: _, [], h => by simp [Lib.compareBytes] at h
  | x :: a, y :: b, h => by
    unfold Lib.compareBytes at h
    by_cases h1 : x < y
    · simp [h1] at h
    · by_cases h2 : y < x
      · simp [h1, h2] at h
      · have he : x = y := UInt8.le_antisymm (UInt8.not_lt.1 h2) (UInt8.not_lt.1 h1)
        subst he
        simp only [h1, if_false] at h
        rw [cmp_zero a b h]
/-- Two labels' equality, kept shut. -/
def eqR (x y : Value) : Sem Bool := Op.equalIn 10000 51 x y
set_option maxRecDepth 100000 in
theorem toEq (x y : Value) : Op.equalIn 10000 51 x y = eqR x y := rfl
set_option maxRecDepth 100000 in
theorem run_eqR (w : World) (h k : List Nat) (s t : ByteArray) (hl : h.length = 20) (kl : k.length = 20) : (eqR (.agg (lab h s)) (.agg (lab k t))).run Tryz.prog w = .ok (decide (h = k ∧ s = t)) w := run_eq25 w h k s t hl kl
/-- Loads of whole rows, kept shut. -/
def loadR (ty : Nat) (v : Value) : Sem Value := Instr.loadAt ty v
set_option maxRecDepth 100000 in
theorem to25l (v : Value) : Instr.loadAt 51 v = loadR 51 v := rfl
set_option maxRecDepth 100000 in
theorem to23l (v : Value) : Instr.loadAt 49 v = loadR 49 v := rfl
set_option maxRecDepth 100000 in
theorem run_loadR25 (w : World) (g : Nat) (h : List Nat) (s : ByteArray) (hg : w.heap[g]? = some (.cells (lab h s) 51 (0, 0))) (hl : h.length = 20) : (loadR 51 (.pointer (some ⟨g, 0, none⟩))).run Tryz.prog w = .ok (.agg (lab h s)) w := by
  unfold loadR
  simp only [Instr.loadAt, Instr.sureAddr, Sem.run_bind, Sem.run_pure, Result.andThen_ok, run_loadVar_row w g 51 51 (lab h s) (0, 0) _ hg under25 rfl (by rw [size25, lab_size h s hl])]
set_option maxRecDepth 100000 in
theorem run_loadR23 (w : World) (g : Nat) (h : List Nat) (s : ByteArray) (hg : w.heap[g]? = some (.cells (lab h s) 51 (0, 0))) (hl : h.length = 20) : (loadR 49 (.pointer (some ⟨g, 0, none⟩))).run Tryz.prog w = .ok (.agg (bs h)) w :=
  run_loadAt_mid w g 0 49 (h.map fun (b : Nat) => Value.int .u8 (b : Int)) _ (fun j v hv => by
    have hj : j < h.length := by have := (List.getElem?_eq_some_iff.1 hv).1; simpa using this
    rw [Nat.zero_add, cell_of_row w _ _ _ _ _ hg, lab_get h s hl j (by omega)]
    simp [hj] at hv
    rw [← hv]
    simp [List.getD, hj]) Tryz.underlying49 rfl (by rw [size23, List.length_map, hl])
set_option maxRecDepth 100000 in
set_option maxHeartbeats 1000000 in
theorem hashes_any (a b : List Nat) (ha : a.length = 20) (hb : b.length = 20) (w : World) :
    Calls Tryz.prog 73 #[.agg (bs a), .agg (bs b)] w fun e w' => e = .returned (.int .i64 (cmpH a b 20)) ∧ Below w.heap.size w w' ∧ w.drawn ≤ w'.drawn := by
  go_enter Tryz.func73, Tryz.ntmps73
  go_wp2_with fail
  generalize hW2 : (w.alloc (Obj.cells (bs a) 49)).alloc (Obj.cells (bs b) 49) = W2
  have rA : Hid (W2.heap[w.heap.size]? = some (.cells (bs a) 49 (0, 0))) := by rw [← hW2]; exact (heap_alloc_old _ _ (h := by simp)).trans (heap_alloc_new _ _)
  have rB : Hid (W2.heap[w.heap.size + 1]? = some (.cells (bs b) 49 (0, 0))) := by
    rw [← hW2]
    have := heap_alloc_new (w.alloc (Obj.cells (bs a) 49)) (Obj.cells (bs b) 49)
    rw [show (w.alloc (Obj.cells (bs a) 49)).heap.size = w.heap.size + 1 by simp] at this
    exact this
  have bel2 : Below w.heap.size w W2 := by rw [← hW2]; exact ((Below.refl _ w).alloc (Nat.le_refl _) _).alloc (by simp) _
  have hz2 : W2.heap.size = w.heap.size + 2 := by rw [← hW2]; simp
  have HZ2 : Hid (W2.heap.size = w.heap.size + 2) := hz2
  have hd2 : W2.drawn = w.drawn := by rw [← hW2]; rfl
  have HD2 : Hid (W2.drawn = w.drawn) := hd2
  clear hW2 hz2 hd2
  go_loopw [5] (fun i wr => ∃ k : Nat, i = .int .i64 ((k : Int) - 1) ∧ k ≤ 20 ∧ Hid (cmpH a b k = cmpH a b 20) ∧ Below W2.heap.size W2 wr ∧ Hid (W2.drawn ≤ wr.drawn)) (fun i _ => (intOf i + 1).toNat)
  case atStart => exact ⟨20, rfl, by omega, rfl, Below.refl _ W2, Nat.le_refl _⟩
  case round =>
    obtain ⟨k, rfl, hk, hE, hb2, HDR⟩ := hrel
    have HDW : Hid (w.drawn ≤ wr.drawn) := by show _ ≤ _; rw [← HD2.out]; exact HDR.out
    have hbl : Below w.heap.size w wr := bel2.trans (hb2.mono (by have := HZ2.out; omega))
    cases k with
    | zero =>
      have hk0 : ¬ ((0 : Int) ≤ -1) := by omega
      have hv : Hid (cmpH a b 20 = 0) := hE.out.symm
      go_wp2
      go_ret
      exact ⟨by rw [hv.out]; rfl, hbl, HDW.out⟩
    | succ k =>
      have hki : ((k + 1 : Nat) : Int) - 1 = (k : Int) := by omega
      rw [hki]
      have hk0 : (0 : Int) ≤ (k : Int) := by omega
      have hk20 : (k : Int) < 20 := by omega
      have hk1 : IntKind.i64.wrap ((k : Int) - 1) = (k : Int) - 1 := by rw [IntKind.wrap_i64]; omega
      obtain ⟨x, hx⟩ : ∃ x, x = a.getD k 0 := ⟨_, rfl⟩
      obtain ⟨y, hy⟩ : ∃ y, y = b.getD k 0 := ⟨_, rfl⟩
      have cx : wr.cell? ⟨w.heap.size, k, none⟩ = some (.int .u8 (x : Int)) := by rw [hx, cell_of_row wr _ _ _ _ _ ((hb2.block _ (by have := HZ2.out; omega)).trans rA.out)]; exact bs_get _ _ (by omega)
      have cy : wr.cell? ⟨w.heap.size + 1, k, none⟩ = some (.int .u8 (y : Int)) := by rw [hy, cell_of_row wr _ _ _ _ _ ((hb2.block _ (by have := HZ2.out; omega)).trans rB.out)]; exact bs_get _ _ (by omega)
      have HS : Hid (cmpH a b (k + 1) = if x < y then -1 else if y < x then 1 else cmpH a b k) := by show _ = _; rw [hx, hy]; rfl
      clear hx hy hki
      by_cases h1 : x < y
      · have h1' : (x : Int) < (y : Int) := by omega
        have hv : Hid (cmpH a b 20 = -1) := by show _ = _; rw [← hE.out, HS.out, if_pos h1]
        go_wp2
        go_quiet (fail)
        go_wp2
        go_ret
        exact ⟨by rw [hv.out]; rfl, Below.drewN' hbl _, Nat.le_trans HDW.out (Nat.le_add_right _ _)⟩
      · have h1' : ¬ ((x : Int) < (y : Int)) := by omega
        by_cases h2 : y < x
        · have h2' : (y : Int) < (x : Int) := by omega
          have hv : Hid (cmpH a b 20 = 1) := by show _ = _; rw [← hE.out, HS.out, if_neg h1, if_pos h2]
          go_wp2
          go_quiet (fail)
          go_wp2
          go_quiet (fail)
          go_wp2
          go_ret
          exact ⟨by rw [hv.out]; rfl, Below.drewN' (Below.drewN' hbl _) _, Nat.le_trans HDW.out (Nat.le_trans (Nat.le_add_right _ _) (Nat.le_add_right _ _))⟩
        · have h2' : ¬ ((y : Int) < (x : Int)) := by omega
          have hv : Hid (cmpH a b k = cmpH a b 20) := by show _ = _; rw [← hE.out, HS.out, if_neg h1, if_neg h2]
          go_wp2
          go_quiet (fail)
          go_wp2
          go_quiet (fail)
          go_wp2
          go_roundw
          case rel => exact ⟨k, by go_num, by omega, hv, Below.drewN' hb2 _, Nat.le_trans HDR.out (Nat.le_add_right _ _)⟩
          case measure => simp [intOf]
set_option maxRecDepth 100000 in
set_option maxHeartbeats 1000000 in
theorem cmpS_any (s t : ByteArray) (w : World) :
    Calls Tryz.prog 95 #[.string s, .string t] w fun e w' => e = .returned (.int .i64 (Lib.compareBytes s.data.toList t.data.toList)) ∧ w' = w := by
  go_enter Tryz.func95, Tryz.ntmps95
  go_wp2
  rw [run_callFunc_extern Tryz.func111 (by kernel_rfl) (by kernel_rfl) (by kernel_rfl) (e := Extern.BytealgCompare.compare) (by kernel_rfl), Lib.run_compareString]
  simp only [Result.andThen]
  rw [Oper.upon_value]
  go_wp2
  go_ret
  exact ⟨rfl, rfl⟩
set_option maxRecDepth 100000 in
theorem cmpT_any (s t : ByteArray) (w : World) :
    Calls Tryz.prog 74 #[.string s, .string t] w fun e w' => e = .returned (.int .i64 (Lib.compareBytes s.data.toList t.data.toList)) ∧ w' = w := by
  go_enter Tryz.func74, Tryz.ntmps74
  go_wp2_with (go_at_call 95; refine (cmpS_any _ _ _).mono ?_; rintro e w' ⟨rfl, rfl⟩)
  go_ret
  exact ⟨rfl, rfl⟩
attribute [local go_sem ↓] to25l to23l toEq
set_option maxRecDepth 100000 in
set_option maxHeartbeats 1000000 in
theorem cmpC_any (a b : List Nat) (s t : ByteArray) (ha : a.length = 20) (hb : b.length = 20) (w : World) :
    Calls Tryz.prog 55 #[.agg (lab a s), .agg (lab b t)] w fun e w' => e = .returned (.int .i64 (cmpV a b s t)) ∧ Below w.heap.size w w' ∧ w.drawn ≤ w'.drawn := by
  obtain ⟨W2, hW2⟩ : ∃ W, W = (w.alloc (Obj.cells (lab a s) 51)).alloc (Obj.cells (lab b t) 51) := ⟨_, rfl⟩
  have rA : W2.heap[w.heap.size]? = some (.cells (lab a s) 51 (0, 0)) := by rw [hW2]; exact (heap_alloc_old _ _ (h := by simp)).trans (heap_alloc_new _ _)
  have rB : W2.heap[w.heap.size + 1]? = some (.cells (lab b t) 51 (0, 0)) := by
    rw [hW2]
    have := heap_alloc_new (w.alloc (Obj.cells (lab a s) 51)) (Obj.cells (lab b t) 51)
    rw [show (w.alloc (Obj.cells (lab a s) 51)).heap.size = w.heap.size + 1 by simp] at this
    exact this
  have bel2 : Below w.heap.size w W2 := by rw [hW2]; exact ((Below.refl _ w).alloc (Nat.le_refl _) _).alloc (by simp) _
  have hz2 : W2.heap.size = w.heap.size + 2 := by rw [hW2]; simp
  have l2 := run_loadR25 W2 w.heap.size a s rA ha
  have l3 := run_loadR25 W2 (w.heap.size + 1) b t rB hb
  have m2 := run_loadR23 W2 w.heap.size a s rA ha
  have m3 := run_loadR23 W2 (w.heap.size + 1) b t rB hb
  have heq := run_eqR W2 a b s t ha hb
  have HRA : Hid (W2.heap[w.heap.size]? = some (.cells (lab a s) 51 (0, 0))) := rA
  have HRB : Hid (W2.heap[w.heap.size + 1]? = some (.cells (lab b t) 51 (0, 0))) := rB
  have HBL : Hid (Below w.heap.size w W2) := bel2
  have HZ2 : Hid (W2.heap.size = w.heap.size + 2) := hz2
  clear rA rB bel2 hz2
  by_cases hE : a = b ∧ s = t
  · rw [decide_eq_true hE] at heq
    have hv : Hid (cmpV a b s t = 0) := by
      show _ = _
      obtain ⟨rfl, rfl⟩ := hE
      unfold cmpV
      rw [cmpH_self, if_neg (by simp), cmpB_self]
    rw [hW2] at l2 l3 m2 m3 heq
    clear hE
    go_enter Tryz.func55, Tryz.ntmps55
    go_wp2
    go_ret
    exact ⟨by rw [hv.out]; rfl, by rw [← hW2]; exact HBL.out, Nat.le_refl _⟩
  · rw [decide_eq_false hE] at heq
    rw [hW2] at l2 l3 m2 m3 heq
    have HW : Hid (W2 = (w.alloc (Obj.cells (lab a s) 51)).alloc (Obj.cells (lab b t) 51)) := hW2
    clear hE hW2
    go_enter Tryz.func55, Tryz.ntmps55
    go_wp2_with fail
    refine (hashes_any a b ha hb _).mono ?_
    rintro e W3 ⟨rfl, b3, d3⟩
    have HD3 : Hid (w.drawn ≤ W3.drawn) := d3
    clear d3
    rw [← HW.out] at b3
    have hbl : Below w.heap.size w W3 := HBL.out.trans (b3.mono (by have := HZ2.out; omega))
    clear l2 l3 m2 m3 heq
    by_cases h0 : cmpH a b 20 = 0
    · have hv : Hid (cmpV a b s t = Lib.compareBytes s.data.toList t.data.toList) := by show _ = _; unfold cmpV; rw [if_neg (by simp [h0])]
      have cs : W3.cell? ⟨w.heap.size, 20, none⟩ = some (.string s) := by rw [cell_of_row W3 _ _ _ _ _ ((b3.block _ (by have := HZ2.out; omega)).trans HRA.out)]; exact lab_name a s ha
      have ct : W3.cell? ⟨w.heap.size + 1, 20, none⟩ = some (.string t) := by rw [cell_of_row W3 _ _ _ _ _ ((b3.block _ (by have := HZ2.out; omega)).trans HRB.out)]; exact lab_name b t hb
      rw [h0]
      go_wp2_with (go_at_call 74; refine (cmpT_any _ _ _).mono ?_; rintro e w' ⟨rfl, rfl⟩)
      go_ret
      exact ⟨by rw [hv.out]; rfl, hbl, HD3.out⟩
    · have hv : Hid (cmpV a b s t = cmpH a b 20) := by show _ = _; unfold cmpV; rw [if_pos h0]
      go_wp2
      go_ret
      exact ⟨by rw [hv.out]; rfl, hbl, HD3.out⟩
end Go.Proofs.YtffghlbgbfhfdaaGreatDoor
