/- JournalDevices: wipe. -/
import Derived.Test.YtdiflmckjpmngaaJa3
import Derived.Lib.AppendZerosOnto
namespace Go.Proofs.Ytdiflmckjpmngaa
open Go.RowKit
/-- A file that was handed out. -/
def Fi (W wr : World) (o : Option Addr) (n : Nat) : Prop := (o = none ∧ n = 0) ∨ ∃ g C, o = some ⟨g, 0, none⟩ ∧ g < W.heap.size ∧ wr.heap[g]? = some (.cells C 5 (0, 0)) ∧ C.size = n
theorem Fi.keep {W wr w2 : World} {o : Option Addr} {n : Nat} (h : Fi W wr o n) (hb : Below W.heap.size wr w2) : Fi W w2 o n := by
  rcases h with h | ⟨g, C, h1, h2, h3, h4⟩
  · exact .inl h
  · exact .inr ⟨g, C, h1, h2, (hb.block g h2).trans h3, h4⟩
theorem Fi.set {W wr : World} {o : Option Addr} {n : Nat} (h : Fi W wr o n) (g i : Nat) (x : Value) {D : Array Value} (hD : wr.heap[g]? = some (.cells D 5 (0, 0))) : Fi W (wr.setCell ⟨g, i, none⟩ x) o n := by
  rcases h with h | ⟨g', C, h1, h2, h3, h4⟩
  · exact .inl h
  · by_cases e : g' = g
    · subst e
      exact .inr ⟨g', _, h1, h2, heap_setCell_same _ _ _ _ _ _ hD, by
        have := h3.symm.trans hD
        injection this with this
        injection this with this
        rw [Array.size_setIfInBounds, ← this, h4]⟩
    · exact .inr ⟨g', C, h1, h2, (heap_setCell_other _ _ _ _ (by show g' ≠ g; exact e)).trans h3, h4⟩
structure Wq (W : World) (b : Nat) (o0 o1 : Option Addr) (n0 n1 : Nat) (wr : World) : Prop where
  os : wr.os = W.os
  tape : wr.tape = W.tape
  output : wr.output = W.output
  size : W.heap.size ≤ wr.heap.size
  block : ∀ j, j < W.heap.size → (∀ a, o0 = some a → a.block ≠ j) → (∀ a, o1 = some a → a.block ≠ j) → wr.heap[j]? = W.heap[j]?
  box : wr.heap[b]? = some (.cells #[.slice o0 n0 n0, .slice o1 n1 n1] 28 (0, 0))
  hb : W.heap.size ≤ b
  e0 : Fi W wr o0 n0
  e1 : Fi W wr o1 n1
theorem Wq.below {W wr w2 : World} {b : Nat} {o0 o1 : Option Addr} {n0 n1 : Nat} (h : Wq W b o0 o1 n0 n1 wr) (hb : Below wr.heap.size wr w2) : Wq W b o0 o1 n0 n1 w2 :=
  ⟨hb.os.trans h.os, hb.tape.trans h.tape, hb.output.trans h.output, Nat.le_trans h.size hb.size, fun j hj a1 a2 => (hb.block j (Nat.lt_of_lt_of_le hj h.size)).trans (h.block j hj a1 a2), (hb.block b (Array.getElem?_eq_some_iff.1 h.box).1).trans h.box, h.hb, h.e0.keep (hb.mono h.size), h.e1.keep (hb.mono h.size)⟩
def apZ (ty : Nat) (vs : Array Value) : Sem Value := Builtin.append_ #[25, 3] ty vs
theorem toApZ (ty : Nat) (vs : Array Value) : Builtin.append_ #[25, 3] ty vs = apZ ty vs := rfl
theorem run_apZ {W wr : World} {o : Option Addr} {n : Nat} (h : Fi W wr o n) (hn : n ≤ LIM) : ∃ M cp, (apZ 25 #[.slice o n n, .int .i64 70]).run Try.prog wr = .ok (.slice (some ⟨wr.heap.size, 0, none⟩) (n + 70) cp) (wr.drew.alloc (.cells M 5)) ∧ n + 70 ≤ M.size := by
  obtain ⟨i0, hi0, hz0, hz1, hz2⟩ := info_parts info5
  unfold LIM at hn
  have hfit : Builtin.nextslicecap (n + 70) n * i0.bytes ≤ 281474976710656 := by rw [hz2]; exact growslice_fits (by omega) (by omega)
  rcases h with ⟨rfl, rfl⟩ | ⟨g, C, rfl, h2, h3, rfl⟩
  · have := Lib.run_append_grow_zeros (P := Try.prog) wr 25 3 25 5 i0 (.int .u8 0) .i64 .i64 Try.underlying25 (by kernel_rfl) hi0 hz0 none 0 0 [] (by simp [Builtin.firstCells]) 70 (by omega) (by omega) (by omega) (by omega) (by rw [hz2]; omega) hfit
    exact ⟨_, _, this, by simp [Builtin.zeroCells, Value.cells]⟩
  · have := Lib.run_append_grow_zeros (P := Try.prog) wr 25 3 25 5 i0 (.int .u8 0) .i64 .i64 Try.underlying25 (by kernel_rfl) hi0 hz0 (some ⟨g, 0, none⟩) C.size C.size C.toList (by
      rw [hz1]
      exact run_firstCells_some (P := Try.prog) (w := wr.drew) 1 C.size ⟨g, 0, none⟩ C.size C.size C.toList (by simp) (fun j u hu => by
        rw [Addr.add_mid, Nat.zero_add]
        show wr.cell? _ = _
        rw [cell_of_row _ _ _ _ _ _ h3]
        simpa using hu)) 70 (by omega) (by omega) (by omega) (by omega) (by rw [hz2]; omega) hfit
    exact ⟨_, _, this, by simp [Builtin.zeroCells, Value.cells]⟩
theorem bel_new (w : World) (M : Array Value) : Below w.heap.size w (w.alloc (.cells M 5)).drew := by
  have h := (Below.refl _ w).alloc (Nat.le_refl _) (.cells M 5)
  exact ⟨h.os, h.tape, h.output, h.size, h.block⟩
theorem Wq.set0 {W wr : World} {b : Nat} {o0 o1 : Option Addr} {n0 n1 : Nat} (h : Wq W b o0 o1 n0 n1 wr) (i : Nat) (hi : i < n0) : ∃ g u, o0 = some ⟨g, 0, none⟩ ∧ wr.cell? ⟨g, i, none⟩ = some u ∧ wr.frozen? ⟨g, i, none⟩ = false ∧ ∀ x, Wq W b o0 o1 n0 n1 (wr.setCell ⟨g, i, none⟩ x) := by
  rcases h.e0 with ⟨_, h2⟩ | ⟨g, C, h1, h2, h3, h4⟩
  · omega
  · have hne : b ≠ g := fun e => by have := h.hb; omega
    refine ⟨g, C[i], h1, by rw [cell_of_row _ _ _ _ _ _ h3]; exact Array.getElem?_eq_getElem (by omega), frozen_of_row _ _ _ _ _ h3, fun x => ⟨h.os, h.tape, h.output, by simpa using h.size, fun j hj a0 a1 => ?_, (heap_setCell_other _ _ _ _ (by show b ≠ g; exact hne)).trans h.box, h.hb, h.e0.set g i x h3, h.e1.set g i x h3⟩⟩
    refine (heap_setCell_other _ _ _ _ ?_).trans (h.block j hj a0 a1)
    show j ≠ g
    exact fun e => a0 _ h1 e.symm
theorem Wq.set1 {W wr : World} {b : Nat} {o0 o1 : Option Addr} {n0 n1 : Nat} (h : Wq W b o0 o1 n0 n1 wr) (i : Nat) (hi : i < n1) : ∃ g u, o1 = some ⟨g, 0, none⟩ ∧ wr.cell? ⟨g, i, none⟩ = some u ∧ wr.frozen? ⟨g, i, none⟩ = false ∧ ∀ x, Wq W b o0 o1 n0 n1 (wr.setCell ⟨g, i, none⟩ x) := by
  rcases h.e1 with ⟨_, h2⟩ | ⟨g, C, h1, h2, h3, h4⟩
  · omega
  · have hne : b ≠ g := fun e => by have := h.hb; omega
    refine ⟨g, C[i], h1, by rw [cell_of_row _ _ _ _ _ _ h3]; exact Array.getElem?_eq_getElem (by omega), frozen_of_row _ _ _ _ _ h3, fun x => ⟨h.os, h.tape, h.output, by simpa using h.size, fun j hj a0 a1 => ?_, (heap_setCell_other _ _ _ _ (by show b ≠ g; exact hne)).trans h.box, h.hb, h.e0.set g i x h3, h.e1.set g i x h3⟩⟩
    refine (heap_setCell_other _ _ _ _ ?_).trans (h.block j hj a0 a1)
    show j ≠ g
    exact fun e => a1 _ h1 e.symm
section
attribute [local go_sem ↓] toApZ
set_option maxRecDepth 100000 in
set_option maxHeartbeats 3200000 in
theorem wipe_any (W : World) (o0 o1 : Option Addr) (n0 n1 : Nat) (h0 : Fi W W o0 n0) (h1 : Fi W W o1 n1) (hn0 : n0 ≤ LIM) (hn1 : n1 ≤ LIM) : Calls Try.prog 20 #[.agg #[.slice o0 n0 n0, .slice o1 n1 n1]] W fun e w' => e = .returned (.tuple #[]) ∧ Wq W W.heap.size o0 o1 n0 n1 w' := by
  have HS : Hid (Wq W W.heap.size o0 o1 n0 n1 (W.alloc (.cells #[.slice o0 n0 n0, .slice o1 n1 n1] 28))) := by
    have hb : Below W.heap.size W (W.alloc (.cells #[.slice o0 n0 n0, .slice o1 n1 n1] 28)) := (Below.refl _ W).alloc (Nat.le_refl _) _
    exact ⟨rfl, rfl, rfl, hb.size, fun j hj _ _ => hb.block j hj, heap_alloc_new _ _, Nat.le_refl _, h0.keep hb, h1.keep hb⟩
  have HN : Hid (n0 ≤ LIM ∧ n1 ≤ LIM) := ⟨hn0, hn1⟩
  clear h0 h1 hn0 hn1
  go_enter Try.func20, Try.ntmps20
  go_wp2_with fail
  go_loopw [2] (fun iv wr => (iv = .int .i64 0 ∨ iv = .int .i64 1 ∨ iv = .int .i64 2) ∧ Hid (Wq W W.heap.size o0 o1 n0 n1 wr)) (fun iv _ => 2 - (intOf iv).toNat)
  case atStart => exact ⟨.inl rfl, HS⟩
  case round =>
    obtain ⟨hiv, HR⟩ := hrel
    clear HS
    rcases hiv with rfl | rfl | rfl
    · as_aux_lemma =>
        go_wp2_with fail
        go_loopw [3] (fun jv wq => ∃ i : Nat, jv = .int .i64 (i : Int) ∧ Hid (i ≤ n0 ∧ Wq W W.heap.size o0 o1 n0 n1 wq)) (fun jv _ => n0 + 1 - (intOf jv).toNat)
        case atStart => exact ⟨0, rfl, ⟨Nat.zero_le _, HR.out⟩⟩
        case round =>
          obtain ⟨i, rfl, HI⟩ := hrel
          have bx := HI.out.2.box
          have c0 : wr.cell? ⟨W.heap.size, 0, none⟩ = some (.slice o0 n0 n0) := by rw [cell_of_row _ _ _ _ _ _ bx]; rfl
          clear bx
          by_cases hi : i < n0
          · obtain ⟨g, u, rfl, cg, fg, HX⟩ := HI.out.2.set0 i hi
            have HX2 : Hid _ := HX
            have hi0 : (0 : Int) ≤ (i : Int) := by omega
            have hi1 : (i : Int) < (n0 : Int) := by omega
            have w1 : IntKind.i64.wrap ((i : Int) + 1) = (i : Int) + 1 := by rw [IntKind.wrap_i64]; have := HN.out; unfold LIM at this; omega
            have HL : Hid (i < n0) := hi
            clear HX hi
            go_wp2_with fail
            go_roundw
            case rel => exact ⟨i + 1, by go_num, ⟨HL.out, HX2.out _⟩⟩
            case measure => have := HL.out; simp [intOf]; omega
          · have hi2 : ¬ ((i : Int) < (n0 : Int)) := by omega
            have hQ := HI.out.2
            obtain ⟨M, cp, rZ, hM⟩ := run_apZ hQ.e0 HN.out.1
            obtain ⟨u, cu⟩ : ∃ u, M[n0 + 69]? = some u := ⟨_, Array.getElem?_eq_getElem (by omega)⟩
            obtain ⟨m, hm⟩ : ∃ m : Nat, n0 + 70 = m := ⟨_, rfl⟩
            obtain ⟨m2, hm2⟩ : ∃ m : Nat, n0 + 69 = m := ⟨_, rfl⟩
            have w1 : IntKind.i64.wrap ((m : Int) - 1) = (m2 : Int) := by rw [IntKind.wrap_i64]; have := HN.out; unfold LIM at this; omega
            have w2 : (0 : Int) ≤ (m2 : Int) := by omega
            have w3 : (m2 : Int) < (m : Int) := by omega
            rw [hm] at rZ
            rw [hm2] at cu
            have HF : Hid _ := hQ.below (bel_new wr (M.setIfInBounds m2 (.int .u8 1)))
            clear hi hQ hM hm hm2
            go_wp2_with fail
            go_roundw
            case rel => exact ⟨by simp, HF⟩
            case measure => simp [intOf]
    · as_aux_lemma =>
        go_wp2_with fail
        go_loopw [3] (fun jv wq => ∃ i : Nat, jv = .int .i64 (i : Int) ∧ Hid (i ≤ n1 ∧ Wq W W.heap.size o0 o1 n0 n1 wq)) (fun jv _ => n1 + 1 - (intOf jv).toNat)
        case atStart => exact ⟨0, rfl, ⟨Nat.zero_le _, HR.out⟩⟩
        case round =>
          obtain ⟨i, rfl, HI⟩ := hrel
          have bx := HI.out.2.box
          have c1 : wr.cell? ⟨W.heap.size, 1, none⟩ = some (.slice o1 n1 n1) := by rw [cell_of_row _ _ _ _ _ _ bx]; rfl
          clear bx
          by_cases hi : i < n1
          · obtain ⟨g, u, rfl, cg, fg, HX⟩ := HI.out.2.set1 i hi
            have HX2 : Hid _ := HX
            have hi0 : (0 : Int) ≤ (i : Int) := by omega
            have hi1 : (i : Int) < (n1 : Int) := by omega
            have w1 : IntKind.i64.wrap ((i : Int) + 1) = (i : Int) + 1 := by rw [IntKind.wrap_i64]; have := HN.out; unfold LIM at this; omega
            have HL : Hid (i < n1) := hi
            clear HX hi
            go_wp2_with fail
            go_roundw
            case rel => exact ⟨i + 1, by go_num, ⟨HL.out, HX2.out _⟩⟩
            case measure => have := HL.out; simp [intOf]; omega
          · have hi2 : ¬ ((i : Int) < (n1 : Int)) := by omega
            have hQ := HI.out.2
            obtain ⟨M, cp, rZ, hM⟩ := run_apZ hQ.e1 HN.out.2
            obtain ⟨u, cu⟩ : ∃ u, M[n1 + 69]? = some u := ⟨_, Array.getElem?_eq_getElem (by omega)⟩
            obtain ⟨m, hm⟩ : ∃ m : Nat, n1 + 70 = m := ⟨_, rfl⟩
            obtain ⟨m2, hm2⟩ : ∃ m : Nat, n1 + 69 = m := ⟨_, rfl⟩
            have w1 : IntKind.i64.wrap ((m : Int) - 1) = (m2 : Int) := by rw [IntKind.wrap_i64]; have := HN.out; unfold LIM at this; omega
            have w2 : (0 : Int) ≤ (m2 : Int) := by omega
            have w3 : (m2 : Int) < (m : Int) := by omega
            rw [hm] at rZ
            rw [hm2] at cu
            have HF : Hid _ := hQ.below (bel_new wr (M.setIfInBounds m2 (.int .u8 1)))
            clear hi hQ hM hm hm2
            go_wp2_with fail
            go_roundw
            case rel => exact ⟨by simp, HF⟩
            case measure => simp [intOf]
    · go_wp2_with fail
      go_end0
      exact ⟨rfl, HR.out⟩
end
end Go.Proofs.Ytdiflmckjpmngaa
