/- Several texts in one: Lo5, Lo6. -/
import Derived.Test.YtageaeebiopmbaaDoorLo4
import Derived.Test.YtageaeebiopmbaaDoorPrn
/- LabelOutputs: checkFinger. -/
namespace Go.Proofs.YtageaeebiopmbaaDoor
open Go.RowKit
set_option maxRecDepth 100000 in
theorem refs_0 (w : World) : Calls Tryd.prog 24 #[.slice none 0 0] w fun e w' => e = .returned (.int .i64 0) ∧ w' = w := by
  go_enter Tryd.func24, Tryd.ntmps24
  go_wp2_with fail
  go_loopw [12] (fun iv wr => iv = .int .i64 0 ∧ wr = w) (fun _ _ => 0)
  case atStart => exact ⟨rfl, rfl⟩
  case round =>
    obtain ⟨rfl, rfl⟩ := hrel
    go_wp2
    go_ret
    exact ⟨rfl, rfl⟩
set_option maxRecDepth 100000 in
set_option maxHeartbeats 1000000 in
theorem unused_any (o n : ByteArray) (s : List Nat) (w : World) (hk : Tk w) (hsz : 4 < w.heap.size) :
    Calls Tryd.prog 23 #[.agg (fing o n s)] w fun e w' => e = .returned (.bool false) ∧ Below w.heap.size w w' := by
  have f0 : (fing o n s)[0]? = some (.int .i64 3) := fing_head o n s 0 (by omega)
  have f1 : (fing o n s)[1]? = some (.slice none 0 0) := fing_head o n s 1 (by omega)
  have f2 : (fing o n s)[2]? = some (.bool false) := fing_head o n s 2 (by omega)
  have f3 : (fing o n s)[3]? = some (.string o) := fing_head o n s 3 (by omega)
  have f4 : (fing o n s)[4]? = some (.int .i64 0) := fing_head o n s 4 (by omega)
  have k7 := hk.c7
  have h0 : (0 : Nat) < w.heap.size := by omega
  clear hk
  go_enter Tryd.func23, Tryd.ntmps23
  go_wp2_with fail
  go_ret
  exact ⟨rfl, ((Below.refl _ w).alloc (Nat.le_refl _) _).alloc (by simp) _⟩
end Go.Proofs.YtageaeebiopmbaaDoor

/- LabelOutputs: checkFinger. -/
namespace Go.Proofs.YtageaeebiopmbaaDoor
open Go.RowKit
set_option maxRecDepth 100000 in
theorem size39 : (Tryd.prog.info? 39).map (·.size) = some 38 := by kernel_rfl
set_option maxRecDepth 100000 in
theorem under39 : Tryd.prog.underlying 39 = some (.struct (Tryd.prog.fieldsOf 39)) := by kernel_rfl
theorem to39l (v : Value) : Instr.loadAt 39 v = loadR 39 v := rfl
theorem run_ld39 (w : World) (g : Nat) (o n : ByteArray) (s : List Nat) (hl : s.length = 32) (hg : w.heap[g]? = some (.cells (fing o n s) 39 (0, 0))) : (loadR 39 (.pointer (some ⟨g, 0, none⟩))).run Tryd.prog w = .ok (.agg (fing o n s)) w := by
  unfold loadR
  simp only [Instr.loadAt, Instr.sureAddr, Sem.run_bind, Sem.run_pure, Result.andThen_ok, run_loadVar_row w g 39 39 (fing o n s) (0, 0) _ hg under39 rfl (by rw [size39, fing_size o n s hl])]
attribute [local go_sem ↓] to39l
theorem fing_cells (o n : ByteArray) (s : List Nat) (hl : s.length = 32) (g : Nat) (W : World) (h : W.heap[g]? = some (.cells (fing o n s) 39 (0, 0))) : W.cell? ⟨g, 0, none⟩ = some (.int .i64 3) ∧ W.cell? ⟨g, 1, none⟩ = some (.slice none 0 0) ∧ W.cell? ⟨g, 3, none⟩ = some (.string o) ∧ W.cell? ⟨g, 4, none⟩ = some (.int .i64 0) ∧ W.cell? ⟨g, 37, none⟩ = some (.string n) :=
  have q := cells39 o n s g W h
  ⟨q.1, q.2.1, q.2.2.2.1, q.2.2.2.2, (cell_of_row W g 37 _ _ _ h).trans (fing_name o n s hl)⟩
set_option maxRecDepth 100000 in
set_option maxHeartbeats 1000000 in
theorem chk_any (o n : ByteArray) (ho : okN o = 0) (s : List Nat) (hl : s.length = 32) (w : World) (hk : Tk w) (hsz : 4 < w.heap.size) :
    Calls Tryd.prog 17 #[.agg (fing o n s)] w fun e w' => e = .returned (.int .i64 ((okN n : Nat) : Int)) ∧ Below w.heap.size w w' := by
  obtain ⟨W0, hW0⟩ : ∃ W0, w.alloc (.cells (fing o n s) 39) = W0 := ⟨_, rfl⟩
  have bel : Below w.heap.size w W0 := by rw [← hW0]; exact (Below.refl _ w).alloc (Nat.le_refl _) _
  have hs0 : W0.heap.size = w.heap.size + 1 := by rw [← hW0]; simp
  have row : W0.heap[w.heap.size]? = some (.cells (fing o n s) 39 (0, 0)) := by rw [← hW0]; exact heap_alloc_new w _
  have HK : Hid (∀ W, Below W0.heap.size W0 W → Tk W ∧ 4 < W.heap.size ∧ W.heap[w.heap.size]? = some (.cells (fing o n s) 39 (0, 0)) ∧ Below w.heap.size w W) := fun W hb =>
    ⟨(hk.below bel (by omega)).below hb (by omega), by have := hb.size; omega, (hb.block _ (by omega)).trans row, bel.trans (hb.mono (by omega))⟩
  have ld := run_ld39 W0 w.heap.size o n s hl row
  have C0 : Hid _ := unused_any o n s W0 (hk.below bel (by omega)) (by omega)
  obtain ⟨q0, q1, q3, q4, q37⟩ := fing_cells o n s hl _ W0 row
  obtain ⟨E, hE⟩ : ∃ E, E = okN n := ⟨_, rfl⟩
  obtain ⟨F, hF⟩ : ∃ F, F = (checkN n).2 := ⟨_, rfl⟩
  obtain ⟨G, hG⟩ : ∃ G, G = (checkN o).2 := ⟨_, rfl⟩
  have C1 : Hid (∀ W, Calls Tryd.prog 7 #[.string n] W fun e w' => e = .returned (.tuple #[.int .i64 (E : Int), .int .i64 (F : Int)]) ∧ Below W.heap.size W w') := by
    intro W
    have := check_any n W
    rw [hE, hF]
    exact this
  have C2 : Hid (∀ W, Calls Tryd.prog 7 #[.string o] W fun e w' => e = .returned (.tuple #[.int .i64 0, .int .i64 (G : Int)]) ∧ Below W.heap.size W w') := by
    intro W
    have := check_any o W
    have h2 : ans (checkN o) = .tuple #[.int .i64 ((okN o : Nat) : Int), .int .i64 (G : Int)] := by rw [hG]; rfl
    rw [h2, ho] at this
    exact this
  have HW0 : Hid (w.alloc (.cells (fing o n s) 39) = W0) := hW0
  have HZ : Hid (W0.heap.size = w.heap.size + 1) := hs0
  rw [← hE]
  rw [← hW0] at q0 q1 q3 q4 q37 ld
  clear hE hF hG hW0 bel row hk ho hs0
  go_enter Tryd.func17, Tryd.ntmps17
  go_wp2_with fail
  rw [HW0.out]
  refine Calls.mono C0.out ?_
  rintro e W1 ⟨rfl, b1⟩
  clear C0 q0 q1 q3 q4 q37 ld
  obtain ⟨k1, z1, r1, bw1⟩ := HK.out W1 b1
  obtain ⟨q0, q1, q3, q4, q37⟩ := fing_cells o n s hl _ W1 r1
  have HB1 : Hid (Below W0.heap.size W0 W1) := b1
  clear b1 k1 z1 r1 bw1
  go_wp2_with fail
  refine Calls.mono (C1.out W1) ?_
  rintro e W2 ⟨rfl, b2⟩
  clear q0 q1 q3 q4 q37
  have HB2 : Hid (Below W0.heap.size W0 W2) := HB1.out.trans (b2.mono HB1.out.size)
  obtain ⟨k2, z2, r2, bw2⟩ := HK.out W2 HB2.out
  obtain ⟨q0, q1, q3, q4, q37⟩ := fing_cells o n s hl _ W2 r2
  have HBW : Hid (Below w.heap.size w W2) := bw2
  have k7 := k2.c7
  clear b2 k2 z2 r2 bw2 HB1
  by_cases h0 : E = 0
  · subst h0
    go_wp2_with fail
    refine Calls.mono (C2.out W2) ?_
    rintro e W3 ⟨rfl, b3⟩
    clear q0 q1 q3 q4 q37 k7
    have HB3 : Hid (Below W0.heap.size W0 W3) := HB2.out.trans (b3.mono HB2.out.size)
    obtain ⟨k3, z3, r3, bw3⟩ := HK.out W3 HB3.out
    obtain ⟨q0, q1, q3, q4, q37⟩ := fing_cells o n s hl _ W3 r3
    have HBW3 : Hid (Below w.heap.size w W3) := bw3
    have C3 : Hid _ := refs_0 W3
    clear b3 k3 z3 r3 bw3
    go_wp2_with fail
    refine Calls.mono C3.out ?_
    rintro e W4 ⟨rfl, rfl⟩
    go_wp2
    go_ret
    exact ⟨rfl, HBW3.out⟩
  · have h0' : ¬ ((E : Int) = 0) := by omega
    go_wp2
    go_ret
    exact ⟨rfl, HBW.out⟩
end Go.Proofs.YtageaeebiopmbaaDoor
