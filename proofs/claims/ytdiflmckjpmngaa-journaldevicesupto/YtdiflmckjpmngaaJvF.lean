/- The journal's device: disk, Disk. -/
import Derived.Test.YtdiflmckjpmngaaJvE
namespace Go.Proofs.Ytdiflmckjpmngaa
open Go.RowKit
def dkA (g0 n0 g1 n1 : Nat) : Array Value := #[.slice (some ⟨g0, 0, none⟩) n0 n0, .slice (some ⟨g1, 0, none⟩) n1 n1]
/-- A disk that is handed out. -/
def DkP (W : World) (x : Sp) (c : Array Value) (w' : World) : Prop := ∃ g0 g1, c = dkA g0 x.1.1.length g1 x.2.1.length ∧ w'.heap[g0]? = some (.cells (bs x.1.1).toArray 5 (0, 0)) ∧ w'.heap[g1]? = some (.cells (bs x.2.1).toArray 5 (0, 0)) ∧ W.heap.size ≤ g0 ∧ W.heap.size ≤ g1 ∧ g0 ≠ g1 ∧ Below W.heap.size W w'
def zD : Array Value := #[.slice none 0 0, .slice none 0 0]
theorem sizeD : (Try.prog.info? 28).map (·.size) = some 2 := by kernel_rfl
theorem results_D {fn : Func} {p : Tmp} (h : fn.results = #[.cell p 28]) (tmps : Array Value) (w : World) (g : Nat) (C : Array Value) (hC : C.size = 2)
    (hp : tmps.getD p undef = .pointer (some ⟨g, 0, none⟩)) (hg : w.heap[g]? = some (.cells C 28 (0, 0))) :
    (results fn tmps).run Try.prog w = .ok (.agg C) w := by
  have hp' : tmps[p]?.getD undef = .pointer (some ⟨g, 0, none⟩) := by simpa using hp
  simp [results, h, hp', asAddr, run_loadVar_row w g 28 28 C (0, 0) _ hg Try.underlying28 rfl (by rw [sizeD, hC])]
theorem results_Dt {fn : Func} {p u : Tmp} (h : fn.results = #[.cell p 28, .tmp u]) (tmps : Array Value) (w : World) (g : Nat) (C : Array Value) (hC : C.size = 2)
    (hp : tmps.getD p undef = .pointer (some ⟨g, 0, none⟩)) (hg : w.heap[g]? = some (.cells C 28 (0, 0))) :
    (results fn tmps).run Try.prog w = .ok (.tuple #[.agg C, tmps.getD u undef]) w := by
  have hp' : tmps[p]?.getD undef = .pointer (some ⟨g, 0, none⟩) := by simpa using hp
  simp [results, h, hp', asAddr, run_loadVar_row w g 28 28 C (0, 0) _ hg Try.underlying28 rfl (by rw [sizeD, hC])]
def ldD (p : Value) : Sem Value := Instr.loadAt 28 p
theorem toLdD (p : Value) : Instr.loadAt 28 p = ldD p := rfl
def stD (p v : Value) : Sem Unit := Instr.storeAt 28 p v
theorem toStD (p v : Value) : Instr.storeAt 28 p v = stD p v := rfl
theorem ld_Drow (w : World) (g : Nat) (c : Array Value) (hc : c.size = 2) (h : w.heap[g]? = some (.cells c 28 (0, 0))) : (ldD (.pointer (some ⟨g, 0, none⟩))).run Try.prog w = .ok (.agg c) w := by
  have h2 := World.rangeAt_of_block h 0 2
  rw [show c.extract 0 (0 + 2) = c by rw [← hc, Nat.zero_add]; simp] at h2
  have := run_loadAt_mid (P := Try.prog) w g 0 28 c.toList _ h2 Try.underlying28 rfl (by rw [sizeD]; simp [hc])
  simpa [ldD] using this
theorem st_D (w : World) (g : Nat) (C D : Array Value) (hC : C.size = 2) (hD : D.size = 2) (h1 : D.all (·.oneCell') = true) (hg : w.heap[g]? = some (.cells C 28 (0, 0))) : (stD (.pointer (some ⟨g, 0, none⟩)) (.agg D)).run Try.prog w = .ok () (w.setRow g D) := by
  unfold stD
  simp only [Instr.storeAt, Instr.sureAddr, Sem.run_bind, Sem.run_pure, Result.andThen_ok, run_storeVar_row w g 28 28 C D hg (by rw [sizeD, hD]) (by rw [hD, hC]) h1]
/-- What stands while a disk is laid. -/
def DkR (W : World) (x : Sp) (i : Nat) (wr : World) : Prop := ∃ v0 v1, wr.heap[W.heap.size + 2]? = some (.cells #[v0, v1] 28 (0, 0)) ∧ wr.heap[W.heap.size + 1]? = some (.cells zD 28 (0, 0)) ∧ Below W.heap.size W wr ∧ (0 < i → ∃ g0, v0 = .slice (some ⟨g0, 0, none⟩) x.1.1.length x.1.1.length ∧ W.heap.size + 3 ≤ g0 ∧ wr.heap[g0]? = some (.cells (bs x.1.1).toArray 5 (0, 0)) ∧ (1 < i → ∃ g1, v1 = .slice (some ⟨g1, 0, none⟩) x.2.1.length x.2.1.length ∧ g0 < g1 ∧ wr.heap[g1]? = some (.cells (bs x.2.1).toArray 5 (0, 0))))
theorem DkR.step0 {W wr X : World} {x : Sp} (c : Obj) (h : DkR W x 0 wr) (g : Nat) (hb : Below (wr.alloc c).heap.size (wr.alloc c) X) (hg : X.heap[g]? = some (.cells (bs x.1.1).toArray 5 (0, 0))) (hg2 : (wr.alloc c).heap.size ≤ g) : (∃ v, X.cell? ⟨W.heap.size + 2, 0, none⟩ = some v) ∧ X.frozen? ⟨W.heap.size + 2, 0, none⟩ = false ∧ DkR W x 1 (X.setCell ⟨W.heap.size + 2, 0, none⟩ (.slice (some ⟨g, 0, none⟩) x.1.1.length x.1.1.length)) := by
  obtain ⟨v0, v1, h1, h2, h3, -⟩ := h
  have hz : W.heap.size + 2 < wr.heap.size := (Array.getElem?_eq_some_iff.1 h1).1
  have hza : (wr.alloc c).heap.size = wr.heap.size + 1 := by simp
  rw [hza] at hg2
  have kp : ∀ j, j < wr.heap.size → X.heap[j]? = wr.heap[j]? := fun j hj => (hb.block j (by omega)).trans (heap_alloc_old _ _ (h := hj))
  have b1 : X.heap[W.heap.size + 2]? = some (.cells #[v0, v1] 28 (0, 0)) := (kp _ hz).trans h1
  have bb : Below W.heap.size W X := (h3.alloc (by omega) c).trans (hb.mono (by omega))
  refine ⟨⟨v0, by rw [cell_of_row _ _ _ _ _ _ b1]; rfl⟩, frozen_of_row _ _ _ _ _ b1, .slice (some ⟨g, 0, none⟩) x.1.1.length x.1.1.length, v1, heap_setCell_same _ _ _ _ _ _ b1, (heap_setCell_other _ _ _ _ (by show W.heap.size + 1 ≠ W.heap.size + 2; omega)).trans ((kp _ (by omega)).trans h2), bb.setCell (by simp) _, fun _ => ⟨g, rfl, by omega, (heap_setCell_other _ _ _ _ (by show g ≠ W.heap.size + 2; omega)).trans hg, fun h => by omega⟩⟩
theorem DkR.step1 {W wr X : World} {x : Sp} (c : Obj) (h : DkR W x 1 wr) (g : Nat) (hb : Below (wr.alloc c).heap.size (wr.alloc c) X) (hg : X.heap[g]? = some (.cells (bs x.2.1).toArray 5 (0, 0))) (hg2 : (wr.alloc c).heap.size ≤ g) : (∃ v, X.cell? ⟨W.heap.size + 2, 1, none⟩ = some v) ∧ X.frozen? ⟨W.heap.size + 2, 1, none⟩ = false ∧ DkR W x 2 (X.setCell ⟨W.heap.size + 2, 1, none⟩ (.slice (some ⟨g, 0, none⟩) x.2.1.length x.2.1.length)) := by
  obtain ⟨v0, v1, h1, h2, h3, h4⟩ := h
  obtain ⟨g0, rfl, q1, q2, -⟩ := h4 (by omega)
  have hz : W.heap.size + 2 < wr.heap.size := (Array.getElem?_eq_some_iff.1 h1).1
  have hz0 : g0 < wr.heap.size := (Array.getElem?_eq_some_iff.1 q2).1
  have hza : (wr.alloc c).heap.size = wr.heap.size + 1 := by simp
  rw [hza] at hg2
  have kp : ∀ j, j < wr.heap.size → X.heap[j]? = wr.heap[j]? := fun j hj => (hb.block j (by omega)).trans (heap_alloc_old _ _ (h := hj))
  have b1 : X.heap[W.heap.size + 2]? = some (.cells #[.slice (some ⟨g0, 0, none⟩) x.1.1.length x.1.1.length, v1] 28 (0, 0)) := (kp _ hz).trans h1
  have bb : Below W.heap.size W X := (h3.alloc (by omega) c).trans (hb.mono (by omega))
  refine ⟨⟨v1, by rw [cell_of_row _ _ _ _ _ _ b1]; rfl⟩, frozen_of_row _ _ _ _ _ b1, _, .slice (some ⟨g, 0, none⟩) x.2.1.length x.2.1.length, heap_setCell_same _ _ _ _ _ _ b1, (heap_setCell_other _ _ _ _ (by show W.heap.size + 1 ≠ W.heap.size + 2; omega)).trans ((kp _ (by omega)).trans h2), bb.setCell (by simp) _, fun _ => ⟨g0, rfl, q1, (heap_setCell_other _ _ _ _ (by show g0 ≠ W.heap.size + 2; omega)).trans ((kp _ hz0).trans q2), fun _ => ⟨g, rfl, by omega, (heap_setCell_other _ _ _ _ (by show g ≠ W.heap.size + 2; omega)).trans hg⟩⟩⟩
theorem ix_M0 (w : World) (p0 p1 : Option Addr) (n0 s0 n1 s1 : Nat) : (Instr.index 52 (.agg #[.pointer p0, .int .i64 (n0 : Int), .int .i64 (s0 : Int), .pointer p1, .int .i64 (n1 : Int), .int .i64 (s1 : Int)]) (.int .i64 0)).run Try.prog w = .ok (.agg #[.pointer p0, .int .i64 (n0 : Int), .int .i64 (s0 : Int)]) w := by
  obtain ⟨i, hi, hs⟩ : ∃ i, Try.prog.info? 50 = some i ∧ i.size = 3 := by
    have := sizeC
    cases hq : Try.prog.info? 50 with
    | none => rw [hq] at this; cases this
    | some i => rw [hq] at this; exact ⟨i, rfl, by simpa using this⟩
  simp [Instr.index, asIntOf, Sem.run_bind, run_underlying Try.underlying52, sizeOf, typeInfo, hi, hs, part, isAgg, run_underlying Try.underlying50]
theorem ix_M1 (w : World) (p0 p1 : Option Addr) (n0 s0 n1 s1 : Nat) : (Instr.index 52 (.agg #[.pointer p0, .int .i64 (n0 : Int), .int .i64 (s0 : Int), .pointer p1, .int .i64 (n1 : Int), .int .i64 (s1 : Int)]) (.int .i64 1)).run Try.prog w = .ok (.agg #[.pointer p1, .int .i64 (n1 : Int), .int .i64 (s1 : Int)]) w := by
  obtain ⟨i, hi, hs⟩ : ∃ i, Try.prog.info? 50 = some i ∧ i.size = 3 := by
    have := sizeC
    cases hq : Try.prog.info? 50 with
    | none => rw [hq] at this; cases this
    | some i => rw [hq] at this; exact ⟨i, rfl, by simpa using this⟩
  simp [Instr.index, asIntOf, Sem.run_bind, run_underlying Try.underlying52, sizeOf, typeInfo, hi, hs, part, isAgg, run_underlying Try.underlying50]
section
attribute [local go_sem ↓] toLdD toStD
set_option maxRecDepth 100000 in
set_option maxHeartbeats 1600000 in
theorem disk_any (Q : Nat → Prop) (m : Array Value) (x : Sp) (W : World) (hm : Mo Q W m x) (hQ : ∀ j, Q j → j < W.heap.size) : Calls Try.prog 31 #[.agg m] W fun e w' => ∃ c, e = .returned (.agg c) ∧ DkP W x c w' := by
  obtain ⟨p0, p1, rfl, hc0, hc1⟩ := hm
  obtain ⟨W3, hW3⟩ : ∃ W3, ((W.alloc (.cells (momA p0 x.1.1.length x.1.2 p1 x.2.1.length x.2.2) 52)).alloc (.cells zD 28)).alloc (.cells zD 28) = W3 := ⟨_, rfl⟩
  have z2 : ((W.alloc (.cells (momA p0 x.1.1.length x.1.2 p1 x.2.1.length x.2.2) 52)).alloc (.cells zD 28)).heap.size = W.heap.size + 2 := by simp
  have bW : Below W.heap.size W W3 := by rw [← hW3]; exact (below2 _ _ _).alloc (by simp; omega) _
  have r1 : W3.heap[W.heap.size + 1]? = some (.cells zD 28 (0, 0)) := by rw [← hW3]; exact (heap_alloc_old _ _ (h := by rw [z2]; omega)).trans (row2n _ _ _)
  have r2 : W3.heap[W.heap.size + 2]? = some (.cells zD 28 (0, 0)) := by
    rw [← hW3]
    have := heap_alloc_new ((W.alloc (.cells (momA p0 x.1.1.length x.1.2 p1 x.2.1.length x.2.2) 52)).alloc (.cells zD 28)) (.cells zD 28)
    rw [z2] at this
    exact this
  have HS : Hid (DkR W x 0 W3) := ⟨_, _, r2, r1, bW, fun h => by omega⟩
  have HW : Hid (((W.alloc (.cells (momA p0 x.1.1.length x.1.2 p1 x.2.1.length x.2.2) 52)).alloc (.cells zD 28)).alloc (.cells zD 28) = W3) := hW3
  have HC : Hid (∀ wr, Below W.heap.size W wr → ∀ o, Cn Q (wr.alloc o) (cnA p0 x.1.1.length x.1.2) x.1.1 x.1.2 ∧ Cn Q (wr.alloc o) (cnA p1 x.2.1.length x.2.2) x.2.1 x.2.2 ∧ ∀ j, Q j → j < (wr.alloc o).heap.size) := fun wr hb o => by
    have kp : ∀ j, Q j → (wr.alloc o).heap[j]? = W.heap[j]? := fun j hj => (heap_alloc_old _ _ (h := by have := hQ j hj; have := hb.size; omega)).trans (hb.block j (hQ j hj))
    exact ⟨hc0.keep kp (fun _ h => h), hc1.keep kp (fun _ h => h), fun j hj => by have := hQ j hj; have := hb.size; simp; omega⟩
  obtain ⟨n0, hn0⟩ : ∃ n, x.1.1.length = n := ⟨_, rfl⟩
  obtain ⟨n1, hn1⟩ : ∃ n, x.2.1.length = n := ⟨_, rfl⟩
  obtain ⟨s0, hs0⟩ : ∃ n, x.1.2 = n := ⟨_, rfl⟩
  obtain ⟨s1, hs1⟩ : ∃ n, x.2.2 = n := ⟨_, rfl⟩
  have HN : Hid (x.1.1.length = n0 ∧ x.2.1.length = n1 ∧ x.1.2 = s0 ∧ x.2.2 = s1) := ⟨hn0, hn1, hs0, hs1⟩
  rw [hn0, hn1, hs0, hs1] at HW HC ⊢
  clear hW3 z2 bW r1 r2 hc0 hc1 hn0 hn1 hs0 hs1
  unfold momA zD cnA at *
  go_enter Try.func31, Try.ntmps31
  go_wp2_with fail
  rw [HW.out]
  go_loopw [7] (fun iv wr => (iv = .int .i64 0 ∧ Hid (DkR W x 0 wr)) ∨ (iv = .int .i64 1 ∧ Hid (DkR W x 1 wr)) ∨ (iv = .int .i64 2 ∧ Hid (DkR W x 2 wr))) (fun iv _ => 2 - (intOf iv).toNat)
  case atStart => exact .inl ⟨rfl, HS⟩
  case round =>
    rcases hrel with ⟨rfl, HR⟩ | ⟨rfl, HR⟩ | ⟨rfl, HR⟩
    · obtain ⟨_, _, _, _, hb, _⟩ := HR.out
      have C : Hid _ := bytes_any Q _ x.1.1 s0 _ (HC.out wr hb (.cells #[.pointer p0, .int .i64 (n0 : Int), .int .i64 (s0 : Int)] 50)).1 (HC.out wr hb _).2.2
      clear hb
      have hx0 := fun w => ix_M0 w p0 p1 n0 s0 n1 s1
      have hx1 := fun w => ix_M1 w p0 p1 n0 s0 n1 s1
      go_wp2_with fail
      refine Calls.mono C.out ?_
      rintro e X ⟨g, rfl, hg, hg2, hb⟩
      obtain ⟨⟨v, q1⟩, q2, q3⟩ := HR.out.step0 _ g hb hg hg2
      rw [HN.out.1] at q3 ⊢
      have HR2 : Hid _ := q3
      clear q3 hg hg2 hb C
      go_wp2_with fail
      go_roundw
      case rel => exact .inr (.inl ⟨by go_num, HR2⟩)
      case measure => simp [intOf]
    · obtain ⟨_, _, _, _, hb, _⟩ := HR.out
      have C : Hid _ := bytes_any Q _ x.2.1 s1 _ (HC.out wr hb (.cells #[.pointer p1, .int .i64 (n1 : Int), .int .i64 (s1 : Int)] 50)).2.1 (HC.out wr hb _).2.2
      clear hb
      have hx0 := fun w => ix_M0 w p0 p1 n0 s0 n1 s1
      have hx1 := fun w => ix_M1 w p0 p1 n0 s0 n1 s1
      go_wp2_with fail
      refine Calls.mono C.out ?_
      rintro e X ⟨g, rfl, hg, hg2, hb⟩
      obtain ⟨⟨v, q1⟩, q2, q3⟩ := HR.out.step1 _ g hb hg hg2
      rw [HN.out.2.1] at q3 ⊢
      have HR2 : Hid _ := q3
      clear q3 hg hg2 hb C
      go_wp2_with fail
      go_roundw
      case rel => exact .inr (.inr ⟨by go_num, HR2⟩)
      case measure => simp [intOf]
    · obtain ⟨v0, v1, h1, h2, h3, h4⟩ := HR.out
      obtain ⟨g0, rfl, q1, q2, q3⟩ := h4 (by omega)
      obtain ⟨g1, rfl, q4, q5⟩ := q3 (by omega)
      have ld := ld_Drow wr _ _ rfl h1
      have st := st_D wr (W.heap.size + 1) zD (dkA g0 x.1.1.length g1 x.2.1.length) rfl rfl (by simp [dkA, Value.oneCell']) h2
      have HF : Hid ((wr.setRow (W.heap.size + 1) (dkA g0 x.1.1.length g1 x.2.1.length)).heap[W.heap.size + 1]? = some (.cells (dkA g0 x.1.1.length g1 x.2.1.length) 28 (0, 0)) ∧ DkP W x (dkA g0 x.1.1.length g1 x.2.1.length) (wr.setRow (W.heap.size + 1) (dkA g0 x.1.1.length g1 x.2.1.length))) := by
        refine ⟨setRow_heap _ _ _ _ _ _ h2, g0, g1, rfl, (setRow_other _ _ _ _ (by omega)).trans q2, (setRow_other _ _ _ _ (by omega)).trans q5, by omega, by omega, by omega, below_setRow h3 (by omega) _⟩
      clear h1 h2 h3 h4 q1 q2 q3 q4 q5 HR HS HC
      unfold dkA at HF st
      go_wp2_with fail
      refine bodyPost_ret (results_D rfl _ _ (W.heap.size + 1) _ rfl rfl HF.out.1) rfl ?_
      exact ⟨_, rfl, HF.out.2⟩
end
end Go.Proofs.Ytdiflmckjpmngaa
