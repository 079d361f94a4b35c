/- A depot's own card printed: the code's and the document's. -/
import Derived.Test.YtgimkeklnpppjaaDoorCdO
import Derived.Test.YtgimkeklnpppjaaDoorCdV
namespace Go.Proofs.YtgimkeklnpppjaaDoor
open Go.RowKit Go.Shelf
def decS (n : Nat) : ByteArray := ⟨(Lib.decDigits n).toArray⟩
theorem decS_size (n : Nat) (h : n ≤ 1000000) : (decS n).size ≤ 7 := by
  have : (decS n).size = (Lib.decDigits n).length := by simp [decS, ByteArray.size]
  rw [this]
  exact dec_len 6 n (by omega)
def msS (m : Bool) : ByteArray := if m then ⟨#[49]⟩ else ⟨#[48]⟩
/-- The text. -/
def psT (st : ByteArray) (m : Bool) (n : Nat) : ByteArray := lineT 12 st ++ lineT 13 (msS m) ++ lineT 14 (decS n)
theorem lineT_size (f : Nat) (v : ByteArray) : (lineT f v).size = (hdS f).size + v.size + 1 := by
  unfold lineT
  rw [ByteArray.size_append, ByteArray.size_append]
  rfl
/-- Where printSign stands. -/
structure Pst (S : Sen) (st : ByteArray) (m : Bool) (pr : Int) (w W : World) : Prop where
  bel : Below w.heap.size w W
  row : W.heap[w.heap.size]? = some (.cells (sgA st m pr) 23 (0, 0))
  wd : Wd S w
theorem Pst.below {S : Sen} {st : ByteArray} {m : Bool} {pr : Int} {w W W' : World} (h : Pst S st m pr w W) (b : Below W.heap.size W W') : Pst S st m pr w W' :=
  ⟨h.bel.trans (b.mono h.bel.size), (b.block _ (Array.getElem?_eq_some_iff.1 h.row).1).trans h.row, h.wd⟩
set_option maxRecDepth 100000 in
set_option maxHeartbeats 3200000 in
theorem printSign_any (st : ByteArray) (hst : st.size ≤ 100) (m : Bool) (n : Nat) (hn : n ≤ 1000000) (S : Sen) (w : World) (hw : Wd S w) :
    Calls Tryd.prog 8 #[.agg (sgA st m (n : Int))] w fun e w' => e = .returned (.string (psT st m n)) ∧ Below w.heap.size w w' := by
  obtain ⟨W0, hW0⟩ : ∃ W0, w.alloc (.cells (sgA st m (n : Int)) 23) = W0 := ⟨_, rfl⟩
  have b0 : Below w.heap.size w W0 := by rw [← hW0]; exact (Below.refl _ w).alloc (Nat.le_refl _) _
  have r0 : W0.heap[w.heap.size]? = some (.cells (sgA st m (n : Int)) 23 (0, 0)) := by rw [← hW0]; exact heap_alloc_new _ _
  have HP : Hid (Pst S st m (n : Int) w W0) := ⟨b0, r0, hw⟩
  obtain ⟨-, q1, -⟩ := sgA_cells r0
  have q1' : (w.alloc (.cells (sgA st m (n : Int)) 23)).cell? ⟨w.heap.size, 1, none⟩ = some (.bool m) := by rw [hW0]; exact q1
  obtain ⟨A0, hA0⟩ : ∃ A, A = lineT 12 st := ⟨_, rfl⟩
  obtain ⟨A1, hA1⟩ : ∃ A, A = lineT 13 (msS m) := ⟨_, rfl⟩
  obtain ⟨A3, hA3⟩ : ∃ A, A = lineT 14 (decS n) := ⟨_, rfl⟩
  obtain ⟨A2, hA2⟩ : ∃ A, A0 ++ A1 = A := ⟨_, rfl⟩
  obtain ⟨A4, hA4⟩ : ∃ A, A2 ++ A3 = A := ⟨_, rfl⟩
  obtain ⟨N, hN⟩ : ∃ N, N = decS n := ⟨_, rfl⟩
  obtain ⟨ms, hms⟩ : ∃ ms, ms = msS m := ⟨_, rfl⟩
  have hmz : ms.size = 1 := by rw [hms]; unfold msS; split <;> rfl
  have hNz : N.size ≤ 7 := by rw [hN]; exact decS_size n hn
  have z0 : A0.size ≤ 200 := by rw [hA0, lineT_size]; have := (hdS_size 12).1; omega
  have z1 : A1.size ≤ 200 := by rw [hA1, lineT_size, ← hms, hmz]; have := (hdS_size 13).1; omega
  have z3 : A3.size ≤ 200 := by rw [hA3, lineT_size, ← hN]; have := (hdS_size 14).1; omega
  have z2 : A2.size = A0.size + A1.size := by rw [← hA2, ByteArray.size_append]
  have HT : Hid (psT st m n = A4) := by show _ = _; unfold psT; rw [← hA0, ← hA1, ← hA3, hA2, hA4]
  have c2 : ∀ W, Pst S st m (n : Int) w W → Calls Tryd.prog 15 #[.int .i64 12, .string st] W fun e w' => e = .returned (.string A0) ∧ Pst S st m (n : Int) w w' := fun W h => by
    refine Calls.mono (printLine_any 12 (by omega) (by omega) st (by omega) S W (h.wd.below h.bel)) ?_
    rintro e w' ⟨rfl, rfl⟩
    exact ⟨by rw [hA0], h⟩
  have c4 : ∀ W, Pst S st m (n : Int) w W → Calls Tryd.prog 15 #[.int .i64 13, .string ms] W fun e w' => e = .returned (.string A1) ∧ Pst S st m (n : Int) w w' := fun W h => by
    refine Calls.mono (printLine_any 13 (by omega) (by omega) ms (by omega) S W (h.wd.below h.bel)) ?_
    rintro e w' ⟨rfl, rfl⟩
    exact ⟨by rw [hA1, hms], h⟩
  have c9 : ∀ W, Pst S st m (n : Int) w W → Calls Tryd.prog 15 #[.int .i64 14, .string N] W fun e w' => e = .returned (.string A3) ∧ Pst S st m (n : Int) w w' := fun W h => by
    refine Calls.mono (printLine_any 14 (by omega) (by omega) N (by omega) S W (h.wd.below h.bel)) ?_
    rintro e w' ⟨rfl, rfl⟩
    exact ⟨by rw [hA3, hN], h⟩
  have c8 : ∀ W, Pst S st m (n : Int) w W → Calls Tryd.prog 16 #[.int .i64 (n : Int)] W fun e w' => e = .returned (.string N) ∧ Pst S st m (n : Int) w w' := fun W h => by
    refine Calls.mono (itoa_any n hn S W (h.wd.below h.bel)) ?_
    rintro e w' ⟨rfl, b⟩
    exact ⟨by rw [hN]; rfl, h.below b⟩
  have l1 : ∀ W, Pst S st m (n : Int) w W → (Instr.loadAt 9 (.pointer (some ⟨w.heap.size, 0, none⟩))).run Tryd.prog W = .ok (.string st) W := fun W h => by
    have := (sgA_cells h.row).1
    simp [this, go_sem]
  have l7 : ∀ W, Pst S st m (n : Int) w W → (Instr.loadAt 3 (.pointer (some ⟨w.heap.size, 2, none⟩))).run Tryd.prog W = .ok (.int .i64 (n : Int)) W := fun W h => by
    have := (sgA_cells h.row).2.2
    simp [this, go_sem]
  have HC : Hid _ := c2
  have HC4 : Hid _ := c4
  have HC8 : Hid _ := c8
  have HC9 : Hid _ := c9
  have HL1 : Hid _ := l1
  have HL7 : Hid _ := l7
  have HZ : Hid (A0.size ≤ 200 ∧ A1.size ≤ 200 ∧ A3.size ≤ 200 ∧ A2.size = A0.size + A1.size ∧ A0 ++ A1 = A2 ∧ A2 ++ A3 = A4) := ⟨z0, z1, z3, z2, hA2, hA4⟩
  have HW0 : Hid _ := hW0
  have HM : Hid (ms = msS m) := hms
  clear c2 c4 c8 c9 l1 l7 z0 z1 z2 z3 hA0 hA1 hA2 hA3 hA4 hN hms hmz hNz hW0 b0 r0 q1 hn hst hw
  unfold sgA at q1' HW0 ⊢
  cases m with
  | false =>
    obtain rfl : ms = ⟨#[48]⟩ := HM.out
    go_enter Tryd.func8, Tryd.ntmps8
    go_wp2_with fail
    rw [HW0.out]
    refine wp_region_vals (ops := reg4) (V := V4 w.heap.size st ⟨#[48]⟩ (n : Int) N A0 A1 A2 A3 A4) (S := fun _ => Pst S st false (n : Int) w) (by kernel_rfl) (fun i o ho => (okR_at okR4 ho).1) (fun i j o oj d ho hj q1 q2 => (okR_at okR4 ho).2.2 j oj d hj q1 q2) (fun i o d ho q => (okR_at okR4 ho).2.1 d q)
      (step4 _ w.heap.size st ⟨#[48]⟩ (n : Int) N A0 A1 A2 A3 A4 _ _ rfl rfl (fun _ _ _ _ h => h) (fun _ W h _ _ _ => HC.out W h) (fun _ W h _ _ _ => HC4.out W h) (fun _ W h _ _ _ => HC8.out W h) (fun _ W h _ _ _ => HC9.out W h) (fun _ W h _ _ _ => ⟨W, HL1.out W h, h⟩) (fun _ W h _ _ _ => ⟨W, HL7.out W h, h⟩) HZ.out.2.2.2.2.1 HZ.out.2.2.2.2.2 (by have := HZ.out; omega) (by have := HZ.out; omega)) ⟨HP.out.bel.drew, HP.out.row, HP.out.wd⟩ (fun wE hE => ?_)
    rw [put4]
    have HE : Hid (Below w.heap.size w wE) := hE.bel
    clear hE
    simp only [V4]
    go_wp2
    go_ret
    exact ⟨by rw [HT.out]; rfl, HE.out⟩
  | true =>
    obtain rfl : ms = ⟨#[49]⟩ := HM.out
    go_enter Tryd.func8, Tryd.ntmps8
    go_wp2_with fail
    rw [HW0.out]
    refine wp_region_vals (ops := reg4) (V := V4 w.heap.size st ⟨#[49]⟩ (n : Int) N A0 A1 A2 A3 A4) (S := fun _ => Pst S st true (n : Int) w) (by kernel_rfl) (fun i o ho => (okR_at okR4 ho).1) (fun i j o oj d ho hj q1 q2 => (okR_at okR4 ho).2.2 j oj d hj q1 q2) (fun i o d ho q => (okR_at okR4 ho).2.1 d q)
      (step4 _ w.heap.size st ⟨#[49]⟩ (n : Int) N A0 A1 A2 A3 A4 _ _ rfl rfl (fun _ _ _ _ h => h) (fun _ W h _ _ _ => HC.out W h) (fun _ W h _ _ _ => HC4.out W h) (fun _ W h _ _ _ => HC8.out W h) (fun _ W h _ _ _ => HC9.out W h) (fun _ W h _ _ _ => ⟨W, HL1.out W h, h⟩) (fun _ W h _ _ _ => ⟨W, HL7.out W h, h⟩) HZ.out.2.2.2.2.1 HZ.out.2.2.2.2.2 (by have := HZ.out; omega) (by have := HZ.out; omega)) ⟨HP.out.bel.drew, HP.out.row, HP.out.wd⟩ (fun wE hE => ?_)
    rw [put4]
    have HE : Hid (Below w.heap.size w wE) := hE.bel
    clear hE
    simp only [V4]
    go_wp2
    go_ret
    exact ⟨by rw [HT.out]; rfl, HE.out⟩
end Go.Proofs.YtgimkeklnpppjaaDoor
