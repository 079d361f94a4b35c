/- LabelOutputs: Say of an output's finger. -/
import Derived.Test.YtageaeebiopmbaaDoorLoS
import Derived.Test.YtageaeebiopmbaaDoorHex
namespace Go.Proofs.YtageaeebiopmbaaDoor
open Go.RowKit
def c8 : ByteArray := ⟨#[58, 115, 104, 97, 50, 53, 54, 58]⟩
def c14 : ByteArray := ⟨#[58, 47, 103, 114, 97, 102, 116, 47, 115, 116, 111, 114, 101, 58]⟩
def sayT (o n : ByteArray) (s : List Nat) : ByteArray := outw ++ (colw ++ o) ++ c8 ++ str (hexL s) ++ c14 ++ n
/-- What holds whatever was done. -/
structure Fst2 (o n : ByteArray) (s : List Nat) (w W : World) : Prop where
  bel : Below w.heap.size w W
  row : W.heap[w.heap.size]? = some (.cells (fing o n s) 39 (0, 0))
  tk : Tk W
  tx : Tx W
  sz : 4 < W.heap.size
theorem Fst2.below {o n : ByteArray} {s : List Nat} {w W W' : World} (h : Fst2 o n s w W) (b : Below W.heap.size W W') : Fst2 o n s w W' :=
  ⟨h.bel.trans (b.mono h.bel.size), (b.block _ (Array.getElem?_eq_some_iff.1 h.row).1).trans h.row, h.tk.below b (by have := h.sz; omega), h.tx.below b h.tx.sz, by have := h.sz; have := b.size; omega⟩
theorem Fst2.drew {o n : ByteArray} {s : List Nat} {w W : World} (h : Fst2 o n s w W) : Fst2 o n s w W.drew :=
  ⟨⟨h.bel.os, h.bel.tape, h.bel.output, h.bel.size, h.bel.block⟩, h.row, ⟨h.tk.c6, h.tk.c7⟩, h.tx.below (w' := W.drew) (B := W.heap.size) ⟨rfl, rfl, rfl, Nat.le_refl _, fun _ _ => rfl⟩ h.tx.sz, h.sz⟩
theorem Fst2.byl {o n : ByteArray} {s : List Nat} {w W : World} (h : Fst2 o n s w W) (hl : s.length = 32) : Byl (.slice (some ⟨w.heap.size, 5, none⟩) 32 32) s W := by
  have : Byl (.slice (some ⟨w.heap.size, 5, none⟩) s.length 32) s W := .inr ⟨w.heap.size, 5, 32, rfl, by omega, by unfold maxLen; omega, (Array.getElem?_eq_some_iff.1 h.row).1, fun j hj => by rw [cell_of_row _ _ _ _ _ _ h.row, fing_sum o n s j hj]⟩
  rw [hl] at this
  exact this
theorem fst2_new (o n : ByteArray) (s : List Nat) (w : World) (hk : Tk w) (hx : Tx w) (hsz : 4 < w.heap.size) : Fst2 o n s w (w.alloc (.cells (fing o n s) 39)) :=
  have bel : Below w.heap.size w (w.alloc (.cells (fing o n s) 39)) := (Below.refl _ w).alloc (Nat.le_refl _) _
  ⟨bel, heap_alloc_new w _, hk.below bel (by omega), hx.below bel hx.sz, by rw [heap_size_alloc]; omega⟩
def sayV (o n : ByteArray) (s : List Nat) : Value := if okN n = 0 then two (sayT o n s) 0 else two ⟨#[]⟩ (okN n)
attribute [local go_sem ↓] to39l
set_option maxRecDepth 100000 in
set_option maxHeartbeats 1000000 in
theorem say_any (o n : ByteArray) (ho : okN o = 0) (s : List Nat) (hl : s.length = 32) (hb : Byt s) (w : World) (hk : Tk w) (hx : Tx w) (hsz : 4 < w.heap.size) :
    Calls Tryd.prog 12 #[.agg (fing o n s)] w fun e w' => e = .returned (sayV o n s) ∧ Below w.heap.size w w' := by
  obtain ⟨W0, hW0⟩ : ∃ W0, w.alloc (.cells (fing o n s) 39) = W0 := ⟨_, rfl⟩
  have F0 : Fst2 o n s w W0 := by rw [← hW0]; exact fst2_new o n s w hk hx hsz
  have ld := run_ld39 W0 w.heap.size o n s hl F0.row
  obtain ⟨E, hE⟩ : ∃ E, E = okN n := ⟨_, rfl⟩
  have C0 : Hid (Calls Tryd.prog 17 #[.agg (fing o n s)] W0 fun e w' => e = .returned (.int .i64 (E : Int)) ∧ Below W0.heap.size W0 w') := by rw [hE]; exact chk_any o n ho s hl W0 F0.tk F0.sz
  have HF0 : Hid (Fst2 o n s w W0) := F0
  have HE : Hid (E = okN n) := hE
  have HW0 : Hid (w.alloc (.cells (fing o n s) 39) = W0) := hW0
  have HO : Hid (okN o = 0) := ho
  rw [← hW0] at ld
  clear hE hW0 F0 hk hx hsz ho
  go_enter Tryd.func12, Tryd.ntmps12
  go_wp2_with fail
  rw [HW0.out]
  refine Calls.mono C0.out ?_
  rintro e W1 ⟨rfl, b1⟩
  clear C0 ld
  have HF1 : Hid (Fst2 o n s w W1) := HF0.out.below b1
  clear b1
  by_cases h0 : E = 0
  · have hv : Hid (sayV o n s = two (sayT o n s) 0) := by show _ = _; unfold sayV; rw [if_pos (by rw [← HE.out]; exact h0)]
    have hns : n.size ≤ 211 := okN_size n (by rw [← HE.out]; exact h0)
    have hos : o.size ≤ 211 := okN_size o HO.out
    subst h0
    have hX : (str (hexL s)).size = 64 := by rw [str_size, hexL_len]; omega
    obtain ⟨A0, hA0⟩ : ∃ A, A = outw ++ (colw ++ o) := ⟨_, rfl⟩
    obtain ⟨A1, hA1⟩ : ∃ A, A0 ++ c8 = A := ⟨_, rfl⟩
    obtain ⟨A2, hA2⟩ : ∃ A, A1 ++ str (hexL s) = A := ⟨_, rfl⟩
    obtain ⟨A3, hA3⟩ : ∃ A, A2 ++ c14 = A := ⟨_, rfl⟩
    obtain ⟨A4, hA4⟩ : ∃ A, A3 ++ n = A := ⟨_, rfl⟩
    have z0 : A0.size = 7 + o.size := by rw [hA0, app_size, app_size]; show 6 + (1 + o.size) = _; omega
    have z1 : A1.size = A0.size + 8 := by rw [← hA1, app_size]; rfl
    have z2 : A2.size = A1.size + 64 := by rw [← hA2, app_size, hX]
    have z3 : A3.size = A2.size + 14 := by rw [← hA3, app_size]; rfl
    have HA : Hid (sayT o n s = A4) := by show _ = _; unfold sayT; rw [← hA0, hA1, hA2, hA3, hA4]
    have c18 : ∀ W, Fst2 o n s w W → Calls Tryd.prog 18 #[.agg (fing o n s)] W fun e w' => e = .returned (.string A0) ∧ Fst2 o n s w w' := fun W h => by
      rw [hA0]
      exact (head_any o n (by omega) s W h.tk h.sz).mono fun e w' ⟨a, b⟩ => ⟨a, h.below b⟩
    have c19 : ∀ W, Fst2 o n s w W → Calls Tryd.prog 19 #[.slice (some ⟨w.heap.size, 5, none⟩) 32 32] W fun e w' => e = .returned (.string (str (hexL s))) ∧ Fst2 o n s w w' := fun W h =>
      (hexC_any s hb (by omega) _ W (h.byl hl) h.tx).mono fun e w' ⟨a, b⟩ => ⟨a, h.below b⟩
    have rl : ∀ W, Fst2 o n s w W → (Instr.loadAt 39 (.pointer (some ⟨w.heap.size, 0, none⟩))).run Tryd.prog W = .ok (.agg (fing o n s)) W := fun W h => run_ld39 W w.heap.size o n s hl h.row
    have rn : ∀ W, Fst2 o n s w W → (Instr.loadAt 9 (.pointer (some ⟨w.heap.size, 37, none⟩))).run Tryd.prog W = .ok (.string n) W := fun W h => by
      have := (fing_cells o n s hl _ W h.row).2.2.2.2
      simp [go_sem, this]
    go_wp2_with fail
    refine wp_region_vals (ops := reg4) (V := V4 w.heap.size o n A0 (str (hexL s)) A1 A2 A3 A4 s) (S := fun _ => Fst2 o n s w) (by kernel_rfl) (fun i o ho => (okR_at okR4 ho).1) (fun i j o oj d ho hj q1 q2 => (okR_at okR4 ho).2.2 j oj d hj q1 q2) (fun i o d ho q => (okR_at okR4 ho).2.1 d q)
      (step4 _ w.heap.size o n A0 (str (hexL s)) A1 A2 A3 A4 s _ _ rfl (fun _ _ _ _ h => h) (fun _ W h _ _ _ => c18 W h) (fun _ W h _ _ _ => c19 W h) (fun _ W h _ _ _ => ⟨W, rl W h, h⟩) (fun _ W h _ _ _ => ⟨W, rn W h, h⟩) hA1 hA2 hA3 hA4 (by omega) (by omega) (by omega) (by omega)) HF1.out.drew (fun wE hE => ?_)
    rw [put4]
    dsimp only [V4]
    have HB : Hid (Below w.heap.size w wE) := hE.bel
    clear hE c18 c19 rl rn hA0 hA1 hA2 hA3 hA4
    go_wp2
    go_ret2
    exact ⟨by rw [hv.out, HA.out]; rfl, HB.out⟩
  · have hv : Hid (sayV o n s = two ⟨#[]⟩ E) := by show _ = _; unfold sayV; rw [if_neg (by rw [← HE.out]; exact h0), HE.out]
    have h0' : ¬ ((E : Int) = 0) := by omega
    have HB : Hid (Below w.heap.size w W1) := HF1.out.bel
    go_wp2
    go_ret2
    exact ⟨by rw [hv.out]; rfl, HB.out⟩
end Go.Proofs.YtageaeebiopmbaaDoor
