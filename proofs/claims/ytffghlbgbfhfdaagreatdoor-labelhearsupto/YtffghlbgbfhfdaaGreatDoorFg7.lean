/- Say. -/
import Derived.Test.YtffghlbgbfhfdaaGreatDoorFgS
import Derived.Test.YtffghlbgbfhfdaaGreatDoorHex
namespace Go.Proofs.YtffghlbgbfhfdaaGreatDoor
open Go.RowKit Go.Shelf Go.Sort
def c8 : ByteArray := ⟨#[58, 115, 104, 97, 50, 53, 54, 58]⟩
def c14 : ByteArray := ⟨#[58, 47, 103, 114, 97, 102, 116, 47, 115, 116, 111, 114, 101, 58]⟩
def sayT (f : Fg) : ByteArray := headT f ++ c8 ++ str (hexL f.sm) ++ c14 ++ f.nm
/-- A finger that lies in a block of its own; the tables. -/
structure Fs2 (f : Fg) (w W : World) : Prop where
  st : Fsq f w W
  tx : Tx W
theorem Fs2.below {f : Fg} {w W W' : World} (h : Fs2 f w W) (b : Below W.heap.size W W') : Fs2 f w W' := ⟨h.st.below b, h.tx.below b h.tx.sz⟩
theorem Fs2.drew {f : Fg} {w W : World} (h : Fs2 f w W) : Fs2 f w W.drew := h.below (W' := W.drew) ⟨rfl, rfl, rfl, Nat.le_refl _, fun _ _ => rfl⟩
theorem Fs2.byl {f : Fg} {w W : World} (h : Fs2 f w W) : Byl (.slice (some ⟨w.heap.size, 5, none⟩) 32 32) f.sm W := by
  have : Byl (.slice (some ⟨w.heap.size, 5, none⟩) f.sm.length 32) f.sm W := .inr ⟨w.heap.size, 5, 32, rfl, by rw [f.hl]; omega, by unfold maxLen; omega, (Array.getElem?_eq_some_iff.1 h.st.row).1, fun j hj => by rw [cell_of_row _ _ _ _ _ _ h.st.row, fing_sum f j hj]⟩
  rw [f.hl] at this
  exact this
theorem fs2_new (f : Fg) (w : World) (hk : Tk w) (hx : Tx w) (hv : Ls f.v f.L w) : Fs2 f w (w.alloc (.cells (fing f) 26)) :=
  ⟨fst_new f w hk hv, hx.below (fst_new f w hk hv).bel hx.sz⟩
def sayV (f : Fg) : Value := if chkV f = 0 then two (sayT f) 0 else two ⟨#[]⟩ (chkV f)
theorem refsT_size : ∀ M : List Lb, (∀ x ∈ M, x.s.size ≤ 211) → (refsT M).size ≤ 258 * M.length
  | [], _ => Nat.zero_le _
  | x :: r, h => by
    have h1 := h x (by simp)
    have h2 := refsT_size r (fun y hy => h y (by simp [hy]))
    rw [refsT, app_size, refT_size, List.length_cons]
    omega
theorem head_size {f : Fg} (ok : Ok f) : (headT f).size ≤ 70000 := by
  obtain ⟨h1, h2⟩ := dd_ok ok
  have h3 := refsT_size (dd (srt f.L)) (fun x hx => (h2 x hx).2.1)
  unfold headT tlT
  rw [app_size, app_size, app_size]
  have a1 : (kwV f.k).size ≤ 6 := by unfold kwV; split; decide; split; decide; split <;> decide
  have a2 : (if f.self = true then selfT else ⟨#[]⟩ : ByteArray).size ≤ 5 := by split <;> decide
  have a3 : (if f.k = 3 then colw ++ f.out else if f.k = 4 then colw ++ itoaT f.ix.toNat else ⟨#[]⟩ : ByteArray).size ≤ 300 := by
    split
    · rename_i h
      have := okN_size _ (ok.out h)
      rw [app_size]
      show 1 + f.out.size ≤ 300
      omega
    · split
      · have := itoaT_size f.ix.toNat (by have := ok.i6; have := ok.i0; omega)
        rw [app_size]
        show 1 + (itoaT f.ix.toNat).size ≤ 300
        omega
      · decide
  omega
attribute [local go_sem ↓] toFl
set_option maxRecDepth 100000 in
set_option maxHeartbeats 1000000 in
theorem say_any (f : Fg) (w : World) (hk : Tk w) (hx : Tx w) (hv0 : Ls f.v f.L w) :
    Calls Tryz.prog 8 #[.agg (fing f)] w fun e w' => e = .returned (sayV f) ∧ Below w.heap.size w w' := by
  obtain ⟨W0, hW0⟩ : ∃ W0, w.alloc (.cells (fing f) 26) = W0 := ⟨_, rfl⟩
  have F0 : Fs2 f w W0 := by rw [← hW0]; exact fs2_new f w hk hx hv0
  have ld := run_ldF W0 w.heap.size f F0.st.row
  obtain ⟨E, hE⟩ : ∃ E, E = chkV f := ⟨_, rfl⟩
  have C0 : Hid (Calls Tryz.prog 15 #[.agg (fing f)] W0 fun e w' => e = .returned (.int .i64 (E : Int)) ∧ Below W0.heap.size W0 w') := by rw [hE]; exact chk_any f W0 F0.st.tk F0.st.ls
  have HF0 : Hid (Fs2 f w W0) := F0
  have HE : Hid (E = chkV f) := hE
  have HW0 : Hid (w.alloc (.cells (fing f) 26) = W0) := hW0
  rw [← hW0] at ld
  clear hE hW0 F0 hk hx hv0
  go_enter Tryz.func8, Tryz.ntmps8
  go_wp2_with fail
  rw [HW0.out]
  refine Calls.mono C0.out ?_
  rintro e W1 ⟨rfl, b1⟩
  clear C0 ld
  have HF1 : Hid (Fs2 f w W1) := HF0.out.below b1
  clear b1
  by_cases h0 : E = 0
  · have hv : Hid (sayV f = two (sayT f) 0) := by show _ = _; unfold sayV; rw [if_pos (by rw [← HE.out]; exact h0)]
    have ok : Ok f := ok_of (by rw [← HE.out]; exact h0)
    have hns : f.nm.size ≤ 211 := okN_size f.nm ok.nm
    have hhs := head_size ok
    subst h0
    have hX : (str (hexL f.sm)).size = 64 := by rw [str_size, hexL_len]; have := f.hl; omega
    obtain ⟨A0, hA0⟩ : ∃ A, A = headT f := ⟨_, rfl⟩
    obtain ⟨A1, hA1⟩ : ∃ A, A0 ++ c8 = A := ⟨_, rfl⟩
    obtain ⟨A2, hA2⟩ : ∃ A, A1 ++ str (hexL f.sm) = A := ⟨_, rfl⟩
    obtain ⟨A3, hA3⟩ : ∃ A, A2 ++ c14 = A := ⟨_, rfl⟩
    obtain ⟨A4, hA4⟩ : ∃ A, A3 ++ f.nm = A := ⟨_, rfl⟩
    have z0 : A0.size ≤ 70000 := by rw [hA0]; exact hhs
    have z1 : A1.size = A0.size + 8 := by rw [← hA1, app_size]; rfl
    have z2 : A2.size = A1.size + 64 := by rw [← hA2, app_size, hX]
    have z3 : A3.size = A2.size + 14 := by rw [← hA3, app_size]; rfl
    have HA : Hid (sayT f = A4) := by show _ = _; unfold sayT; rw [← hA0, hA1, hA2, hA3, hA4]
    have c18 : ∀ W, Fs2 f w W → Calls Tryz.prog 16 #[.agg (fing f)] W fun e w' => e = .returned (.string A0) ∧ Fs2 f w w' := fun W h => by
      rw [hA0]
      exact (head_any f ok W h.st.tk h.tx h.st.ls).mono fun e w' ⟨a, b⟩ => ⟨a, h.below b⟩
    have c19 : ∀ W, Fs2 f w W → Calls Tryz.prog 17 #[.slice (some ⟨w.heap.size, 5, none⟩) 32 32] W fun e w' => e = .returned (.string (str (hexL f.sm))) ∧ Fs2 f w w' := fun W h =>
      (hexC_any f.sm f.hb (by rw [f.hl]; omega) _ W h.byl h.tx).mono fun e w' ⟨a, b⟩ => ⟨a, h.below b⟩
    have rl : ∀ W, Fs2 f w W → (Instr.loadAt 26 (.pointer (some ⟨w.heap.size, 0, none⟩))).run Tryz.prog W = .ok (.agg (fing f)) W := fun W h => run_ldF W w.heap.size f h.st.row
    have rn : ∀ W, Fs2 f w W → (Instr.loadAt 9 (.pointer (some ⟨w.heap.size, 37, none⟩))).run Tryz.prog W = .ok (.string f.nm) W := fun W h => by
      have := (fing_cells h.st.row).2.2.2.2.2
      simp [go_sem, this]
    go_wp2_with fail
    refine wp_region_vals (ops := reg4) (V := V4 w.heap.size f f.nm A0 (str (hexL f.sm)) A1 A2 A3 A4) (S := fun _ => Fs2 f w) (by kernel_rfl) (fun i o ho => (okR_at okR4 ho).1) (fun i j o oj d ho hj q1 q2 => (okR_at okR4 ho).2.2 j oj d hj q1 q2) (fun i o d ho q => (okR_at okR4 ho).2.1 d q)
      (step4 _ w.heap.size f f.nm A0 (str (hexL f.sm)) A1 A2 A3 A4 _ _ rfl (fun _ _ _ _ h => h) (fun _ W h _ _ _ => c18 W h) (fun _ W h _ _ _ => c19 W h) (fun _ W h _ _ _ => ⟨W, rl W h, h⟩) (fun _ W h _ _ _ => ⟨W, rn W h, h⟩) hA1 hA2 hA3 hA4 (by omega) (by omega) (by omega) (by omega)) HF1.out.drew (fun wE hE => ?_)
    rw [put4]
    dsimp only [V4]
    have HB : Hid (Below w.heap.size w wE) := hE.st.bel
    clear hE c18 c19 rl rn hA0 hA1 hA2 hA3 hA4
    go_wp2
    go_ret2
    exact ⟨by rw [hv.out, HA.out]; rfl, HB.out⟩
  · have hv : Hid (sayV f = two ⟨#[]⟩ E) := by show _ = _; unfold sayV; rw [if_neg (by rw [← HE.out]; exact h0), HE.out]
    have h0' : ¬ ((E : Int) = 0) := by omega
    have HB : Hid (Below w.heap.size w W1) := HF1.out.st.bel
    go_wp2
    go_ret2
    exact ⟨by rw [hv.out]; rfl, HB.out⟩
end Go.Proofs.YtffghlbgbfhfdaaGreatDoor
