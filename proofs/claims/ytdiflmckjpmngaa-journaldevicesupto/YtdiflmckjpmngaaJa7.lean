/- JournalDevices: the law's diskOf. -/
import Derived.Test.YtdiflmckjpmngaaJa4
import Derived.Test.YtdiflmckjpmngaaJvH
import Derived.Test.YtdiflmckjpmngaaJvW
namespace Go.Proofs.Ytdiflmckjpmngaa
open Go.RowKit
def rw8 (l : List Nat) : Obj := .cells (bs l).toArray 5 (0, 0)
/-- diskOf's worlds in its drawn region. -/
structure RgD (A : World) (r : Nat) (l0 l1 : List Nat) (R : World → Prop) (l : Array Bool) (Y : World) : Prop where
  rows : ∀ j, j < A.heap.size → j ≠ r → Y.heap[j]? = A.heap[j]?
  o7 : l.getD 7 true = true → l.getD 3 true = true
  o10 : l.getD 10 true = true → l.getD 7 true = true
  p0 : l.getD 3 true = false → Below A.heap.size A Y ∧ Y.heap.size = A.heap.size
  p1 : l.getD 3 true = true → l.getD 7 true = false → Below A.heap.size A Y ∧ Y.heap.size = A.heap.size + 1 ∧ Y.heap[A.heap.size]? = some (rw8 l0)
  p2 : l.getD 7 true = true → l.getD 10 true = false → Below A.heap.size A Y ∧ Y.heap.size = A.heap.size + 2 ∧ Y.heap[A.heap.size]? = some (rw8 l0) ∧ Y.heap[A.heap.size + 1]? = some (rw8 l1)
  p3 : l.getD 10 true = true → R Y
theorem RgD.mv {A Y : World} {r : Nat} {l0 l1 : List Nat} {R : World → Prop} {l : Array Bool} (h : RgD A r l0 l1 R l Y) (i : Nat) (hi : (decide (i < 11) && decide (i ≠ 3) && decide (i ≠ 7) && decide (i ≠ 10)) = true) : RgD A r l0 l1 R (l.setIfInBounds i true) Y := by
  simp only [Bool.and_eq_true, decide_eq_true_eq] at hi
  have e3 := gd_ne l i 3 hi.1.1.2
  have e7 := gd_ne l i 7 hi.1.2
  have e10 := gd_ne l i 10 hi.2
  exact ⟨h.rows, by rw [e7, e3]; exact h.o7, by rw [e10, e7]; exact h.o10, by rw [e3]; exact h.p0, by rw [e3, e7]; exact h.p1, by rw [e7, e10]; exact h.p2, by rw [e10]; exact h.p3⟩
theorem ft {b : Bool} (h : b = false) (h2 : b = true) {P : Prop} : P := by rw [h] at h2; cases h2
theorem RgD.c3 {A Y Z : World} {r : Nat} {l0 l1 : List Nat} {R : World → Prop} {l : Array Bool} (h : RgD A r l0 l1 R l Y) (hu : l.getD 3 true = false) (hZ : Below A.heap.size A Z ∧ Z.heap.size = A.heap.size + 1 ∧ Z.heap[A.heap.size]? = some (rw8 l0)) : RgD A r l0 l1 R (l.setIfInBounds 3 true) Z := by
  have e3 : (l.setIfInBounds 3 true).getD 3 true = true := gd_eq l 3
  have e7 := gd_ne l 3 7 (by omega)
  have e10 := gd_ne l 3 10 (by omega)
  have n7 : ¬ l.getD 7 true = true := fun q => ft hu (h.o7 q)
  have n10 : ¬ l.getD 10 true = true := fun q => n7 (h.o10 q)
  exact ⟨fun j hj _ => hZ.1.block j hj, fun _ => e3, by rw [e10]; exact fun q => absurd q n10, fun q => ft q e3, fun _ _ => hZ, by rw [e7]; exact fun q => absurd q n7, by rw [e10]; exact fun q => absurd q n10⟩
theorem RgD.c7 {A Y Z : World} {r : Nat} {l0 l1 : List Nat} {R : World → Prop} {l : Array Bool} (h : RgD A r l0 l1 R l Y) (h3 : l.getD 3 true = true) (hu : l.getD 7 true = false) (hZ : Below A.heap.size A Z ∧ Z.heap.size = A.heap.size + 2 ∧ Z.heap[A.heap.size]? = some (rw8 l0) ∧ Z.heap[A.heap.size + 1]? = some (rw8 l1)) : RgD A r l0 l1 R (l.setIfInBounds 7 true) Z := by
  have e3 := gd_ne l 7 3 (by omega)
  have e7 : (l.setIfInBounds 7 true).getD 7 true = true := gd_eq l 7
  have e10 := gd_ne l 7 10 (by omega)
  have n10 : ¬ l.getD 10 true = true := fun q => ft hu (h.o10 q)
  exact ⟨fun j hj _ => hZ.1.block j hj, by rw [e3]; exact fun _ => h3, fun _ => e7, by rw [e3]; exact fun q => ft q h3, fun _ q => ft q e7, fun _ _ => hZ, by rw [e10]; exact fun q => absurd q n10⟩
theorem RgD.c10 {A Y Z : World} {r : Nat} {l0 l1 : List Nat} {R : World → Prop} {l : Array Bool} (h : RgD A r l0 l1 R l Y) (h7 : l.getD 7 true = true) (hr : ∀ j, j < A.heap.size → j ≠ r → Z.heap[j]? = Y.heap[j]?) (hZ : R Z) : RgD A r l0 l1 R (l.setIfInBounds 10 true) Z := by
  have h3 := h.o7 h7
  have e3 := gd_ne l 10 3 (by omega)
  have e7 := gd_ne l 10 7 (by omega)
  have e10 : (l.setIfInBounds 10 true).getD 10 true = true := gd_eq l 10
  exact ⟨fun j hj hn => (hr j hj hn).trans (h.rows j hj hn), by rw [e3]; exact fun _ => h3, by rw [e7]; exact fun _ => h7, by rw [e3]; exact fun q => ft q h3, by rw [e7]; exact fun _ q => ft q h7, fun _ q => ft q e10, fun _ => hZ⟩
theorem RgD.start (A : World) (r : Nat) (l0 l1 : List Nat) (R : World → Prop) {Y : World} (hb : Below A.heap.size A Y) (hs : Y.heap.size = A.heap.size) : RgD A r l0 l1 R (Array.replicate regD.size false) Y := by
  have e : regD.size = 11 := by kernel_rfl
  rw [e]
  have a : ∀ k, k < 11 → (Array.replicate 11 false).getD k true = false := fun k hk => by
    rw [agetD _ _ _ (by simpa using hk)]
    simp
  exact ⟨fun j hj _ => hb.block j hj, fun q => ft (a 7 (by omega)) q, fun q => ft (a 10 (by omega)) q, fun _ => ⟨hb, hs⟩, fun q => ft (a 3 (by omega)) q, fun q => ft (a 7 (by omega)) q, fun q => ft (a 10 (by omega)) q⟩
theorem RgD.done {A Y : World} {r : Nat} {l0 l1 : List Nat} {R : World → Prop} (h : RgD A r l0 l1 R (Array.replicate regD.size true) Y) : R Y := by
  have e : regD.size = 11 := by kernel_rfl
  refine h.p3 ?_
  rw [e]
  rfl
/-- What diskOf answers. -/
def DoR (W : World) (l0 l1 : List Nat) (w' : World) : Prop := Below W.heap.size W w' ∧ w'.heap.size = W.heap.size + 4 ∧ w'.heap[W.heap.size + 2]? = some (rw8 l0) ∧ w'.heap[W.heap.size + 3]? = some (rw8 l1)
theorem ld25 (w : World) {g o : Nat} {oa : Option Addr} {n c : Nat} (h : w.cell? ⟨g, o, none⟩ = some (.slice oa n c)) : (Instr.loadAt 25 (.pointer (some ⟨g, o, none⟩))).run Try.prog w = .ok (.slice oa n c) w := by simp [h, go_sem]
theorem bd26 (w : World) (oa ob : Option Addr) (n c m d : Nat) : (Instr.build 26 #[(0, .slice oa n c), (1, .slice ob m d)]).run Try.prog w = .ok (.agg #[.slice oa n c, .slice ob m d]) w := by
  simp [go_sem]
theorem bd28 (w : World) (oa ob : Option Addr) (n c m d : Nat) : (Instr.build 28 #[(0, .agg #[.slice oa n c, .slice ob m d])]).run Try.prog w = .ok (.agg #[.slice oa n c, .slice ob m d]) w := by
  simp [go_sem]
set_option maxRecDepth 100000 in
set_option maxHeartbeats 3200000 in
theorem diskOf_any (W : World) (u0 u1 : Value) (l0 l1 : List Nat) (h0 : Bl W u0 l0) (h1 : Bl W u1 l1) (hl0 : l0.length ≤ LIM) (hl1 : l1.length ≤ LIM) : Calls Try.prog 12 #[.agg #[u0, u1]] W fun e w' => e = .returned (.agg #[.slice (some ⟨W.heap.size + 2, 0, none⟩) l0.length l0.length, .slice (some ⟨W.heap.size + 3, 0, none⟩) l1.length l1.length]) ∧ DoR W l0 l1 w' := by
  obtain ⟨A, hA⟩ : ∃ A, (W.alloc (.cells #[u0, u1] 28)).alloc (.cells zD 28) = A := ⟨_, rfl⟩
  have bA : Below W.heap.size W A := by rw [← hA]; exact below2 _ _ _
  have r0 : A.heap[W.heap.size]? = some (.cells #[u0, u1] 28 (0, 0)) := by rw [← hA]; exact row2 _ _ _
  have r1 : A.heap[W.heap.size + 1]? = some (.cells zD 28 (0, 0)) := by rw [← hA]; exact row2n _ _ _
  have zA : A.heap.size = W.heap.size + 2 := by rw [← hA]; simp
  have b0 := h0.below bA
  have b1 := h1.below bA
  obtain ⟨n0, hn0⟩ : ∃ n, l0.length = n := ⟨_, rfl⟩
  obtain ⟨n1, hn1⟩ : ∃ n, l1.length = n := ⟨_, rfl⟩
  obtain ⟨oa0, cap0, e0, -⟩ := id h0
  obtain ⟨oa1, cap1, e1, -⟩ := id h1
  have c3 : ∀ Y, Below A.heap.size A Y ∧ Y.heap.size = A.heap.size → Calls Try.prog 15 #[u0] Y fun e w' => e = .returned (.slice (some ⟨W.heap.size + 2, 0, none⟩) n0 n0) ∧ (Below A.heap.size A w' ∧ w'.heap.size = A.heap.size + 1 ∧ w'.heap[A.heap.size]? = some (rw8 l0)) := fun Y ⟨hY, hs⟩ => by
    refine (copL_any Y u0 l0 (b0.below hY) hl0).mono fun e w' ⟨q1, q2⟩ => ⟨by rw [q1, hs, zA, hn0], ?_⟩
    rw [q2, ← hs]
    exact ⟨by rw [hs]; exact hY.alloc hY.size _, by simp, heap_alloc_new _ _⟩
  have c7 : ∀ Y, (Below A.heap.size A Y ∧ Y.heap.size = A.heap.size + 1 ∧ Y.heap[A.heap.size]? = some (rw8 l0)) → Calls Try.prog 15 #[u1] Y fun e w' => e = .returned (.slice (some ⟨W.heap.size + 3, 0, none⟩) n1 n1) ∧ (Below A.heap.size A w' ∧ w'.heap.size = A.heap.size + 2 ∧ w'.heap[A.heap.size]? = some (rw8 l0) ∧ w'.heap[A.heap.size + 1]? = some (rw8 l1)) := fun Y ⟨hY, hs, hr⟩ => by
    refine (copL_any Y u1 l1 (b1.below hY) hl1).mono fun e w' ⟨q1, q2⟩ => ⟨by rw [q1, hs, zA, hn1], ?_⟩
    rw [q2]
    exact ⟨hY.alloc hY.size _, by simp [hs], (heap_alloc_old Y _ (h := by omega)).trans hr, by rw [← hs]; exact heap_alloc_new _ _⟩
  have st : ∀ Y, (Below A.heap.size A Y ∧ Y.heap.size = A.heap.size + 2 ∧ Y.heap[A.heap.size]? = some (rw8 l0) ∧ Y.heap[A.heap.size + 1]? = some (rw8 l1)) → (Instr.storeAt 28 (.pointer (some ⟨W.heap.size + 1, 0, none⟩)) (.agg #[.slice (some ⟨W.heap.size + 2, 0, none⟩) n0 n0, .slice (some ⟨W.heap.size + 3, 0, none⟩) n1 n1])).run Try.prog Y = .ok () (Y.setRow (W.heap.size + 1) #[.slice (some ⟨W.heap.size + 2, 0, none⟩) n0 n0, .slice (some ⟨W.heap.size + 3, 0, none⟩) n1 n1]) ∧ (DoR W l0 l1 (Y.setRow (W.heap.size + 1) #[.slice (some ⟨W.heap.size + 2, 0, none⟩) n0 n0, .slice (some ⟨W.heap.size + 3, 0, none⟩) n1 n1]) ∧ (Y.setRow (W.heap.size + 1) #[.slice (some ⟨W.heap.size + 2, 0, none⟩) n0 n0, .slice (some ⟨W.heap.size + 3, 0, none⟩) n1 n1]).heap[W.heap.size + 1]? = some (.cells #[.slice (some ⟨W.heap.size + 2, 0, none⟩) n0 n0, .slice (some ⟨W.heap.size + 3, 0, none⟩) n1 n1] 28 (0, 0))) := fun Y ⟨hY, hs, q0, q1⟩ => by
    have rY : Y.heap[W.heap.size + 1]? = some (.cells zD 28 (0, 0)) := (hY.block _ (by omega)).trans r1
    rw [zA] at q0 q1 hs
    exact ⟨st_D Y (W.heap.size + 1) zD _ rfl rfl (by simp [Value.oneCell']) rY, ⟨below_setRow (bA.trans (hY.mono bA.size)) (by omega) _, by simp [World.setRow, hs], (setRow_other _ _ _ _ (by omega)).trans q0, (setRow_other _ _ _ _ (by omega)).trans q1⟩, setRow_heap _ _ _ _ _ _ rY⟩
  have HC : Hid (_ ∧ _ ∧ _) := ⟨c3, c7, st⟩
  have HA : Hid (A.heap[W.heap.size]? = some (.cells #[u0, u1] 28 (0, 0)) ∧ W.heap.size < A.heap.size ∧ W.heap.size ≠ W.heap.size + 1 ∧ (W.alloc (.cells #[u0, u1] 28)).alloc (.cells #[.slice none 0 0, .slice none 0 0] 28) = A) := ⟨r0, by omega, by omega, hA⟩
  have k0 : ∀ Y : World, (∀ j, j < A.heap.size → j ≠ W.heap.size + 1 → Y.heap[j]? = A.heap[j]?) → Y.cell? ⟨W.heap.size, 0, none⟩ = some u0 := fun Y hY => by rw [cell_of_row _ _ _ _ _ _ ((hY _ (by omega) (by omega)).trans r0)]; rfl
  have k1 : ∀ Y : World, (∀ j, j < A.heap.size → j ≠ W.heap.size + 1 → Y.heap[j]? = A.heap[j]?) → Y.cell? ⟨W.heap.size, 1, none⟩ = some u1 := fun Y hY => by rw [cell_of_row _ _ _ _ _ _ ((hY _ (by omega) (by omega)).trans r0)]; rfl
  have HK : Hid (_ ∧ _) := ⟨k0, k1⟩
  rw [hn0, hn1]
  clear c3 c7 st hA bA r0 r1 zA b0 b1 hn0 hn1 hl0 hl1 h0 h1 k0 k1
  subst e0 e1
  go_enter Try.func12, Try.ntmps12
  go_wp2_with fail
  rw [HA.out.2.2.2]
  refine wp_region_vals (ops := regD) (V := VD W.heap.size (W.heap.size + 1) (W.heap.size + 2) (W.heap.size + 3) n0 n1 (.slice oa0 l0.length cap0) (.slice oa1 l1.length cap1)) (S := RgD A (W.heap.size + 1) l0 l1 (fun Y => DoR W l0 l1 Y ∧ Y.heap[W.heap.size + 1]? = some (.cells #[.slice (some ⟨W.heap.size + 2, 0, none⟩) n0 n0, .slice (some ⟨W.heap.size + 3, 0, none⟩) n1 n1] 28 (0, 0)))) (by kernel_rfl) (fun i o ho => (okR_at ok_regD ho).1) (fun i j o oj d ho hj q1 q2 => (okR_at ok_regD ho).2.2 j oj d hj q1 q2) (fun i o d ho q => (okR_at ok_regD ho).2.1 d q)
    (stepD1 _ W.heap.size (W.heap.size + 1) (W.heap.size + 2) (W.heap.size + 3) n0 n1 (.slice oa0 l0.length cap0) (.slice oa1 l1.length cap1) _ _ rfl rfl (fun i hi l Y h => h.mv i hi)
      (fun l Y h _ hu _ => (HC.out.1 Y (h.p0 hu)).mono fun e w' ⟨q1, q2⟩ => ⟨q1, h.c3 hu q2⟩)
      (fun l Y h _ hu hd => (HC.out.2.1 Y (h.p1 (gd_true (hd 3 (by kernel_rfl))) hu)).mono fun e w' ⟨q1, q2⟩ => ⟨q1, h.c7 (gd_true (hd 3 (by kernel_rfl))) hu q2⟩)
      (fun l Y h _ _ _ => ⟨Y, ld25 Y (HK.out.1 Y h.rows), h.mv 2 rfl⟩)
      (fun l Y h _ _ _ => ⟨Y, ld25 Y (HK.out.2 Y h.rows), h.mv 6 rfl⟩)
      (fun l Y h _ _ _ => ⟨Y, bd26 Y _ _ _ _ _ _, h.mv 8 rfl⟩)
      (fun l Y h _ _ _ => ⟨Y, bd28 Y _ _ _ _ _ _, h.mv 9 rfl⟩)
      (fun l Y h _ hu hd => by
        have h7 : l.getD 7 true = true := gd_true (hd 7 (by kernel_rfl))
        obtain ⟨q1, q2⟩ := HC.out.2.2 Y (h.p2 h7 hu)
        exact ⟨_, q1, h.c10 h7 (fun j _ hn => setRow_other _ _ _ _ hn) q2⟩)) (RgD.start A _ _ _ _ ⟨rfl, rfl, rfl, Nat.le_refl _, fun _ _ => rfl⟩ rfl) (fun wE hE => ?_)
  rw [putD]
  have HE : Hid _ := hE.done
  clear hE
  simp only [VD]
  go_wp2_with fail
  refine bodyPost_ret (results_D rfl _ _ (W.heap.size + 1) _ rfl rfl HE.out.2) rfl ?_
  exact ⟨rfl, HE.out.1⟩
end Go.Proofs.Ytdiflmckjpmngaa
