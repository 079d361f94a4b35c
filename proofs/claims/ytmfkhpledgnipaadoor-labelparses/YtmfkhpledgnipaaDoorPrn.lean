/- Base and Print: the code's and the document's. -/
import Derived.Test.YtmfkhpledgnipaaDoorCmp
import Derived.Test.YtmfkhpledgnipaaDoorB32
namespace Go.Proofs.YtmfkhpledgnipaaDoor
open Go.RowKit
def str (l : List Nat) : ByteArray := strOfNums (l.map (fun (x : Nat) => (x : Int)))
theorem str_size (l : List Nat) : (str l).size = l.length := by simp [str, strOfNums, ByteArray.size]
def minus : ByteArray := ⟨#[45]⟩
def store : ByteArray := ⟨#[47, 103, 114, 97, 102, 116, 47, 115, 116, 111, 114, 101, 47]⟩
def baseS (h : List Nat) (s : ByteArray) : ByteArray := str (b32L h) ++ minus ++ s
theorem app_size (a b : ByteArray) : (a ++ b).size = a.size + b.size := ByteArray.size_append
theorem baseS_size (h : List Nat) (s : ByteArray) (hl : h.length = 20) : (baseS h s).size = 33 + s.size := by
  rw [baseS, app_size, app_size, str_size, b32L_len, hl]
  show n32 20 + 1 + s.size = _
  have : n32 20 = 32 := by decide
  omega
def okN (s : ByteArray) : Nat := (checkN s).1
theorem okN_size (s : ByteArray) (h : okN s = 0) : s.size ≤ 211 := by
  unfold okN checkN at h
  by_cases h1 : 211 < s.size
  · rw [if_pos h1] at h; cases h
  · omega
def two (x : ByteArray) (e : Nat) : Value := .tuple #[.string x, .int .i64 (e : Int)]
def baseV (h : List Nat) (s : ByteArray) : Value := if okN s = 0 then two (baseS h s) 0 else two ⟨#[]⟩ (okN s)
def printV (h : List Nat) (s : ByteArray) : Value := if okN s = 0 then two (store ++ baseS h s) 0 else two ⟨#[]⟩ (okN s)
theorem heap_size_alloc (w : World) (o : Obj) : (w.alloc o).heap.size = w.heap.size + 1 := by simp
set_option maxHeartbeats 1000000 in
theorem hashR_any (h : List Nat) (hb : Byt h) (hl : h.length = 20) (w : World) :
    Calls Tryd.prog 31 #[.agg (bs h)] w fun e w' => e = .returned (.string (str (b32L h))) ∧ Below w.heap.size w w' := by
  have bel : Below w.heap.size w (w.alloc (.cells (bs h) 23)) := (Below.refl _ w).alloc (Nat.le_refl _) _
  have hby : Byl (.slice (some ⟨w.heap.size, 0, none⟩) 20 20) h (w.alloc (.cells (bs h) 23)) := by
    have := byl_row (w := w.alloc (.cells (bs h) 23)) (heap_alloc_new w (.cells (bs h) 23)) (by unfold maxLen; omega)
    rw [hl] at this
    exact this
  have C : Hid (Calls Tryd.prog 44 #[.slice (some ⟨w.heap.size, 0, none⟩) 20 20] (w.alloc (.cells (bs h) 23)) fun e w' => e = .returned (.string (str (b32L h))) ∧ Below (w.heap.size + 1) (w.alloc (.cells (bs h) 23)) w') := by
    have := b32R_any h hb (by omega) _ _ hby
    rw [heap_size_alloc] at this
    exact this
  clear hby
  go_enter Tryd.func31, Tryd.ntmps31
  go_wp2_with fail
  refine C.out.mono ?_
  rintro e w1 ⟨rfl, b1⟩
  have hb1 : Below w.heap.size w w1 := bel.trans (b1.mono (by omega))
  go_wp2
  go_ret
  exact ⟨rfl, hb1⟩
set_option maxHeartbeats 1000000 in
theorem baseOf_any (h : List Nat) (hb : Byt h) (hl : h.length = 20) (s : ByteArray) (hs : s.size ≤ 211) (w : World) (ht : Tx w) :
    Calls Tryd.prog 24 #[.agg (lab h s)] w fun e w' => e = .returned (.string (baseS h s)) ∧ Below w.heap.size w w' := by
  have bel : Below w.heap.size w (w.alloc (.cells (lab h s) 25)) := (Below.refl _ w).alloc (Nat.le_refl _) _
  have hrow : (w.alloc (.cells (lab h s) 25)).heap[w.heap.size]? = some (.cells (lab h s) 25 (0, 0)) := heap_alloc_new _ _
  have hby : Byl (.slice (some ⟨w.heap.size, 0, none⟩) 20 20) h (w.alloc (.cells (lab h s) 25)) := by
    have : Byl (.slice (some ⟨w.heap.size, 0, none⟩) h.length 20) h (w.alloc (.cells (lab h s) 25)) :=
      .inr ⟨w.heap.size, 0, 20, rfl, by omega, by unfold maxLen; omega, by simp, fun j hj => by rw [Nat.zero_add, cell_of_row _ _ _ _ _ _ hrow, lab_get h s hl j (by omega)]⟩
    rw [hl] at this
    exact this
  have htx : Tx (w.alloc (.cells (lab h s) 25)) := ht.below bel ht.sz
  have cn : (w.alloc (.cells (lab h s) 25)).cell? ⟨w.heap.size, 20, none⟩ = some (.string s) := by rw [cell_of_row _ _ _ _ _ _ hrow, lab_name h s hl]
  have HB : Hid (∀ W, Below (w.heap.size + 1) (w.alloc (.cells (lab h s) 25)) W → Calls Tryd.prog 39 #[.slice (some ⟨w.heap.size, 0, none⟩) 20 20] W fun e w' => e = .returned (.string (str (b32L h))) ∧ Below (w.heap.size + 1) W w') := by
    intro W hW
    have hW' : Below (w.alloc (.cells (lab h s) 25)).heap.size (w.alloc (.cells (lab h s) 25)) W := by rw [heap_size_alloc]; exact hW
    have := b32C_any h hb (by omega) _ W (hby.below hW') (htx.below hW' (by simp))
    refine this.mono fun e w' ⟨he, b⟩ => ⟨he, b.mono ?_⟩
    have := hW'.size
    rw [heap_size_alloc] at this
    exact this
  have z1 : ¬ (9223372036854775807 < (str (b32L h)).size + 1) := by rw [str_size, b32L_len, hl]; decide
  have hz : (str (b32L h)).size = 32 := by rw [str_size, b32L_len, hl]; decide
  have z2 : ¬ (9223372036854775807 < (str (b32L h) ++ (⟨#[45]⟩ : ByteArray)).size + s.size) := by
    rw [app_size, hz]
    show ¬ (_ < 32 + 1 + s.size)
    omega
  have z3 : ¬ (9223372036854775807 < (str (b32L h)).size + 1 + s.size) := by omega
  have HR : Hid ((w.alloc (.cells (lab h s) 25)).heap[w.heap.size]? = some (.cells (lab h s) 25 (0, 0))) := hrow
  clear hby htx ht hrow
  clear hz
  go_enter Tryd.func24, Tryd.ntmps24
  go_wp2_with fail
  go_region_held3 (fun w' => w'.cell? ⟨w.heap.size, 20, none⟩ = some (.string s) ∧ Hid (Below (w.heap.size + 1) (w.alloc (.cells (lab h s) 25)) w'))
    (first
      | exact ⟨cn, (Below.refl _ _).drew⟩
      | exact ⟨(World.cell?_of_block (hbN.block w.heap.size (by omega))).trans cn, hbN⟩)
    (first
      | (go_at_call 39; refine (HB.out _ ((Below.refl _ _).drew)).mono ?_; rintro e w1 ⟨rfl, b1⟩; have hbN : Below (w.heap.size + 1) (w.alloc (.cells (lab h s) 25)) w1 := ((Below.refl _ _).drew).trans b1))
  all_goals
    have hb1 : Below w.heap.size w w1 := bel.trans (hbN.mono (by omega))
    go_wp2
    go_ret
    exact ⟨rfl, hb1⟩
attribute [local go_sem ↓] to25l to23l
set_option maxHeartbeats 1000000 in
theorem baseC_any (h : List Nat) (hb : Byt h) (hl : h.length = 20) (s : ByteArray) (w : World) (ht : Tx w) :
    Calls Tryd.prog 8 #[.agg (lab h s)] w fun e w' => e = .returned (baseV h s) ∧ Below w.heap.size w w' := by
  obtain ⟨W1, hW1⟩ : ∃ W, W = w.alloc (.cells (lab h s) 25) := ⟨_, rfl⟩
  have bel : Hid (Below w.heap.size w W1) := by rw [hW1]; exact (Below.refl _ w).alloc (Nat.le_refl _) _
  have hrow : W1.heap[w.heap.size]? = some (.cells (lab h s) 25 (0, 0)) := by rw [hW1]; exact heap_alloc_new _ _
  have hz : Hid (W1.heap.size = w.heap.size + 1) := by show _ = _; rw [hW1]; simp
  have cn : W1.cell? ⟨w.heap.size, 20, none⟩ = some (.string s) := by rw [cell_of_row _ _ _ _ _ _ hrow, lab_name h s hl]
  have HR : Hid (W1.heap[w.heap.size]? = some (.cells (lab h s) 25 (0, 0))) := hrow
  have HT : Hid (Tx w) := ht
  obtain ⟨E, hE⟩ : ∃ E, E = okN s := ⟨_, rfl⟩
  obtain ⟨F, hF⟩ : ∃ F, F = (checkN s).2 := ⟨_, rfl⟩
  have C : Hid (∀ W, Calls Tryd.prog 23 #[.string s] W fun e w' => e = .returned (.tuple #[.int .i64 (E : Int), .int .i64 (F : Int)]) ∧ Below W.heap.size W w') := by
    intro W
    have := check_any s W
    rw [hE, hF]
    exact this
  have HE : Hid (E = okN s) := hE
  have HW : Hid (W1 = w.alloc (.cells (lab h s) 25)) := hW1
  rw [hW1] at cn
  clear hrow hE hF hW1 ht
  go_enter Tryd.func8, Tryd.ntmps8
  go_wp2_with fail
  refine (C.out _).mono ?_
  rintro e W2 ⟨rfl, b2⟩
  rw [← HW.out] at b2
  have bel2 : Below w.heap.size w W2 := bel.out.trans (b2.mono (by have := hz.out; omega))
  have ld := run_loadR25 W2 w.heap.size h s ((b2.block _ (by have := hz.out; omega)).trans HR.out) hl
  by_cases h0 : E = 0
  · have hv : Hid (baseV h s = two (baseS h s) 0) := by show _ = _; unfold baseV; rw [if_pos (by rw [← HE.out]; exact h0)]
    have hs : s.size ≤ 211 := okN_size s (by rw [← HE.out]; exact h0)
    have HB : Hid (Calls Tryd.prog 24 #[.agg (lab h s)] W2 fun e w' => e = .returned (.string (baseS h s)) ∧ Below W2.heap.size W2 w') := baseOf_any h hb hl s hs W2 (HT.out.below bel2 HT.out.sz)
    have z1 : ¬ (9223372036854775807 < 13 + (baseS h s).size) := by rw [baseS_size h s hl]; omega
    subst h0
    go_wp2_with fail
    refine HB.out.mono ?_
    rintro e W3 ⟨rfl, b3⟩
    have bel3 : Below w.heap.size w W3 := bel2.trans (b3.mono bel2.size)
    go_wp2
    go_ret2
    exact ⟨by rw [hv.out]; rfl, bel3⟩
  · have hv : Hid (baseV h s = two ⟨#[]⟩ E) := by show _ = _; unfold baseV; rw [if_neg (by rw [← HE.out]; exact h0), HE.out]
    have h0' : ¬ ((E : Int) = 0) := by omega
    go_wp2
    go_ret2
    exact ⟨by rw [hv.out]; rfl, bel2⟩
set_option maxHeartbeats 1000000 in
theorem printC_any (h : List Nat) (hb : Byt h) (hl : h.length = 20) (s : ByteArray) (w : World) (ht : Tx w) :
    Calls Tryd.prog 7 #[.agg (lab h s)] w fun e w' => e = .returned (printV h s) ∧ Below w.heap.size w w' := by
  obtain ⟨W1, hW1⟩ : ∃ W, W = w.alloc (.cells (lab h s) 25) := ⟨_, rfl⟩
  have bel : Hid (Below w.heap.size w W1) := by rw [hW1]; exact (Below.refl _ w).alloc (Nat.le_refl _) _
  have hrow : W1.heap[w.heap.size]? = some (.cells (lab h s) 25 (0, 0)) := by rw [hW1]; exact heap_alloc_new _ _
  have hz : Hid (W1.heap.size = w.heap.size + 1) := by show _ = _; rw [hW1]; simp
  have cn : W1.cell? ⟨w.heap.size, 20, none⟩ = some (.string s) := by rw [cell_of_row _ _ _ _ _ _ hrow, lab_name h s hl]
  have HR : Hid (W1.heap[w.heap.size]? = some (.cells (lab h s) 25 (0, 0))) := hrow
  have HT : Hid (Tx w) := ht
  obtain ⟨E, hE⟩ : ∃ E, E = okN s := ⟨_, rfl⟩
  obtain ⟨F, hF⟩ : ∃ F, F = (checkN s).2 := ⟨_, rfl⟩
  have C : Hid (∀ W, Calls Tryd.prog 23 #[.string s] W fun e w' => e = .returned (.tuple #[.int .i64 (E : Int), .int .i64 (F : Int)]) ∧ Below W.heap.size W w') := by
    intro W
    have := check_any s W
    rw [hE, hF]
    exact this
  have HE : Hid (E = okN s) := hE
  have HW : Hid (W1 = w.alloc (.cells (lab h s) 25)) := hW1
  rw [hW1] at cn
  clear hrow hE hF hW1 ht
  go_enter Tryd.func7, Tryd.ntmps7
  go_wp2_with fail
  refine (C.out _).mono ?_
  rintro e W2 ⟨rfl, b2⟩
  rw [← HW.out] at b2
  have bel2 : Below w.heap.size w W2 := bel.out.trans (b2.mono (by have := hz.out; omega))
  have ld := run_loadR25 W2 w.heap.size h s ((b2.block _ (by have := hz.out; omega)).trans HR.out) hl
  by_cases h0 : E = 0
  · have hv : Hid (printV h s = two (store ++ baseS h s) 0) := by show _ = _; unfold printV; rw [if_pos (by rw [← HE.out]; exact h0)]
    have hs : s.size ≤ 211 := okN_size s (by rw [← HE.out]; exact h0)
    have HB : Hid (Calls Tryd.prog 24 #[.agg (lab h s)] W2 fun e w' => e = .returned (.string (baseS h s)) ∧ Below W2.heap.size W2 w') := baseOf_any h hb hl s hs W2 (HT.out.below bel2 HT.out.sz)
    have z1 : ¬ (9223372036854775807 < 13 + (baseS h s).size) := by rw [baseS_size h s hl]; omega
    subst h0
    go_wp2_with fail
    refine HB.out.mono ?_
    rintro e W3 ⟨rfl, b3⟩
    have bel3 : Below w.heap.size w W3 := bel2.trans (b3.mono bel2.size)
    go_wp2
    go_ret2
    exact ⟨by rw [hv.out]; rfl, bel3⟩
  · have hv : Hid (printV h s = two ⟨#[]⟩ E) := by show _ = _; unfold printV; rw [if_neg (by rw [← HE.out]; exact h0), HE.out]
    have h0' : ¬ ((E : Int) = 0) := by omega
    go_wp2
    go_ret2
    exact ⟨by rw [hv.out]; rfl, bel2⟩
set_option maxHeartbeats 1000000 in
theorem baseR_any (h : List Nat) (hb : Byt h) (hl : h.length = 20) (s : ByteArray) (w : World) :
    Calls Tryd.prog 17 #[.agg (lab h s)] w fun e w' => e = .returned (baseV h s) ∧ Below w.heap.size w w' := by
  obtain ⟨W1, hW1⟩ : ∃ W, W = w.alloc (.cells (lab h s) 25) := ⟨_, rfl⟩
  have bel : Hid (Below w.heap.size w W1) := by rw [hW1]; exact (Below.refl _ w).alloc (Nat.le_refl _) _
  have hrow : W1.heap[w.heap.size]? = some (.cells (lab h s) 25 (0, 0)) := by rw [hW1]; exact heap_alloc_new _ _
  have hz : Hid (W1.heap.size = w.heap.size + 1) := by show _ = _; rw [hW1]; simp
  have cn : W1.cell? ⟨w.heap.size, 20, none⟩ = some (.string s) := by rw [cell_of_row _ _ _ _ _ _ hrow, lab_name h s hl]
  have HR : Hid (W1.heap[w.heap.size]? = some (.cells (lab h s) 25 (0, 0))) := hrow
  obtain ⟨E, hE⟩ : ∃ E, E = okN s := ⟨_, rfl⟩
  obtain ⟨F, hF⟩ : ∃ F, F = (checkN s).2 := ⟨_, rfl⟩
  have C : Hid (∀ W, Calls Tryd.prog 30 #[.string s] W fun e w' => e = .returned (.tuple #[.int .i64 (E : Int), .int .i64 (F : Int)]) ∧ w' = W) := by
    intro W
    have := ref_any s W
    rw [hE, hF]
    exact this
  have HE : Hid (E = okN s) := hE
  have ld := run_loadR23 W1 w.heap.size h s hrow hl
  have HW : Hid (W1 = w.alloc (.cells (lab h s) 25)) := hW1
  rw [hW1] at cn ld
  clear hrow hE hF hW1
  go_enter Tryd.func17, Tryd.ntmps17
  go_wp2_with fail
  refine (C.out _).mono ?_
  rintro e W2 ⟨rfl, rfl⟩
  by_cases h0 : E = 0
  · have hv : Hid (baseV h s = two (baseS h s) 0) := by show _ = _; unfold baseV; rw [if_pos (by rw [← HE.out]; exact h0)]
    have hs : s.size ≤ 211 := okN_size s (by rw [← HE.out]; exact h0)
    have z0 : (str (b32L h)).size = 32 := by rw [str_size, b32L_len, hl]; decide
    have z1 : ¬ (9223372036854775807 < (str (b32L h)).size + 1) := by omega
    have z2 : ¬ (9223372036854775807 < (str (b32L h) ++ (⟨#[45]⟩ : ByteArray)).size + s.size) := by
      rw [app_size, z0]
      show ¬ (_ < 32 + 1 + s.size)
      omega
    have z3 : ¬ (9223372036854775807 < (str (b32L h)).size + 1 + s.size) := by omega
    clear z0
    subst h0
    go_wp2_with fail
    refine (hashR_any h hb hl _).mono ?_
    rintro e W3 ⟨rfl, b3⟩
    rw [← HW.out] at b3
    have bel3 : Below w.heap.size w W3 := bel.out.trans (b3.mono (by have := hz.out; omega))
    have cn3 : W3.cell? ⟨w.heap.size, 20, none⟩ = some (.string s) := by rw [cell_of_row _ _ _ _ _ _ ((b3.block _ (by have := hz.out; omega)).trans HR.out), lab_name h s hl]
    go_wp2
    go_ret2
    exact ⟨by rw [hv.out]; rfl, bel3⟩
  · have hv : Hid (baseV h s = two ⟨#[]⟩ E) := by show _ = _; unfold baseV; rw [if_neg (by rw [← HE.out]; exact h0), HE.out]
    have h0' : ¬ ((E : Int) = 0) := by omega
    go_wp2
    go_ret2
    exact ⟨by rw [hv.out]; rfl, by rw [← HW.out]; exact bel.out⟩
set_option maxHeartbeats 1000000 in
theorem printR_any (h : List Nat) (hb : Byt h) (hl : h.length = 20) (s : ByteArray) (w : World) :
    Calls Tryd.prog 16 #[.agg (lab h s)] w fun e w' => e = .returned (printV h s) ∧ Below w.heap.size w w' := by
  have bel : Hid (Below w.heap.size w (w.alloc (.cells (lab h s) 25))) := (Below.refl _ w).alloc (Nat.le_refl _) _
  have ld := run_loadR25 (w.alloc (.cells (lab h s) 25)) w.heap.size h s (heap_alloc_new _ _) hl
  have C := baseR_any h hb hl s (w.alloc (.cells (lab h s) 25))
  by_cases h0 : okN s = 0
  · have hv : Hid (printV h s = two (store ++ baseS h s) 0) := by show _ = _; unfold printV; rw [if_pos h0]
    have hs : s.size ≤ 211 := okN_size s h0
    have z1 : ¬ (9223372036854775807 < 13 + (baseS h s).size) := by rw [baseS_size h s hl]; omega
    have C' : Hid (Calls Tryd.prog 17 #[.agg (lab h s)] (w.alloc (.cells (lab h s) 25)) fun e w' => e = .returned (.tuple #[.string (baseS h s), .int .i64 0]) ∧ Below (w.alloc (.cells (lab h s) 25)).heap.size (w.alloc (.cells (lab h s) 25)) w') := by
      unfold baseV at C
      rw [if_pos h0] at C
      exact C
    clear C
    go_enter Tryd.func16, Tryd.ntmps16
    go_wp2_with fail
    refine C'.out.mono ?_
    rintro e W3 ⟨rfl, b3⟩
    have bel3 : Below w.heap.size w W3 := bel.out.trans (b3.mono (by simp))
    go_wp2
    go_ret2
    exact ⟨by rw [hv.out]; rfl, bel3⟩
  · obtain ⟨E, hE⟩ : ∃ E, E = okN s := ⟨_, rfl⟩
    have hv : Hid (printV h s = two ⟨#[]⟩ E) := by show _ = _; unfold printV; rw [if_neg h0, hE]
    have h0' : ¬ ((E : Int) = 0) := by omega
    have C' : Hid (Calls Tryd.prog 17 #[.agg (lab h s)] (w.alloc (.cells (lab h s) 25)) fun e w' => e = .returned (.tuple #[.string ⟨#[]⟩, .int .i64 (E : Int)]) ∧ Below (w.alloc (.cells (lab h s) 25)).heap.size (w.alloc (.cells (lab h s) 25)) w') := by
      unfold baseV at C
      rw [if_neg h0, ← hE] at C
      exact C
    clear C hE
    go_enter Tryd.func16, Tryd.ntmps16
    go_wp2_with fail
    refine C'.out.mono ?_
    rintro e W3 ⟨rfl, b3⟩
    have bel3 : Below w.heap.size w W3 := bel.out.trans (b3.mono (by simp))
    go_wp2
    go_ret2
    exact ⟨by rw [hv.out]; rfl, bel3⟩
end Go.Proofs.YtmfkhpledgnipaaDoor
