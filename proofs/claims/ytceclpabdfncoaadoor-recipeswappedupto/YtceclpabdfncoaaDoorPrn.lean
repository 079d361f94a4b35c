/- Base and Print: the code's and the document's. -/
import Derived.Test.YtceclpabdfncoaaDoorCmp
import Derived.Test.YtceclpabdfncoaaDoorB32
namespace Go.Proofs.YtceclpabdfncoaaDoor
open Go.RowKit
def str (l : List Nat) : ByteArray := strOfNums (l.map (fun (x : Nat) => (x : Int)))
set_option maxRecDepth 100000 in
theorem str_size (l : List Nat) : (str l).size = l.length := by simp [str, strOfNums, ByteArray.size]
def minus : ByteArray := ⟨#[45]⟩
def store : ByteArray := ⟨#[47, 103, 114, 97, 102, 116, 47, 115, 116, 111, 114, 101, 47]⟩
def baseS (h : List Nat) (s : ByteArray) : ByteArray := str (b32L h) ++ minus ++ s
set_option maxRecDepth 100000 in
theorem app_size (a b : ByteArray) : (a ++ b).size = a.size + b.size := ByteArray.size_append
set_option maxRecDepth 100000 in
theorem baseS_size (h : List Nat) (s : ByteArray) (hl : h.length = 20) : (baseS h s).size = 33 + s.size := by
  rw [baseS, app_size, app_size, str_size, b32L_len, hl]
  show n32 20 + 1 + s.size = _
  have : n32 20 = 32 := by decide
  omega
def okN (s : ByteArray) : Nat := (checkN s).1
set_option maxRecDepth 100000 in
theorem okN_size (s : ByteArray) (h : okN s = 0) : s.size ≤ 211 := by
  unfold okN checkN at h
  by_cases h1 : 211 < s.size
  · rw [if_pos h1] at h; cases h
  · omega
def two (x : ByteArray) (e : Nat) : Value := .tuple #[.string x, .int .i64 (e : Int)]
def baseV (h : List Nat) (s : ByteArray) : Value := if okN s = 0 then two (baseS h s) 0 else two ⟨#[]⟩ (okN s)
def printV (h : List Nat) (s : ByteArray) : Value := if okN s = 0 then two (store ++ baseS h s) 0 else two ⟨#[]⟩ (okN s)
set_option maxRecDepth 100000 in
theorem heap_size_alloc (w : World) (o : Obj) : (w.alloc o).heap.size = w.heap.size + 1 := by simp
set_option maxRecDepth 100000 in
set_option maxHeartbeats 1000000 in
theorem baseOf_any (h : List Nat) (hb : Byt h) (hl : h.length = 20) (s : ByteArray) (hs : s.size ≤ 211) (w : World) (ht : Tx w) :
    Calls Tryd.prog 33 #[.agg (lab h s)] w fun e w' => e = .returned (.string (baseS h s)) ∧ Below w.heap.size w w' := by
  have bel : Below w.heap.size w (w.alloc (.cells (lab h s) 64)) := (Below.refl _ w).alloc (Nat.le_refl _) _
  have hrow : (w.alloc (.cells (lab h s) 64)).heap[w.heap.size]? = some (.cells (lab h s) 64 (0, 0)) := heap_alloc_new _ _
  have hby : Byl (.slice (some ⟨w.heap.size, 0, none⟩) 20 20) h (w.alloc (.cells (lab h s) 64)) := by
    have : Byl (.slice (some ⟨w.heap.size, 0, none⟩) h.length 20) h (w.alloc (.cells (lab h s) 64)) :=
      .inr ⟨w.heap.size, 0, 20, rfl, by omega, by unfold maxLen; omega, by simp, fun j hj => by rw [Nat.zero_add, cell_of_row _ _ _ _ _ _ hrow, lab_get h s hl j (by omega)]⟩
    rw [hl] at this
    exact this
  have htx : Tx (w.alloc (.cells (lab h s) 64)) := ht.below bel ht.sz
  have cn : (w.alloc (.cells (lab h s) 64)).cell? ⟨w.heap.size, 20, none⟩ = some (.string s) := by rw [cell_of_row _ _ _ _ _ _ hrow, lab_name h s hl]
  have HB : Hid (∀ W, Below (w.heap.size + 1) (w.alloc (.cells (lab h s) 64)) W → Calls Tryd.prog 4 #[.slice (some ⟨w.heap.size, 0, none⟩) 20 20] W fun e w' => e = .returned (.string (str (b32L h))) ∧ Below (w.heap.size + 1) W w') := by
    intro W hW
    have hW' : Below (w.alloc (.cells (lab h s) 64)).heap.size (w.alloc (.cells (lab h s) 64)) W := by rw [heap_size_alloc]; exact hW
    have := b32C_any h hb (by omega) _ W (hby.below hW') (htx.below hW' (by have := ht.sz; simp; omega))
    refine this.mono fun e w' ⟨he, b⟩ => ⟨he, b.mono ?_⟩
    have := hW'.size
    rw [heap_size_alloc] at this
    exact this
  have z1 : ¬ (9223372036854775807 < (str (b32L h)).size + 1) := by rw [str_size, b32L_len, hl]; decide
  have hz : (str (b32L h)).size = 32 := by rw [str_size, b32L_len, hl]; decide
  have z2 : ¬ (9223372036854775807 < (str (b32L h) ++ (⟨#[45]⟩ : ByteArray)).size + s.size) := by
    rw [app_size, hz]
    show ¬ (_ < 32 + 1 + s.size)
    omega
  have z3 : ¬ (9223372036854775807 < (str (b32L h)).size + 1 + s.size) := by omega
  have HR : Hid ((w.alloc (.cells (lab h s) 64)).heap[w.heap.size]? = some (.cells (lab h s) 64 (0, 0))) := hrow
  clear hby htx ht hrow
  clear hz
  go_enter Tryd.func33, Tryd.ntmps33
  go_wp2_with fail
  go_region_held3 (fun w' => w'.cell? ⟨w.heap.size, 20, none⟩ = some (.string s) ∧ Hid (Below (w.heap.size + 1) (w.alloc (.cells (lab h s) 64)) w'))
    (first
      | exact ⟨cn, (Below.refl _ _).drew⟩
      | exact ⟨(World.cell?_of_block (hbN.block w.heap.size (by omega))).trans cn, hbN⟩)
    (first
      | (go_at_call 4; refine (HB.out _ ((Below.refl _ _).drew)).mono ?_; rintro e w1 ⟨rfl, b1⟩; have hbN : Below (w.heap.size + 1) (w.alloc (.cells (lab h s) 64)) w1 := ((Below.refl _ _).drew).trans b1))
  all_goals
    have hb1 : Below w.heap.size w w1 := bel.trans (hbN.mono (by omega))
    go_wp2
    go_ret
    exact ⟨rfl, hb1⟩
attribute [local go_sem ↓] to25l to23l
set_option maxRecDepth 100000 in
set_option maxHeartbeats 1000000 in
theorem printC_any (h : List Nat) (hb : Byt h) (hl : h.length = 20) (s : ByteArray) (w : World) (ht : Tx w) :
    Calls Tryd.prog 18 #[.agg (lab h s)] w fun e w' => e = .returned (printV h s) ∧ Below w.heap.size w w' := by
  obtain ⟨W1, hW1⟩ : ∃ W, W = w.alloc (.cells (lab h s) 64) := ⟨_, rfl⟩
  have bel : Hid (Below w.heap.size w W1) := by rw [hW1]; exact (Below.refl _ w).alloc (Nat.le_refl _) _
  have hrow : W1.heap[w.heap.size]? = some (.cells (lab h s) 64 (0, 0)) := by rw [hW1]; exact heap_alloc_new _ _
  have hz : Hid (W1.heap.size = w.heap.size + 1) := by show _ = _; rw [hW1]; simp
  have cn : W1.cell? ⟨w.heap.size, 20, none⟩ = some (.string s) := by rw [cell_of_row _ _ _ _ _ _ hrow, lab_name h s hl]
  have HR : Hid (W1.heap[w.heap.size]? = some (.cells (lab h s) 64 (0, 0))) := hrow
  have HT : Hid (Tx w) := ht
  obtain ⟨E, hE⟩ : ∃ E, E = okN s := ⟨_, rfl⟩
  obtain ⟨F, hF⟩ : ∃ F, F = (checkN s).2 := ⟨_, rfl⟩
  have C : Hid (∀ W, Calls Tryd.prog 32 #[.string s] W fun e w' => e = .returned (.tuple #[.int .i64 (E : Int), .int .i64 (F : Int)]) ∧ Below W.heap.size W w') := by
    intro W
    have := check_any s W
    rw [hE, hF]
    exact this
  have HE : Hid (E = okN s) := hE
  have HW : Hid (W1 = w.alloc (.cells (lab h s) 64)) := hW1
  rw [hW1] at cn
  clear hrow hE hF hW1 ht
  go_enter Tryd.func18, Tryd.ntmps18
  go_wp2_with fail
  refine (C.out _).mono ?_
  rintro e W2 ⟨rfl, b2⟩
  rw [← HW.out] at b2
  have bel2 : Below w.heap.size w W2 := bel.out.trans (b2.mono (by have := hz.out; omega))
  have ld := run_loadR25 W2 w.heap.size h s ((b2.block _ (by have := hz.out; omega)).trans HR.out) hl
  by_cases h0 : E = 0
  · have hv : Hid (printV h s = two (store ++ baseS h s) 0) := by show _ = _; unfold printV; rw [if_pos (by rw [← HE.out]; exact h0)]
    have hs : s.size ≤ 211 := okN_size s (by rw [← HE.out]; exact h0)
    have HB : Hid (Calls Tryd.prog 33 #[.agg (lab h s)] W2 fun e w' => e = .returned (.string (baseS h s)) ∧ Below W2.heap.size W2 w') := baseOf_any h hb hl s hs W2 (HT.out.below bel2 HT.out.sz)
    have z1 : ¬ (9223372036854775807 < 13 + (baseS h s).size) := by rw [baseS_size h s hl]; omega
    subst h0
    go_wp2_with fail
    refine HB.out.mono ?_
    rintro e W3 ⟨rfl, b3⟩
    have bel3 : Below w.heap.size w W3 := bel2.trans (b3.mono bel2.size)
    go_wp2
    go_ret2
    exact ⟨by rw [hv.out]; rfl, bel3⟩
  · have hv : Hid (printV h s = two ⟨#[]⟩ E) := by show _ = _; unfold printV; rw [if_neg (by rw [← HE.out]; exact h0), HE.out]
    have h0' : ¬ ((E : Int) = 0) := by omega
    go_wp2
    go_ret2
    exact ⟨by rw [hv.out]; rfl, bel2⟩
end Go.Proofs.YtceclpabdfncoaaDoor
