/- Show: the code's and the document's. -/
import Derived.Test.YtkppejaigodgiabDoorHex
import Derived.Test.YtkppejaigodgiabDoorB32
import Derived.Test.YtkppejaigodgiabDoorB64
import Derived.Test.YtkppejaigodgiabDoorB64R
namespace Go.Proofs.YtkppejaigodgiabDoor
open Go.RowKit
def str (l : List Nat) : ByteArray := strOfNums (l.map (fun (x : Nat) => (x : Int)))
def colon : ByteArray := ⟨#[115, 104, 97, 50, 53, 54, 58]⟩
def dash : ByteArray := ⟨#[115, 104, 97, 50, 53, 54, 45]⟩
def showV (s : List Nat) (f : Int) : Value :=
  if f = 0 then .string (colon ++ str (hexL s)) else if f = 1 then .string (colon ++ str (b32L s)) else if f = 2 then .string (dash ++ str (b64L s)) else .string ⟨#[]⟩
theorem str_size (l : List Nat) : (str l).size = l.length := by simp [str, strOfNums, ByteArray.size]
theorem heap_size_alloc (w : World) (o : Obj) : (w.alloc o).heap.size = w.heap.size + 1 := by simp
set_option maxHeartbeats 1000000 in
theorem showC_any (s : List Nat) (hl : s.length = 32) (hb : Byt s) (f : Int) (w : World) (ht : Tx w) :
    Calls Tryd.prog 16 #[.agg (bs s), .int .i64 f] w fun e w' => e = .returned (showV s f) ∧ Below w.heap.size w w' := by
  have bel : Below w.heap.size w (w.alloc (.cells (bs s) 24)) := (Below.refl _ w).alloc (Nat.le_refl _) _
  have hby : Byl (.slice (some ⟨w.heap.size, 0, none⟩) 32 32) s (w.alloc (.cells (bs s) 24)) := by
    have := byl_row (w := w.alloc (.cells (bs s) 24)) (heap_alloc_new w (.cells (bs s) 24)) (by unfold maxLen; omega)
    rw [hl] at this
    exact this
  have HB : Hid (Byl (.slice (some ⟨w.heap.size, 0, none⟩) 32 32) s (w.alloc (.cells (bs s) 24))) := hby
  clear hby
  by_cases h0 : f = 0
  · subst h0
    have hz : ¬ (9223372036854775807 < 7 + (str (hexL s)).size) := by rw [str_size, hexL_len]; omega
    have C : Hid (Calls Tryd.prog 10 #[.slice (some ⟨w.heap.size, 0, none⟩) 32 32] (w.alloc (.cells (bs s) 24)) fun e w' => e = .returned (.string (str (hexL s))) ∧ Below (w.heap.size + 1) (w.alloc (.cells (bs s) 24)) w') := by
      have := hexC_any s hb (by omega) _ _ HB.out (ht.below bel ht.sz)
      rw [heap_size_alloc] at this
      exact this
    go_enter Tryd.func16, Tryd.ntmps16
    go_wp2_with fail
    refine C.out.mono ?_
    rintro e w1 ⟨rfl, b1⟩
    have hb1 : Below w.heap.size w w1 := bel.trans (b1.mono (by omega))
    go_wp2
    go_ret
    exact ⟨rfl, hb1⟩
  by_cases h1 : f = 1
  · subst h1
    have hz : ¬ (9223372036854775807 < 7 + (str (b32L s)).size) := by rw [str_size, b32L_len]; unfold n32; omega
    have C : Hid (Calls Tryd.prog 12 #[.slice (some ⟨w.heap.size, 0, none⟩) 32 32] (w.alloc (.cells (bs s) 24)) fun e w' => e = .returned (.string (str (b32L s))) ∧ Below (w.heap.size + 1) (w.alloc (.cells (bs s) 24)) w') := by
      have := b32C_any s hb (by omega) _ _ HB.out (ht.below bel ht.sz)
      rw [heap_size_alloc] at this
      exact this
    go_enter Tryd.func16, Tryd.ntmps16
    go_wp2_with fail
    refine C.out.mono ?_
    rintro e w1 ⟨rfl, b1⟩
    have hb1 : Below w.heap.size w w1 := bel.trans (b1.mono (by omega))
    go_wp2
    go_ret
    exact ⟨rfl, hb1⟩
  by_cases h2 : f = 2
  · subst h2
    have hz : ¬ (9223372036854775807 < 7 + (str (b64L s)).size) := by rw [str_size, b64L_len _ _ (Nat.le_refl _)]; omega
    have C : Hid (Calls Tryd.prog 14 #[.slice (some ⟨w.heap.size, 0, none⟩) 32 32] (w.alloc (.cells (bs s) 24)) fun e w' => e = .returned (.string (str (b64L s))) ∧ Below (w.heap.size + 1) (w.alloc (.cells (bs s) 24)) w') := by
      have := b64C_any s hb (by omega) _ _ HB.out (ht.below bel ht.sz)
      rw [heap_size_alloc] at this
      exact this
    go_enter Tryd.func16, Tryd.ntmps16
    go_wp2_with fail
    refine C.out.mono ?_
    rintro e w1 ⟨rfl, b1⟩
    have hb1 : Below w.heap.size w w1 := bel.trans (b1.mono (by omega))
    go_wp2
    go_ret
    exact ⟨rfl, hb1⟩
  go_enter Tryd.func16, Tryd.ntmps16
  go_wp2
  go_ret
  exact ⟨by unfold showV; rw [if_neg h0, if_neg h1, if_neg h2]; rfl, bel⟩
set_option maxHeartbeats 1000000 in
theorem showR_any (s : List Nat) (hl : s.length = 32) (hb : Byt s) (f : Int) (w : World) :
    Calls Tryd.prog 17 #[.agg (bs s), .int .i64 f] w fun e w' => e = .returned (showV s f) ∧ Below w.heap.size w w' := by
  have bel : Below w.heap.size w (w.alloc (.cells (bs s) 24)) := (Below.refl _ w).alloc (Nat.le_refl _) _
  have hby : Byl (.slice (some ⟨w.heap.size, 0, none⟩) 32 32) s (w.alloc (.cells (bs s) 24)) := by
    have := byl_row (w := w.alloc (.cells (bs s) 24)) (heap_alloc_new w (.cells (bs s) 24)) (by unfold maxLen; omega)
    rw [hl] at this
    exact this
  have HB : Hid (Byl (.slice (some ⟨w.heap.size, 0, none⟩) 32 32) s (w.alloc (.cells (bs s) 24))) := hby
  clear hby
  by_cases h0 : f = 0
  · subst h0
    have hz : ¬ (9223372036854775807 < 7 + (str (hexL s)).size) := by rw [str_size, hexL_len]; omega
    have C : Hid (Calls Tryd.prog 11 #[.slice (some ⟨w.heap.size, 0, none⟩) 32 32] (w.alloc (.cells (bs s) 24)) fun e w' => e = .returned (.string (str (hexL s))) ∧ Below (w.heap.size + 1) (w.alloc (.cells (bs s) 24)) w') := by
      have := hexR_any s hb (by omega) _ _ HB.out
      rw [heap_size_alloc] at this
      exact this
    go_enter Tryd.func17, Tryd.ntmps17
    go_wp2_with fail
    refine C.out.mono ?_
    rintro e w1 ⟨rfl, b1⟩
    have hb1 : Below w.heap.size w w1 := bel.trans (b1.mono (by omega))
    go_wp2
    go_ret
    exact ⟨rfl, hb1⟩
  by_cases h1 : f = 1
  · subst h1
    have hz : ¬ (9223372036854775807 < 7 + (str (b32L s)).size) := by rw [str_size, b32L_len]; unfold n32; omega
    have C : Hid (Calls Tryd.prog 13 #[.slice (some ⟨w.heap.size, 0, none⟩) 32 32] (w.alloc (.cells (bs s) 24)) fun e w' => e = .returned (.string (str (b32L s))) ∧ Below (w.heap.size + 1) (w.alloc (.cells (bs s) 24)) w') := by
      have := b32R_any s hb (by omega) _ _ HB.out
      rw [heap_size_alloc] at this
      exact this
    go_enter Tryd.func17, Tryd.ntmps17
    go_wp2_with fail
    refine C.out.mono ?_
    rintro e w1 ⟨rfl, b1⟩
    have hb1 : Below w.heap.size w w1 := bel.trans (b1.mono (by omega))
    go_wp2
    go_ret
    exact ⟨rfl, hb1⟩
  by_cases h2 : f = 2
  · subst h2
    have hz : ¬ (9223372036854775807 < 7 + (str (b64L s)).size) := by rw [str_size, b64L_len _ _ (Nat.le_refl _)]; omega
    have C : Hid (Calls Tryd.prog 15 #[.slice (some ⟨w.heap.size, 0, none⟩) 32 32] (w.alloc (.cells (bs s) 24)) fun e w' => e = .returned (.string (str (b64L s))) ∧ Below (w.heap.size + 1) (w.alloc (.cells (bs s) 24)) w') := by
      have := b64R_any s hb (by omega) _ _ HB.out
      rw [heap_size_alloc] at this
      exact this
    go_enter Tryd.func17, Tryd.ntmps17
    go_wp2_with fail
    refine C.out.mono ?_
    rintro e w1 ⟨rfl, b1⟩
    have hb1 : Below w.heap.size w w1 := bel.trans (b1.mono (by omega))
    go_wp2
    go_ret
    exact ⟨rfl, hb1⟩
  go_enter Tryd.func17, Tryd.ntmps17
  go_wp2
  go_ret
  exact ⟨by unfold showV; rw [if_neg h0, if_neg h1, if_neg h2]; rfl, bel⟩
end Go.Proofs.YtkppejaigodgiabDoor
