/- works: a label's text, and that it is read. -/
import Derived.Test.YtlkbhgjmppcfoaaDoorRd
namespace Go.Proofs.YtlkbhgjmppcfoaaDoor
open Go.RowKit
def xN : ByteArray := ⟨#[120]⟩
def litX : ByteArray := ⟨#[47, 103, 114, 97, 102, 116, 47, 115, 116, 111, 114, 101, 47, 48, 48, 48, 48, 48, 48, 48, 48, 48, 48, 48, 48, 48, 48, 48, 48, 48, 48, 48, 48, 48, 48, 48, 48, 48, 48, 48, 48, 48, 48, 48, 48, 45, 120]⟩
set_option maxRecDepth 100000 in
theorem litX_eq : store ++ baseS z20 xN = litX := by decide +kernel
set_option maxRecDepth 100000 in
theorem xN_ok : okN xN = 0 := by decide +kernel
set_option maxRecDepth 100000 in
theorem z20_byt : Byt z20 := fun x hx => by rw [List.eq_of_mem_replicate hx]; decide
set_option maxRecDepth 100000 in
theorem base_parts (h : List Nat) (hl : h.length = 20) (s : ByteArray) : (baseS h s).extract 0 32 = str (b32L h) ∧ byt (baseS h s) 32 = 45 ∧ (baseS h s).extract 33 (baseS h s).size = s := by
  have hz : (str (b32L h)).size = 32 := by rw [str_size, b32L_len, hl]; decide
  refine ⟨?_, ?_, ?_⟩
  · unfold baseS
    rw [show str (b32L h) ++ minus ++ s = str (b32L h) ++ (minus ++ s) from ByteArray.append_assoc]
    exact ext_left _ _ 32 hz
  · unfold baseS
    rw [byt_app _ _ 32 (by rw [app_size, hz]; decide)]
    have h1 : 32 < (str (b32L h) ++ minus).size := by rw [app_size, hz]; decide
    rw [← byt_at _ 32 h1]
    show ((str (b32L h) ++ minus).data[32]'h1).toNat = 45
    simp only [ByteArray.data_append]
    have hz' : (str (b32L h)).data.size = 32 := hz
    rw [Array.getElem_append_right (by omega)]
    simp [hz', minus]
  · unfold baseS
    exact ext_right _ _ 33 (by rw [app_size, hz]; rfl)
set_option maxRecDepth 100000 in
theorem parse_label (h : List Nat) (hb : Byt h) (hl : h.length = 20) (s : ByteArray) (hok : okN s = 0) (w : World) (ht : Tx w) :
    Calls Tryd.prog 23 #[.string (store ++ baseS h s)] w fun e w' => e = .returned (.tuple #[.agg (lab h s), .int .i64 0, .int .i64 0]) ∧ Below w.heap.size w w' := by
  obtain ⟨p1, p2, p3⟩ := base_parts h hl s
  exact parse_ok (baseS h s) s h hb hl (baseS_size h s hl) (okN_size s hok) p1 p2 p3 hok w ht
set_option maxRecDepth 100000 in
theorem pb_label (h : List Nat) (hb : Byt h) (hl : h.length = 20) (s : ByteArray) (hok : okN s = 0) (w : World) (ht : Tx w) :
    Calls Tryd.prog 43 #[.string (baseS h s)] w fun e w' => e = .returned (.tuple #[.agg (lab h s), .int .i64 0, .int .i64 0]) ∧ Below w.heap.size w w' := by
  obtain ⟨p1, p2, p3⟩ := base_parts h hl s
  exact pb_ok (baseS h s) s h hb hl (baseS_size h s hl) (okN_size s hok) p1 p2 p3 hok w ht
attribute [local go_sem ↓] to25s to25l to23l toBuild toEq
set_option maxRecDepth 100000 in
set_option maxHeartbeats 3200000 in
theorem works_any (w : World) (ht : Tx w) : Calls Tryd.prog 9 #[] w fun e w' => e = .returned (.bool true) ∧ Below w.heap.size w w' := by
  have hbu : ∀ W : World, (buildR #[(1, .string ⟨#[120]⟩)]).run Tryd.prog W = .ok (.agg (lab z20 xN)) W := fun W => run_buildX W xN
  have s1 : (storeR 34 (.pointer (some ⟨w.heap.size, 0, none⟩)) (.agg (lab z20 xN))).run Tryd.prog (w.alloc (.cells #[.int .u8 0, .int .u8 0, .int .u8 0, .int .u8 0, .int .u8 0, .int .u8 0, .int .u8 0, .int .u8 0, .int .u8 0, .int .u8 0, .int .u8 0, .int .u8 0, .int .u8 0, .int .u8 0, .int .u8 0, .int .u8 0, .int .u8 0, .int .u8 0, .int .u8 0, .int .u8 0, .string ⟨#[]⟩] 34)) = .ok () ((w.alloc (.cells none25 34)).setRow w.heap.size (lab z20 xN)) := run_storeR25 (w.alloc (.cells none25 34)) w.heap.size z20 z20 ⟨#[]⟩ xN (heap_alloc_new _ _) rfl rfl
  obtain ⟨W1, hW1⟩ : ∃ W, W = (w.alloc (.cells none25 34)).setRow w.heap.size (lab z20 xN) := ⟨_, rfl⟩
  have r1 : W1.heap[w.heap.size]? = some (.cells (lab z20 xN) 34 (0, 0)) := by rw [hW1]; exact setRow_heap _ _ _ _ _ _ (heap_alloc_new _ _)
  have bel1 : Below w.heap.size w W1 := by rw [hW1]; exact below_setRow ((Below.refl _ w).alloc (Nat.le_refl _) _) (Nat.le_refl _) _
  rw [← hW1] at s1
  have l1 := run_loadR25 W1 w.heap.size z20 xN r1 rfl
  have P1 : Hid (Calls Tryd.prog 22 #[.agg (lab z20 xN)] W1 fun e w' => e = .returned (.tuple #[.string litX, .int .i64 0]) ∧ Below W1.heap.size W1 w') := by
    have := printC_any z20 z20_byt rfl xN W1 (ht.below bel1 ht.sz)
    unfold printV at this
    rw [if_pos xN_ok, litX_eq] at this
    exact this
  have P2 : Hid (∀ W, Tx W → Calls Tryd.prog 23 #[.string litX] W fun e w' => e = .returned (.tuple #[.agg (lab z20 xN), .int .i64 0, .int .i64 0]) ∧ Below W.heap.size W w') := fun W hW => by
    have := parse_label z20 z20_byt rfl xN xN_ok W hW
    rw [litX_eq] at this
    exact this
  have HT : Hid (Tx w) := ht
  have R1 : Hid (W1.heap[w.heap.size]? = some (.cells (lab z20 xN) 34 (0, 0))) := r1
  clear hW1 r1 ht
  have z1 : w.heap.size < W1.heap.size := (Array.getElem?_eq_some_iff.1 R1.out).1
  go_enter Tryd.func9, Tryd.ntmps9
  go_wp2_with fail
  refine P1.out.mono ?_
  rintro e W2 ⟨rfl, b2⟩
  have R2 : Hid (W2.heap[w.heap.size]? = some (.cells (lab z20 xN) 34 (0, 0))) := (b2.block _ z1).trans R1.out
  have bel2 : Below w.heap.size w W2 := bel1.trans (b2.mono (by omega))
  have z2 : w.heap.size < W2.heap.size := (Array.getElem?_eq_some_iff.1 R2.out).1
  clear b2 l1 s1
  go_wp2_with fail
  refine (P2.out _ (HT.out.below bel2 HT.out.sz)).mono ?_
  rintro e W3 ⟨rfl, b3⟩
  have R3 : W3.heap[w.heap.size]? = some (.cells (lab z20 xN) 34 (0, 0)) := (b3.block _ z2).trans R2.out
  have bel3 : Below w.heap.size w W3 := bel2.trans (b3.mono (by omega))
  have z3 : w.heap.size < W3.heap.size := (Array.getElem?_eq_some_iff.1 R3).1
  have s3 : (storeR 34 (.pointer (some ⟨W3.heap.size, 0, none⟩)) (.agg (lab z20 xN))).run Tryd.prog (W3.alloc (.cells #[.int .u8 0, .int .u8 0, .int .u8 0, .int .u8 0, .int .u8 0, .int .u8 0, .int .u8 0, .int .u8 0, .int .u8 0, .int .u8 0, .int .u8 0, .int .u8 0, .int .u8 0, .int .u8 0, .int .u8 0, .int .u8 0, .int .u8 0, .int .u8 0, .int .u8 0, .int .u8 0, .string ⟨#[]⟩] 34)) = .ok () ((W3.alloc (.cells none25 34)).setRow W3.heap.size (lab z20 xN)) := run_storeR25 (W3.alloc (.cells none25 34)) W3.heap.size z20 z20 ⟨#[]⟩ xN (heap_alloc_new _ _) rfl rfl
  obtain ⟨W4, hW4⟩ : ∃ W, W = (W3.alloc (.cells none25 34)).setRow W3.heap.size (lab z20 xN) := ⟨_, rfl⟩
  have r4 : W4.heap[W3.heap.size]? = some (.cells (lab z20 xN) 34 (0, 0)) := by rw [hW4]; exact setRow_heap _ _ _ _ _ _ (heap_alloc_new _ _)
  have r4' : W4.heap[w.heap.size]? = some (.cells (lab z20 xN) 34 (0, 0)) := by rw [hW4]; exact (setRow_other _ _ _ _ (by omega)).trans ((heap_alloc_old _ _ (h := z3)).trans R3)
  have bel4 : Below w.heap.size w W4 := by rw [hW4]; exact below_setRow (bel3.alloc (by omega) _) (by omega) _
  rw [← hW4] at s3
  have l4 := run_loadR25 W4 W3.heap.size z20 xN r4 rfl
  have l4' := run_loadR25 W4 w.heap.size z20 xN r4' rfl
  have heq : (eqR (.agg (lab z20 xN)) (.agg (lab z20 xN))).run Tryd.prog W4 = .ok true W4 := by
    have := run_eqR W4 z20 z20 xN xN rfl rfl
    rw [decide_eq_true ⟨rfl, rfl⟩] at this
    exact this
  have hlit : (litX.toList == ([47, 103, 114, 97, 102, 116, 47, 115, 116, 111, 114, 101, 47, 48, 48, 48, 48, 48, 48, 48, 48, 48, 48, 48, 48, 48, 48, 48, 48, 48, 48, 48, 48, 48, 48, 48, 48, 48, 48, 48, 48, 48, 48, 48, 48, 45, 120] : List UInt8)) = true := by decide +kernel
  clear hW4 r4 r4' R3 b3
  go_wp2_with fail
  go_ret
  exact ⟨rfl, bel4⟩
end Go.Proofs.YtlkbhgjmppcfoaaDoor
