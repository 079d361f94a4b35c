/- The document's own HMAC, whole; the code's, over the tables. -/
import Derived.Test.YtkppejaigodgiacDoorMacT
namespace Go.Proofs.YtkppejaigodgiacDoor.Sha
open Go.RowKit
noncomputable def mac (key d : List Nat) : List Nat := macN roundN startN key d
theorem mac_len (key d : List Nat) : (mac key d).length = 32 := macN_len _ _ _ _
theorem macC_tb (key d : List Nat) (kv dv : Value) (hkb : Byt key) (hdb : Byt d) (hkl : key.length ≤ 140737488351232) (hdl : d.length ≤ 140737488351232) (w : World) (ht : Tb w) (hk : YtkppejaigodgiacDoor.Byl kv key w) (hd : YtkppejaigodgiacDoor.Byl dv d w) :
    Calls Tryd.prog 6 #[kv, dv] w fun e w' => e = .returned (.agg (bs (mac key d))) ∧ Below w.heap.size w w' :=
  mac_any roundN startN mixOK rfl startN_wrd key d kv dv hkb hdb (by omega) (by omega) w ht.sz hk hd ht.s ht.k
/-- The first k bytes of X in a block of 64. -/
def blkk (X : List Nat) (k : Nat) : List Nat := X.take k ++ List.replicate (64 - k) 0
theorem blkk_set (X : List Nat) (k : Nat) (h : k < X.length) (hk : k < 64) : (blkk X k).set k (X.getD k 0) = blkk X (k + 1) := by
  unfold blkk
  have hl : (X.take k).length = k := by rw [List.length_take]; omega
  rw [List.set_append_right _ _ (by omega), hl, Nat.sub_self, show 64 - k = (64 - (k + 1)) + 1 by omega, List.replicate_succ, List.set_cons_zero, take_1 X k h]
  simp
theorem blkk_len (X : List Nat) (k : Nat) (h : k ≤ X.length) (hk : k ≤ 64) : (blkk X k).length = 64 := by
  unfold blkk
  simp; omega
set_option maxRecDepth 100000 in
set_option maxHeartbeats 1600000 in
theorem macR_tb (key d : List Nat) (kv dv : Value) (hkb : Byt key) (hdb : Byt d) (hkl : key.length ≤ 140737488351232) (hdl : d.length ≤ 140737488351232) (w : World) (ht : Tr w) (h3 : 3 < w.heap.size) (hk : YtkppejaigodgiacDoor.Byl kv key w) (hd : YtkppejaigodgiacDoor.Byl dv d w) :
    Calls Tryd.prog 7 #[kv, dv] w fun e w' => e = .returned (.agg (bs (mac key d))) ∧ Below w.heap.size w w' := by
  obtain ⟨ko, kc, rfl, _, _, kcell⟩ := hk.form
  obtain ⟨dO, dc, rfl, _, _, _⟩ := hd.form
  have HK : Hid (YtkppejaigodgiacDoor.Byl (.slice ko key.length kc) key w) := hk
  have HD : Hid (YtkppejaigodgiacDoor.Byl (.slice dO d.length dc) d w) := hd
  have HT : Hid (Tr w) := ht
  clear hk hd ht
  have kbl := keyB_len roundN startN key
  have kbb := keyB_byt roundN startN key hkb
  by_cases hlong : 64 < key.length
  · have hlong' : (64 : Int) < (key.length : Int) := by omega
    have hKB : Hid (keyB roundN startN key = blkk (sha key) 32) := by
      show _ = _
      unfold keyB blkk
      rw [if_pos hlong, List.take_of_length_le (by rw [sha_len]; omega)]
      show sha key ++ List.replicate (64 - (sha key).length) 0 = _
      rw [sha_len]
    obtain ⟨S, hS⟩ : ∃ S, S = sha key := ⟨_, rfl⟩
    have hSl : S.length = 32 := by rw [hS]; exact sha_len _
    rw [← hS] at hKB
    go_enter Tryd.func7, Tryd.ntmps7
    go_wp2_with fail
    generalize hW : World.alloc (World.alloc w _) _ = W0
    have b0 : Below w.heap.size w W0 := by rw [← hW]; exact ((Below.refl _ w).alloc (Nat.le_refl _) _).alloc (by simp) _
    have r0 : Hid (W0.heap[w.heap.size]? = some (.cells (bs z32) 25 (0, 0))) := by rw [← hW]; exact heap_alloc2_old _ _ _
    have r1 : Hid (W0.heap[w.heap.size + 1]? = some (.cells (bs (blkk S 0)) 43 (0, 0))) := by rw [← hW]; exact heap_alloc2_new _ _ _
    have s0 : Hid (W0.heap.size = w.heap.size + 2) := by rw [← hW]; show _ = _; simp
    clear hW
    refine (ofR_tb key _ (by omega) hkb W0 (HT.out.below b0 h3) (HK.out.below b0)).mono ?_
    rw [← hS]
    rintro e W1 ⟨rfl, b1⟩
    have b1' : Below w.heap.size w W1 := b0.trans (b1.mono (by have := s0.out; omega))
    have r0' : Hid (W1.heap[w.heap.size]? = some (.cells (bs z32) 25 (0, 0))) := (b1.block _ (by have := s0.out; omega)).trans r0.out
    have r1' : Hid (W1.heap[w.heap.size + 1]? = some (.cells (bs (blkk S 0)) 43 (0, 0))) := (b1.block _ (by have := s0.out; omega)).trans r1.out
    have s1 : Hid (w.heap.size + 2 ≤ W1.heap.size) := by have := s0.out; have := b1.size; show _ ≤ _; omega
    clear b0 b1 r0 r1 s0 hS
    go_wp2_with (refine wpList_store_row rfl 25 _ _ rfl _ _ rfl rfl 25 _ (by exact heap_alloc_new _ _) (by rw [size24', bs_size, hSl]) (by rw [bs_size, hSl]; rfl) (bs_one _) ?_)
    generalize hW2 : (W1.alloc (Obj.cells _ 25)).setRow W1.heap.size (bs S) = W2
    have r2 : Hid (W2.heap[W1.heap.size]? = some (.cells (bs S) 25 (0, 0))) := by rw [← hW2]; exact setRow_heap _ _ _ _ _ _ (heap_alloc_new _ _)
    have b2 : Below W1.heap.size W1 W2 := by rw [← hW2]; exact below_setRow ((Below.refl _ W1).alloc (Nat.le_refl _) _) (Nat.le_refl _) _
    have e0 : Hid (W2.heap[w.heap.size]? = some (.cells (bs z32) 25 (0, 0))) := (b2.block _ (by have := s1.out; omega)).trans r0'.out
    have e1 : Hid (W2.heap[w.heap.size + 1]? = some (.cells (bs (blkk S 0)) 43 (0, 0))) := (b2.block _ (by have := s1.out; omega)).trans r1'.out
    have b2' : Below w.heap.size w W2 := b1'.trans (b2.mono (by have := s1.out; omega))
    have s2 : Hid (w.heap.size + 2 ≤ W1.heap.size) := s1
    obtain ⟨q, hq⟩ : ∃ q, q = W1.heap.size := ⟨_, rfl⟩
    rw [← hq] at r2 s2 ⊢
    clear hW2 b2 b1' r0' r1' hq s1
    go_wp2
    go_loopw [7] (fun i wr => ∃ (k : Nat) (l : List Nat), k ≤ 32 ∧ i = .int .i64 k ∧ Hid (l = blkk S k) ∧ Hid (wr.heap[w.heap.size + 1]? = some (.cells (bs l) 43 (0, 0))) ∧ Hid (∀ j, j ≠ w.heap.size + 1 → wr.heap[j]? = W2.heap[j]?) ∧ Below w.heap.size w wr) (fun i _ => 32 - (intOf i).toNat)
    case atStart => exact ⟨0, _, by omega, rfl, rfl, e1, fun _ _ => rfl, b2'⟩
    case round =>
      clear e1 b2'
      obtain ⟨k, l, hk, rfl, Hl, HW, HZ, hbl⟩ := hrel
      have hll : l.length = 64 := by rw [Hl.out]; exact blkk_len _ _ (by omega) (by omega)
      by_cases hlt : k < 32
      · have hk1 : (k : Int) < 32 := by omega
        have hk0 : (0 : Int) ≤ (k : Int) := by omega
        have hk64 : (k : Int) < 64 := by omega
        obtain ⟨x, hx⟩ : ∃ x, x = S.getD k 0 := ⟨_, rfl⟩
        have cx : wr.cell? ⟨q, k, none⟩ = some (.int .u8 (x : Int)) := by
          rw [cell_of_row wr _ _ _ _ _ ((HZ.out q (by have := s2.out; omega)).trans r2.out), bs_get _ _ (by omega), hx]
        have co : wr.cell? ⟨w.heap.size + 1, k, none⟩ = some (.int .u8 ((l.getD k 0 : Nat) : Int)) := by
          rw [cell_of_row wr _ _ _ _ _ HW.out, bs_get _ _ (by omega)]
        have fo := frozen_of_row wr _ k _ _ HW.out
        have HY : Hid (blkk S (k + 1) = l.set k x) := by show _ = _; rw [← blkk_set S k (by omega) (by omega), ← Hl.out, hx]
        clear hx
        go_wp2
        go_roundw
        case rel =>
          refine ⟨k + 1, l.set k x, by omega, by go_num, HY.out.symm, ?_, ?_, ?_⟩
          · exact (heap_setCell_same _ _ _ _ _ _ HW.out).trans (by rw [bs_set])
          · exact fun j hj => (heap_setCell_other _ _ _ _ hj).trans (HZ.out j hj)
          · exact hbl.setCell (by simp <;> omega) _
        case measure => simp [intOf]; omega
      · have hk32 : k = 32 := by omega
        subst hk32
        have f0 : Hid (wr.heap[w.heap.size]? = some (.cells (bs z32) 25 (0, 0))) := (HZ.out _ (by omega)).trans e0.out
        have f1 : Hid (wr.heap[w.heap.size + 1]? = some (.cells (bs (keyB roundN startN key)) 43 (0, 0))) := by rw [hKB.out, ← Hl.out]; exact HW
        have hsz : w.heap.size + 1 < wr.heap.size := (Array.getElem?_eq_some_iff.1 f1.out).1
        have hk32' : ¬ ((32 : Nat) : Int) < 32 := by omega
        have D' : Hid (YtkppejaigodgiacDoor.Byl (.slice dO d.length dc) d wr) := HD.out.below hbl
        have T' : Hid (Tr wr) := HT.out.below hbl h3
        clear HZ Hl hll HW kcell
        rename_i K hKK
        have HTT : Hid (∀ a w, Code.wp Tryd.prog tail7 _ a w → K a w) := hKK
        clear hKK
        go_wp2
        refine HTT.out _ _ ?_
        refine tailM (keyB roundN startN key) d kbl kbb hdb hdl w.heap.size dO dc _ _ _ _ _ _ _ _ _ _ _ _ _ _ _ _ _ _ _ _ _ _ _ _ _ _ _ _ _ _ _ _ _ _ _ _ _ _ _ _ _ _ _ _ _ _ _ _ _ _ _ _ _ _ _ _ _ _ _ _ _ _ _ _ _ _ _ _ _ _ _ wr hsz h3 f0 f1 D' T' _ ?_
        intro w' hb'
        exact ⟨rfl, hbl.trans hb'⟩
  · have hlong' : ¬ (64 : Int) < (key.length : Int) := by omega
    have hKB : Hid (keyB roundN startN key = blkk key key.length) := by
      show _ = _
      unfold keyB blkk
      rw [if_neg hlong, List.take_of_length_le (Nat.le_refl _)]
    have hkl64 : key.length ≤ 64 := by omega
    go_enter Tryd.func7, Tryd.ntmps7
    go_wp2_with fail
    generalize hW : World.alloc (World.alloc w _) _ = W2
    have b2' : Below w.heap.size w W2 := by rw [← hW]; exact ((Below.refl _ w).alloc (Nat.le_refl _) _).alloc (by simp) _
    have e0 : Hid (W2.heap[w.heap.size]? = some (.cells (bs z32) 25 (0, 0))) := by rw [← hW]; exact heap_alloc2_old _ _ _
    have e1 : Hid (W2.heap[w.heap.size + 1]? = some (.cells (bs (blkk key 0)) 43 (0, 0))) := by rw [← hW]; exact heap_alloc2_new _ _ _
    clear hW
    go_loopw [8] (fun i wr => ∃ (k : Nat) (l : List Nat), k ≤ key.length ∧ i = .int .i64 k ∧ Hid (l = blkk key k) ∧ Hid (wr.heap[w.heap.size + 1]? = some (.cells (bs l) 43 (0, 0))) ∧ Hid (∀ j, j ≠ w.heap.size + 1 → wr.heap[j]? = W2.heap[j]?) ∧ Below w.heap.size w wr) (fun i _ => key.length - (intOf i).toNat)
    case atStart => exact ⟨0, _, by omega, rfl, rfl, e1, fun _ _ => rfl, b2'⟩
    case round =>
      clear e1 b2'
      obtain ⟨k, l, hk, rfl, Hl, HW, HZ, hbl⟩ := hrel
      have hll : l.length = 64 := by rw [Hl.out]; exact blkk_len _ _ (by omega) (by omega)
      by_cases hlt : k < key.length
      · obtain ⟨kb1, ko1, rfl, hkb1, hkc⟩ := kcell (by omega)
        have hk1 : (k : Int) < (key.length : Int) := by omega
        have hk0 : (0 : Int) ≤ (k : Int) := by omega
        have hk64 : (k : Int) < 64 := by omega
        obtain ⟨x, hx⟩ : ∃ x, x = key.getD k 0 := ⟨_, rfl⟩
        have cx : wr.cell? ⟨kb1, ko1 + k, none⟩ = some (.int .u8 (x : Int)) := by
          rw [hx]; exact (World.cell?_of_block (w := w) (hbl.block kb1 hkb1)).trans (hkc k hlt)
        have co : wr.cell? ⟨w.heap.size + 1, k, none⟩ = some (.int .u8 ((l.getD k 0 : Nat) : Int)) := by
          rw [cell_of_row wr _ _ _ _ _ HW.out, bs_get _ _ (by omega)]
        have fo := frozen_of_row wr _ k _ _ HW.out
        have HY : Hid (blkk key (k + 1) = l.set k x) := by show _ = _; rw [← blkk_set key k (by omega) (by omega), ← Hl.out, hx]
        clear hx
        go_wp2
        go_roundw
        case rel =>
          refine ⟨k + 1, l.set k x, by omega, by go_num, HY.out.symm, ?_, ?_, ?_⟩
          · exact (heap_setCell_same _ _ _ _ _ _ HW.out).trans (by rw [bs_set])
          · exact fun j hj => (heap_setCell_other _ _ _ _ hj).trans (HZ.out j hj)
          · exact hbl.setCell (by simp <;> omega) _
        case measure => simp [intOf]; omega
      · have hkk : k = key.length := by omega
        subst hkk
        have f0 : Hid (wr.heap[w.heap.size]? = some (.cells (bs z32) 25 (0, 0))) := (HZ.out _ (by omega)).trans e0.out
        have f1 : Hid (wr.heap[w.heap.size + 1]? = some (.cells (bs (keyB roundN startN key)) 43 (0, 0))) := by rw [hKB.out, ← Hl.out]; exact HW
        have hsz : w.heap.size + 1 < wr.heap.size := (Array.getElem?_eq_some_iff.1 f1.out).1
        have D' : Hid (YtkppejaigodgiacDoor.Byl (.slice dO d.length dc) d wr) := HD.out.below hbl
        have T' : Hid (Tr wr) := HT.out.below hbl h3
        clear HZ Hl hll HW kcell
        rename_i K hKK
        have HTT : Hid (∀ a w, Code.wp Tryd.prog tail7 _ a w → K a w) := hKK
        clear hKK
        go_wp2
        refine HTT.out _ _ ?_
        refine tailM (keyB roundN startN key) d kbl kbb hdb hdl w.heap.size dO dc _ _ _ _ _ _ _ _ _ _ _ _ _ _ _ _ _ _ _ _ _ _ _ _ _ _ _ _ _ _ _ _ _ _ _ _ _ _ _ _ _ _ _ _ _ _ _ _ _ _ _ _ _ _ _ _ _ _ _ _ _ _ _ _ _ _ _ _ _ _ _ wr hsz h3 f0 f1 D' T' _ ?_
        intro w' hb'
        exact ⟨rfl, hbl.trans hb'⟩
end Go.Proofs.YtkppejaigodgiacDoor.Sha
