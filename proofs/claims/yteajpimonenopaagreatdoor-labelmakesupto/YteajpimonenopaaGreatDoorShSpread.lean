import Derived.Test.YteajpimonenopaaGreatDoorShWords
import Derived.Deep.RegionHeld3
import Derived.BigRegion
namespace Go.Proofs.YteajpimonenopaaGreatDoor.Sha
open Go.RowKit
def z64 : List Nat := List.replicate 64 0
theorem cell_off {w : World} {g i o : Nat} {v x : Value} (h : w.cell? ⟨g, o, none⟩ = some x) (hne : i ≠ o) : (w.setCell ⟨g, i, none⟩ v).drew.drew.cell? ⟨g, o, none⟩ = some x :=
  (World.cell?_setCell_other w ⟨g, i, none⟩ ⟨g, o, none⟩ v (fun e => hne (congrArg Addr.off e))).trans h
theorem add_int (u v : Nat) : ((u : Int) + (v : Int)) % 4294967296 = ((add u v : Nat) : Int) := by unfold add; omega
theorem sg_int (a i j : Nat) (la : a < 4294967296) (d : Nat) (D : Int) (hD : D = (d : Int)) : bits BinOp.xor IntKind.u32 (bits BinOp.xor IntKind.u32 ((ror a i : Nat) : Int) ((ror a j : Nat) : Int)) ((a : Int) / D) = ((sg a i j d : Nat) : Int) := by
  subst hD
  rw [← Int.natCast_ediv, u32_xor_nat _ _ (ror_lt _ _ la) (ror_lt _ _ la), u32_xor_nat _ _ (xor_lt (ror_lt _ _ la) (ror_lt _ _ la)) (Nat.lt_of_le_of_lt (Nat.div_le_self _ _) la)]
  rfl
theorem byt_get {l : List Nat} (hl : Byt l) (i : Nat) : l.getD i 0 < 256 := by
  by_cases hi : i < l.length
  · have : l.getD i 0 = l[i] := by simp [List.getD, hi]
    rw [this]; exact hl _ (List.getElem_mem hi)
  · simp [List.getD, hi]
set_option maxHeartbeats 1000000 in
theorem spread_any (blk : List Nat) (hb : Byt blk) (b off cap : Nat) (hcap : 64 ≤ cap) (hmax : cap ≤ maxLen) (w : World) (hlt : b < w.heap.size) (hc : Hid (∀ j, j < 64 → w.cell? ⟨b, off + j, none⟩ = some (.int .u8 ((blk.getD j 0 : Nat) : Int)))) :
    Calls Tryz.prog 64 #[.slice (some ⟨b, off, none⟩) 64 cap] w fun e w' => e = .returned (.agg (ws (sched blk))) ∧ Below w.heap.size w w' := by
  unfold maxLen at hmax
  go_enter Tryz.func64, Tryz.ntmps64
  go_wp2
  go_loopw [9] (fun i wr => ∃ k : Nat, k ≤ 16 ∧ i = .int .i64 k ∧ Hid (wr.heap[w.heap.size + 1]? = some (.cells (ws (w16 blk k)) 56 (0, 0))) ∧ Hid (wr.heap[w.heap.size]? = some (.cells (ws z64) 56 (0, 0))) ∧ Below w.heap.size w wr) (fun i _ => 16 - (intOf i).toNat)
  case atStart =>
    refine ⟨0, by omega, rfl, ?_, ?_, ?_⟩
    · exact heap_alloc2_new _ _ _
    · exact heap_alloc2_old _ _ _
    · exact ((Below.refl _ _).alloc (Nat.le_refl _) _).alloc (by simp) _
  case round =>
    obtain ⟨k, hk, rfl, HW, HZ, hbl⟩ := hrel
    by_cases hlt16 : k < 16
    · have hk1 : (k : Int) < 16 := by omega
      have hk0 : (0 : Int) ≤ (k : Int) := by omega
      obtain ⟨x0, hx0⟩ : ∃ x, x = blk.getD (4 * k) 0 := ⟨_, rfl⟩
      obtain ⟨x1, hx1⟩ : ∃ x, x = blk.getD (4 * k + 1) 0 := ⟨_, rfl⟩
      obtain ⟨x2, hx2⟩ : ∃ x, x = blk.getD (4 * k + 2) 0 := ⟨_, rfl⟩
      obtain ⟨x3, hx3⟩ : ∃ x, x = blk.getD (4 * k + 3) 0 := ⟨_, rfl⟩
      have X0 : Hid (x0 = blk.getD (4 * k) 0) := hx0
      have X1 : Hid (x1 = blk.getD (4 * k + 1) 0) := hx1
      have X2 : Hid (x2 = blk.getD (4 * k + 2) 0) := hx2
      have X3 : Hid (x3 = blk.getD (4 * k + 3) 0) := hx3
      clear hx0 hx1 hx2 hx3
      have cell : ∀ j, j < 64 → wr.cell? ⟨b, off + j, none⟩ = some (.int .u8 ((blk.getD j 0 : Nat) : Int)) := fun j hj => (hbl.cell (by exact hlt)).trans (hc.out j hj)
      have c0 : wr.cell? ⟨b, off + 4 * k, none⟩ = some (.int .u8 (x0 : Int)) := by rw [X0.out]; exact cell _ (by omega)
      have c1 : wr.cell? ⟨b, off + 4 * k + 1, none⟩ = some (.int .u8 (x1 : Int)) := by rw [X1.out, Nat.add_assoc]; exact cell _ (by omega)
      have c2 : wr.cell? ⟨b, off + 4 * k + 2, none⟩ = some (.int .u8 (x2 : Int)) := by rw [X2.out, Nat.add_assoc]; exact cell _ (by omega)
      have c3 : wr.cell? ⟨b, off + 4 * k + 3, none⟩ = some (.int .u8 (x3 : Int)) := by rw [X3.out, Nat.add_assoc]; exact cell _ (by omega)
      have cw : wr.cell? ⟨w.heap.size + 1, k, none⟩ = some (.int .u32 (((w16 blk k).getD k 0 : Nat) : Int)) := by
        rw [cell_of_row wr _ _ _ _ _ HW.out, ws_get _ _ (by rw [w16_len]; omega)]
      have fw := frozen_of_row wr _ k _ _ HW.out
      have l0 : x0 < 256 := by rw [X0.out]; exact byt_get hb _
      have l1 : x1 < 256 := by rw [X1.out]; exact byt_get hb _
      have l2 : x2 < 256 := by rw [X2.out]; exact byt_get hb _
      have l3 : x3 < 256 := by rw [X3.out]; exact byt_get hb _
      have hne : b ≠ w.heap.size + 1 := by omega
      clear cell
      go_wp2_with fail
      rw [show 4 * k + 4 - 4 * k = 4 by omega]
      go_region
      go_wp2
      go_roundw
      case rel =>
        have ev : bits BinOp.or IntKind.u32 (bits BinOp.or IntKind.u32 (bits BinOp.or IntKind.u32 ((x0 : Int) * 16777216) ((x1 : Int) * 65536)) ((x2 : Int) * 256)) (x3 : Int) = ((word blk k : Nat) : Int) := by
          rw [show ((x0 : Int) * 16777216) = ((x0 * 16777216 : Nat) : Int) by omega, show ((x1 : Int) * 65536) = ((x1 * 65536 : Nat) : Int) by omega, show ((x2 : Int) * 256) = ((x2 * 256 : Nat) : Int) by omega]
          have b1 : x0 * 16777216 ||| x1 * 65536 < 4294967296 := Nat.or_lt_two_pow (n := 32) (by omega) (by omega)
          have b2 : x0 * 16777216 ||| x1 * 65536 ||| x2 * 256 < 4294967296 := Nat.or_lt_two_pow (n := 32) b1 (by omega)
          rw [u32_or_nat _ _ (by omega) (by omega), u32_or_nat _ _ b1 (by omega), u32_or_nat _ _ b2 (by omega)]
          unfold word
          rw [X0.out, X1.out, X2.out, X3.out]
        rw [ev]
        refine ⟨k + 1, by omega, by go_num, ?_, ?_, ?_⟩
        · exact (heap_setCell_same _ _ _ _ _ _ HW.out).trans (by rw [ws_set, w16])
        · exact (heap_setCell_other _ _ _ _ (by simp)).trans HZ.out
        · exact (hbl.setCell (by simp) _).drew
      case measure => simp [intOf]; omega
    · have hk16 : k = 16 := by omega
      have HW2 : Hid (wr.heap[w.heap.size + 1]? = some (.cells (ws (w64 blk 0)) 56 (0, 0))) := by rw [hk16] at HW; exact HW
      clear hk16 HW
      go_wp2
      go_loopw [6] (fun i wr => ∃ (n : Nat) (l : List Nat), n ≤ 48 ∧ i = .int .i64 ((16 + n : Nat) : Int) ∧ Hid (l = w64 blk n) ∧ Hid (wr.heap[w.heap.size + 1]? = some (.cells (ws l) 56 (0, 0))) ∧ Hid (wr.heap[w.heap.size]? = some (.cells (ws z64) 56 (0, 0))) ∧ Below w.heap.size w wr) (fun i _ => 64 - (intOf i).toNat)
      case atStart => exact ⟨0, _, by omega, rfl, rfl, HW2, HZ, hbl⟩
      case round =>
        clear HW2 HZ hbl
        obtain ⟨n, l, hn, rfl, Hl, HW, HZ, hbl⟩ := hrel
        obtain ⟨t, ht⟩ : ∃ t, t = 16 + n := ⟨_, rfl⟩
        rw [← ht]
        have ht16 : 16 ≤ t := by omega
        have ht64 : t ≤ 64 := by omega
        have HT : Hid (t = 16 + n) := ht
        clear ht
        by_cases hlt64 : t < 64
        · have hll : l.length = 64 := by rw [Hl.out, w64_len]
          have hwl : Wrd l := by rw [Hl.out]; exact w64_wrd blk hb n
          obtain ⟨a, ha⟩ : ∃ x, x = l.getD (t - 15) 0 := ⟨_, rfl⟩
          obtain ⟨c, hcc⟩ : ∃ x, x = l.getD (t - 2) 0 := ⟨_, rfl⟩
          obtain ⟨x, hx⟩ : ∃ x, x = l.getD (t - 16) 0 := ⟨_, rfl⟩
          obtain ⟨y, hy⟩ : ∃ x, x = l.getD (t - 7) 0 := ⟨_, rfl⟩
          have cr : ∀ j, j < 64 → wr.cell? ⟨w.heap.size + 1, j, none⟩ = some (.int .u32 ((l.getD j 0 : Nat) : Int)) := fun j hj => by
            rw [cell_of_row wr _ _ _ _ _ HW.out, ws_get _ _ (by omega)]
          have ca : wr.cell? ⟨w.heap.size + 1, t - 15, none⟩ = some (.int .u32 (a : Int)) := by rw [ha]; exact cr _ (by omega)
          have cc : wr.cell? ⟨w.heap.size + 1, t - 2, none⟩ = some (.int .u32 (c : Int)) := by rw [hcc]; exact cr _ (by omega)
          have cx : wr.cell? ⟨w.heap.size + 1, t - 16, none⟩ = some (.int .u32 (x : Int)) := by rw [hx]; exact cr _ (by omega)
          have cy : wr.cell? ⟨w.heap.size + 1, t - 7, none⟩ = some (.int .u32 (y : Int)) := by rw [hy]; exact cr _ (by omega)
          have ct : wr.cell? ⟨w.heap.size + 1, t, none⟩ = some (.int .u32 ((l.getD t 0 : Nat) : Int)) := cr _ hlt64
          have ft := frozen_of_row wr _ t _ _ HW.out
          have la : a < 4294967296 := by rw [ha]; exact wrd_get hwl _
          have lc : c < 4294967296 := by rw [hcc]; exact wrd_get hwl _
          have lx : x < 4294967296 := by rw [hx]; exact wrd_get hwl _
          have ly : y < 4294967296 := by rw [hy]; exact wrd_get hwl _
          have HN : Hid (nextw l t = add (add (add x (sg a 7 18 8)) y) (sg c 17 19 1024)) := by unfold nextw; rw [ha, hcc, hx, hy]; rfl
          have hi1 : (t : Int) < 64 := by omega
          have hi2 : (16 : Int) ≤ (t : Int) := by omega
          clear cr ha hcc hx hy
          go_wp2
          go_region
          go_wp2
          have g1 : IntKind.i64.wrap ((t : Int) - 16) = (t : Int) - 16 := by simp [IntKind.wrap, IntKind.bits, IntKind.signed]; omega
          have g2 : IntKind.i64.wrap ((t : Int) - 7) = (t : Int) - 7 := by simp [IntKind.wrap, IntKind.bits, IntKind.signed]; omega
          have g3 : (0 : Int) ≤ (t : Int) - 16 := by omega
          have g4 : (0 : Int) ≤ (t : Int) - 7 := by omega
          have g5 : (t : Int) - 16 < 64 := by omega
          have g6 : (t : Int) - 7 < 64 := by omega
          have g7 : ((t : Int) - 16).toNat = t - 16 := by omega
          have g8 : ((t : Int) - 7).toNat = t - 7 := by omega
          have g9 : (0 : Int) ≤ (t : Int) := by omega
          have ne16 : t ≠ t - 16 := by omega
          have ne7 : t ≠ t - 7 := by omega
          have g10 : (7 : Int) ≤ (t : Int) := by omega
          have g11 : (t : Int) < 71 := by omega
          have g12 : (t : Int) < 80 := by omega
          go_region_held3 (fun w' => w'.cell? ⟨w.heap.size + 1, t - 16, none⟩ = some (.int .u32 (x : Int)) ∧ w'.cell? ⟨w.heap.size + 1, t - 7, none⟩ = some (.int .u32 (y : Int))) (first | exact ⟨cell_off cx ne16, cell_off cy ne7⟩ | go_keep)
            (first
              | (go_at_call_of 73 (Value.int IntKind.i64 7); refine (right_any a 7 la (by decide) (by decide) _).mono ?_; rintro e w' ⟨rfl, rfl⟩)
              | (go_at_call_of 73 (Value.int IntKind.i64 18); refine (right_any a 18 la (by decide) (by decide) _).mono ?_; rintro e w' ⟨rfl, rfl⟩)
              | (go_at_call_of 73 (Value.int IntKind.i64 17); refine (right_any c 17 lc (by decide) (by decide) _).mono ?_; rintro e w' ⟨rfl, rfl⟩)
              | (go_at_call_of 73 (Value.int IntKind.i64 19); refine (right_any c 19 lc (by decide) (by decide) _).mono ?_; rintro e w' ⟨rfl, rfl⟩))
          go_wp2
          go_roundw
          case rel =>
            rw [sg_int a 7 18 la 8 8 rfl, sg_int c 17 19 lc 1024 1024 rfl, add_int, add_int, add_int, ← HN.out]
            refine ⟨n + 1, l.set t (nextw l t), by have := HT.out; omega, by rw [HT.out]; go_num, ?_, ?_, ?_, ?_⟩
            · show _ = _
              rw [w64, ← Hl.out, HT.out]
            · exact (heap_setCell_same _ _ _ _ _ _ HW.out).trans (by rw [ws_set])
            · exact (heap_setCell_other _ _ _ _ (by simp)).trans HZ.out
            · exact (hbl.setCell (by simp) _).drew.drew
          case measure => simp [intOf]; omega
        · have hn48 : n = 48 := by have := HT.out; omega
          have hsch : Hid (l = sched blk) := by show _ = _; rw [Hl.out, hn48]; rfl
          have hll : l.length = 64 := by rw [Hl.out, w64_len]
          clear hn48 Hl
          go_wp2_with (first | refine wpList_load_row rfl 56 _ rfl _ rfl 56 _ (0, 0) _ (by exact HW.out) Tryz.underlying56 rfl (by rw [size48, ws_size, hll]) ?_ | refine wpList_store_row rfl 56 _ _ rfl _ _ rfl rfl 56 _ (by exact HZ.out) (by rw [size48, ws_size, hll]) (by rw [ws_size, ws_size, hll]; rfl) (ws_one _) ?_)
          have hres : (wr.setRow w.heap.size (ws l)).heap[w.heap.size]? = some (.cells (ws l) 56 (0, 0)) := setRow_heap _ _ _ _ _ _ HZ.out
          refine bodyPost_ret (v := .agg (ws l)) (results_cell_row rfl _ _ w.heap.size 56 _ (0, 0) _ rfl hres Tryz.underlying56 rfl (by rw [size48, ws_size, hll])) rfl ⟨?_, ?_⟩
          · rw [hsch.out]
          · exact below_setRow hbl (Nat.le_refl _) _
end Go.Proofs.YteajpimonenopaaGreatDoor.Sha
