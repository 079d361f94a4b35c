/- The readers' tables, the first unknown digit, a digit's value. -/
import Derived.Test.YtffghlbgbfhfdaaDoorHxM
import Derived.Test.YtffghlbgbfhfdaaDoorSl
import Derived.Laws.CopyOwn
import Derived.BigRegion
namespace Go.Proofs.YtffghlbgbfhfdaaDoor.Hx
open Go.RowKit
def byt (s : ByteArray) (i : Nat) : Nat := (s.get! i).toNat
theorem byt_lt (s : ByteArray) (i : Nat) : byt s i < 256 := (s.get! i).toNat_lt
theorem byt_at (s : ByteArray) (i : Nat) (h : i < s.size) : (s[i]'h).toNat = byt s i := by
  rw [byt, ← get_at s i h]; rfl
theorem idx9 (w : World) (s : ByteArray) (k : Nat) (h : k < s.size) : (Instr.index 9 (.string s) (.int .i64 (k : Int))).run Tryd.prog w = .ok (.int .u8 ((byt s k : Nat) : Int)) w := by
  rw [run_index_string _ _ _ _ _ Tryd.underlying9, dif_pos ⟨by omega, by omega⟩]
  simp [byt_at s k h]
/-- A text as a list of bytes. -/
def tl (s : ByteArray) : List Nat := (List.range s.size).map (byt s)
theorem tl_len (s : ByteArray) : (tl s).length = s.size := by simp [tl]
theorem tl_get (s : ByteArray) (i : Nat) (h : i < s.size) : (tl s).getD i 0 = byt s i := by simp [tl, List.getD, h]
theorem size60 : (Tryd.prog.info? 82).map (·.size) = some 256 := by kernel_rfl
/-- Which digit a byte is, counted from 1, of the first m; 0: none. -/
def kn (D : List Nat) (m c : Nat) : Nat := if D.idxOf c < m then D.idxOf c + 1 else 0
def KT (D : List Nat) (m : Nat) : List Nat := (List.range 256).map (kn D m)
theorem KT_len (D : List Nat) (m : Nat) : (KT D m).length = 256 := by simp [KT]
theorem KT_get (D : List Nat) (m c : Nat) (h : c < 256) : (KT D m).getD c 0 = kn D m c := by simp [KT, List.getD, h]
def Z256 : List Nat := List.replicate 256 0
theorem Z256_len : Z256.length = 256 := by decide +kernel
theorem zc60 : Tryd.zeroCells82 = bs Z256 := by kernel_rfl
/-- The table lies at g. -/
def Kn (D : List Nat) (g : Nat) (w : World) : Prop := w.heap[g]? = some (.cells (bs (KT D D.length)) 82 (0, 0))
theorem KT16_zero : KT D16 0 = Z256 := by decide +kernel
theorem KT16_step : ∀ k : Fin 16, (KT D16 k.val).set (g16 k.val) (k.val + 1) = KT D16 (k.val + 1) := by decide +kernel
theorem g16_lt : ∀ k : Fin 16, g16 k.val < 256 := by decide +kernel
set_option maxRecDepth 100000 in
set_option maxHeartbeats 1000000 in
theorem known16_any (w : World) (ht : Tx w) : Calls Tryd.prog 36 #[] w fun e w' => e = .returned (.agg (bs (KT D16 16))) ∧ Below w.heap.size w w' := by
  have hsz := ht.sz
  have hlt0 : 0 < w.heap.size := by omega
  go_enter Tryd.func36, Tryd.ntmps36
  go_wp2_with fail
  rw [zc60]
  generalize hW : (w.alloc (Obj.cells (bs Z256) 82)).alloc (Obj.cells (bs Z256) 82) = W2
  have r0 : Hid (W2.heap[w.heap.size]? = some (.cells (bs Z256) 82 (0, 0))) := by rw [← hW]; exact (heap_alloc_old _ _ (h := by simp)).trans (heap_alloc_new _ _)
  have r1 : Hid (W2.heap[w.heap.size + 1]? = some (.cells (bs (KT D16 0)) 82 (0, 0))) := by
    rw [← hW, KT16_zero]
    have := heap_alloc_new (w.alloc (Obj.cells (bs Z256) 82)) (Obj.cells (bs Z256) 82)
    rw [show (w.alloc (Obj.cells (bs Z256) 82)).heap.size = w.heap.size + 1 by simp] at this
    exact this
  have bel2 : Below w.heap.size w W2 := by rw [← hW]; exact ((Below.refl _ w).alloc (Nat.le_refl _) _).alloc (by simp) _
  clear hW
  go_loopw [3] (fun i wr => ∃ k : Nat, i = .int .i64 (k : Int) ∧ k ≤ 16 ∧ Hid (wr.heap[w.heap.size]? = some (.cells (bs Z256) 82 (0, 0))) ∧ Hid (wr.heap[w.heap.size + 1]? = some (.cells (bs (KT D16 k)) 82 (0, 0))) ∧ Below w.heap.size w wr) (fun i _ => 16 - (intOf i).toNat)
  case atStart => exact ⟨0, rfl, by omega, r0, r1, bel2⟩
  case round =>
    clear r0 r1 bel2
    obtain ⟨k, rfl, hk, r0, r1, bel⟩ := hrel
    by_cases hlt : k < 16
    · have hk0 : (0 : Int) ≤ (k : Int) := by omega
      have hk1 : (k : Int) < 16 := by omega
      have cd := (ht.below bel hsz).a k hlt
      obtain ⟨c, hc⟩ : ∃ c, c = g16 k := ⟨_, rfl⟩
      have hc256 : c < 256 := by rw [hc]; exact g16_lt ⟨k, hlt⟩
      rw [← hc] at cd
      have hc0 : (0 : Int) ≤ (c : Int) := by omega
      have hc1 : (c : Int) < 256 := by omega
      have hkW : IntKind.u8.wrap (k : Int) = (k : Int) := wraps_u8 _ (by omega) (by omega)
      have hkW1 : IntKind.u8.wrap ((k : Int) + 1) = (k : Int) + 1 := wraps_u8 _ (by omega) (by omega)
      have cc : wr.cell? ⟨w.heap.size + 1, c, none⟩ = some (.int .u8 (((KT D16 k).getD c 0 : Nat) : Int)) := by rw [cell_of_row wr _ _ _ _ _ r1.out, bs_get _ _ (by rw [KT_len]; exact hc256)]
      have fz : wr.frozen? ⟨w.heap.size + 1, c, none⟩ = false := frozen_of_row wr _ _ _ _ r1.out
      have r1' : Hid ((wr.setCell ⟨w.heap.size + 1, c, none⟩ (.int .u8 ((k : Int) + 1))).heap[w.heap.size + 1]? = some (.cells (bs (KT D16 (k + 1))) 82 (0, 0))) := by
        show _ = _
        rw [show ((k : Int) + 1) = ((k + 1 : Nat) : Int) by omega]
        refine (heap_setCell_same _ _ _ _ _ _ r1.out).trans ?_
        rw [bs_set, hc, KT16_step ⟨k, hlt⟩]
      have r0' : Hid ((wr.setCell ⟨w.heap.size + 1, c, none⟩ (.int .u8 ((k : Int) + 1))).heap[w.heap.size]? = some (.cells (bs Z256) 82 (0, 0))) := (heap_setCell_other _ _ _ _ (by simp)).trans r0.out
      have bel' : Below w.heap.size w (wr.setCell ⟨w.heap.size + 1, c, none⟩ (.int .u8 ((k : Int) + 1))) := bel.setCell (by simp) _
      clear hc
      go_wp2
      go_roundw
      case rel => exact ⟨k + 1, by go_num, by omega, r0', r1', bel'⟩
      case measure => simp [intOf]; omega
    · have hk1 : ¬ ((k : Int) < 16) := by omega
      have hke : k = 16 := by omega
      subst hke
      go_wp2_with (first | refine wpList_load_row rfl 82 _ rfl _ rfl 82 _ (0, 0) _ (by exact r1.out) Tryd.underlying82 rfl (by rw [size60, bs_size, KT_len]) ?_ | refine wpList_store_row rfl 82 _ _ rfl _ _ rfl rfl 82 _ (by exact r0.out) (by rw [size60, bs_size, KT_len]) (by rw [bs_size, bs_size, Z256_len, KT_len]) (bs_one _) ?_)
      have hres : (wr.setRow w.heap.size (bs (KT D16 16))).heap[w.heap.size]? = some (.cells (bs (KT D16 16)) 82 (0, 0)) := setRow_heap _ _ _ _ _ _ r0.out
      refine bodyPost_ret (v := .agg (bs (KT D16 16))) (results_cell_row rfl _ _ w.heap.size 82 _ (0, 0) _ rfl hres Tryd.underlying82 rfl (by rw [size60, bs_size, KT_len])) rfl ⟨rfl, ?_⟩
      exact below_setRow bel (by omega) _
theorem KT32_zero : KT D32 0 = Z256 := by decide +kernel
theorem KT32_step : ∀ k : Fin 32, (KT D32 k.val).set (g32 k.val) (k.val + 1) = KT D32 (k.val + 1) := by decide +kernel
theorem g32_lt : ∀ k : Fin 32, g32 k.val < 256 := by decide +kernel
set_option maxRecDepth 100000 in
set_option maxHeartbeats 1000000 in
theorem known32_any (w : World) (ht : Tx w) : Calls Tryd.prog 93 #[] w fun e w' => e = .returned (.agg (bs (KT D32 32))) ∧ Below w.heap.size w w' := by
  have hsz := ht.sz
  have hlt0 : 1 < w.heap.size := by omega
  go_enter Tryd.func93, Tryd.ntmps93
  go_wp2_with fail
  rw [zc60]
  generalize hW : (w.alloc (Obj.cells (bs Z256) 82)).alloc (Obj.cells (bs Z256) 82) = W2
  have r0 : Hid (W2.heap[w.heap.size]? = some (.cells (bs Z256) 82 (0, 0))) := by rw [← hW]; exact (heap_alloc_old _ _ (h := by simp)).trans (heap_alloc_new _ _)
  have r1 : Hid (W2.heap[w.heap.size + 1]? = some (.cells (bs (KT D32 0)) 82 (0, 0))) := by
    rw [← hW, KT32_zero]
    have := heap_alloc_new (w.alloc (Obj.cells (bs Z256) 82)) (Obj.cells (bs Z256) 82)
    rw [show (w.alloc (Obj.cells (bs Z256) 82)).heap.size = w.heap.size + 1 by simp] at this
    exact this
  have bel2 : Below w.heap.size w W2 := by rw [← hW]; exact ((Below.refl _ w).alloc (Nat.le_refl _) _).alloc (by simp) _
  clear hW
  go_loopw [3] (fun i wr => ∃ k : Nat, i = .int .i64 (k : Int) ∧ k ≤ 32 ∧ Hid (wr.heap[w.heap.size]? = some (.cells (bs Z256) 82 (0, 0))) ∧ Hid (wr.heap[w.heap.size + 1]? = some (.cells (bs (KT D32 k)) 82 (0, 0))) ∧ Below w.heap.size w wr) (fun i _ => 32 - (intOf i).toNat)
  case atStart => exact ⟨0, rfl, by omega, r0, r1, bel2⟩
  case round =>
    clear r0 r1 bel2
    obtain ⟨k, rfl, hk, r0, r1, bel⟩ := hrel
    by_cases hlt : k < 32
    · have hk0 : (0 : Int) ≤ (k : Int) := by omega
      have hk1 : (k : Int) < 32 := by omega
      have cd := (ht.below bel hsz).b k hlt
      obtain ⟨c, hc⟩ : ∃ c, c = g32 k := ⟨_, rfl⟩
      have hc256 : c < 256 := by rw [hc]; exact g32_lt ⟨k, hlt⟩
      rw [← hc] at cd
      have hc0 : (0 : Int) ≤ (c : Int) := by omega
      have hc1 : (c : Int) < 256 := by omega
      have hkW : IntKind.u8.wrap (k : Int) = (k : Int) := wraps_u8 _ (by omega) (by omega)
      have hkW1 : IntKind.u8.wrap ((k : Int) + 1) = (k : Int) + 1 := wraps_u8 _ (by omega) (by omega)
      have cc : wr.cell? ⟨w.heap.size + 1, c, none⟩ = some (.int .u8 (((KT D32 k).getD c 0 : Nat) : Int)) := by rw [cell_of_row wr _ _ _ _ _ r1.out, bs_get _ _ (by rw [KT_len]; exact hc256)]
      have fz : wr.frozen? ⟨w.heap.size + 1, c, none⟩ = false := frozen_of_row wr _ _ _ _ r1.out
      have r1' : Hid ((wr.setCell ⟨w.heap.size + 1, c, none⟩ (.int .u8 ((k : Int) + 1))).heap[w.heap.size + 1]? = some (.cells (bs (KT D32 (k + 1))) 82 (0, 0))) := by
        show _ = _
        rw [show ((k : Int) + 1) = ((k + 1 : Nat) : Int) by omega]
        refine (heap_setCell_same _ _ _ _ _ _ r1.out).trans ?_
        rw [bs_set, hc, KT32_step ⟨k, hlt⟩]
      have r0' : Hid ((wr.setCell ⟨w.heap.size + 1, c, none⟩ (.int .u8 ((k : Int) + 1))).heap[w.heap.size]? = some (.cells (bs Z256) 82 (0, 0))) := (heap_setCell_other _ _ _ _ (by simp)).trans r0.out
      have bel' : Below w.heap.size w (wr.setCell ⟨w.heap.size + 1, c, none⟩ (.int .u8 ((k : Int) + 1))) := bel.setCell (by simp) _
      clear hc
      go_wp2
      go_roundw
      case rel => exact ⟨k + 1, by go_num, by omega, r0', r1', bel'⟩
      case measure => simp [intOf]; omega
    · have hk1 : ¬ ((k : Int) < 32) := by omega
      have hke : k = 32 := by omega
      subst hke
      go_wp2_with (first | refine wpList_load_row rfl 82 _ rfl _ rfl 82 _ (0, 0) _ (by exact r1.out) Tryd.underlying82 rfl (by rw [size60, bs_size, KT_len]) ?_ | refine wpList_store_row rfl 82 _ _ rfl _ _ rfl rfl 82 _ (by exact r0.out) (by rw [size60, bs_size, KT_len]) (by rw [bs_size, bs_size, Z256_len, KT_len]) (bs_one _) ?_)
      have hres : (wr.setRow w.heap.size (bs (KT D32 32))).heap[w.heap.size]? = some (.cells (bs (KT D32 32)) 82 (0, 0)) := setRow_heap _ _ _ _ _ _ r0.out
      refine bodyPost_ret (v := .agg (bs (KT D32 32))) (results_cell_row rfl _ _ w.heap.size 82 _ (0, 0) _ rfl hres Tryd.underlying82 rfl (by rw [size60, bs_size, KT_len])) rfl ⟨rfl, ?_⟩
      exact below_setRow bel (by omega) _
theorem KT64_zero : KT D64 0 = Z256 := by decide +kernel
theorem KT64_step : ∀ k : Fin 64, (KT D64 k.val).set (g64 k.val) (k.val + 1) = KT D64 (k.val + 1) := by decide +kernel
theorem g64_lt : ∀ k : Fin 64, g64 k.val < 256 := by decide +kernel
theorem value_any (D : List Nat) (hD : D.length ≤ 64) (g c : Nat) (hc : c < 256) (hv : D.idxOf c < D.length) (w : World) (hr : Hid (Kn D g w)) :
    Calls Tryd.prog 38 #[.pointer (some ⟨g, 0, none⟩), .int .u8 (c : Int)] w fun e w' => e = .returned (.int .u8 ((kv D c : Nat) : Int)) ∧ w' = w := by
  obtain ⟨v, hve⟩ : ∃ v, v = kv D c := ⟨_, rfl⟩
  have hv2 : kn D D.length c = v + 1 := by unfold kn; rw [if_pos hv, hve]; rfl
  have hle' : v + 1 ≤ 64 := by rw [hve]; unfold kv; omega
  have cc : w.cell? ⟨g, c, none⟩ = some (.int .u8 ((v + 1 : Nat) : Int)) := by rw [cell_of_row w _ _ _ _ _ hr.out, bs_get _ _ (by rw [KT_len]; exact hc), KT_get D D.length c hc, hv2]
  have h0 : (0 : Int) ≤ (c : Int) := by omega
  have h1 : (c : Int) < 256 := by omega
  have hw : IntKind.u8.wrap (((v + 1 : Nat) : Int) - 1) = (v : Int) := by rw [wraps_u8 _ (by omega) (by omega)]; omega
  rw [← hve]
  obtain ⟨x, hx⟩ : ∃ x : Int, x = ((v + 1 : Nat) : Int) := ⟨_, rfl⟩
  rw [← hx] at cc hw
  clear hv hv2 hx hve
  go_enter Tryd.func38, Tryd.ntmps38
  go_wp2
  go_ret
  exact ⟨rfl, rfl⟩
theorem fuL_at (D : List Nat) (s : ByteArray) (k : Nat) (h : k < s.size) (h1 : ∀ j, j < k → D.idxOf (byt s j) < D.length) (h2 : ¬ D.idxOf (byt s k) < D.length) : fuL D (tl s) = k := by
  unfold fuL
  rw [List.findIdx_eq (by rw [tl_len]; exact h)]
  refine ⟨?_, fun j hj => ?_⟩
  · simp [tl, isD]; omega
  · have := h1 j hj
    simp [tl, isD]; omega
theorem fuL_end (D : List Nat) (s : ByteArray) (h1 : ∀ j, j < s.size → D.idxOf (byt s j) < D.length) : fuL D (tl s) = s.size := by
  rw [fuL_none, tl_len]
  intro c hc
  obtain ⟨j, hj, rfl⟩ := List.mem_map.1 hc
  exact h1 j (by simpa using hj)
set_option maxRecDepth 100000 in
set_option maxHeartbeats 1000000 in
theorem first_any (D : List Nat) (s : ByteArray) (hs : s.size ≤ 1152921504606846976) (g : Nat) (w : World) (hr : Hid (Kn D g w)) :
    Calls Tryd.prog 37 #[.string s, .pointer (some ⟨g, 0, none⟩)] w fun e w' => e = .returned (.int .i64 ((fuL D (tl s) : Nat) : Int)) ∧ Below w.heap.size w w' := by
  have hgs : g < w.heap.size := (Array.getElem?_eq_some_iff.1 hr.out).1
  go_enter Tryd.func37, Tryd.ntmps37
  go_wp2_with fail
  go_loopw [8] (fun i wr => ∃ k : Nat, i = .int .i64 (k : Int) ∧ Hid (∀ j, j < k → D.idxOf (byt s j) < D.length) ∧ k ≤ s.size ∧ Below w.heap.size w wr) (fun i _ => s.size - (intOf i).toNat)
  case atStart => exact ⟨0, rfl, fun j hj => by omega, by omega, Below.refl _ w⟩
  case round =>
    obtain ⟨k, rfl, Hb, hk, bel⟩ := hrel
    by_cases hlt : k < s.size
    · have hlt' : (k : Int) < (s.size : Int) := by omega
      have hk0 : (0 : Int) ≤ (k : Int) := by omega
      have hix := fun (w : World) => idx9 w s k hlt
      obtain ⟨c, hc⟩ : ∃ c, c = byt s k := ⟨_, rfl⟩
      have hc256 : c < 256 := by rw [hc]; exact byt_lt _ _
      have hc0 : (0 : Int) ≤ (c : Int) := by omega
      have hc1 : (c : Int) < 256 := by omega
      rw [← hc] at hix
      have HC : Hid (c = byt s k) := hc
      clear hc
      have cc : wr.cell? ⟨g, c, none⟩ = some (.int .u8 ((kn D D.length c : Nat) : Int)) := by rw [cell_of_row wr _ _ _ _ _ ((bel.block g hgs).trans hr.out), bs_get _ _ (by rw [KT_len]; exact hc256), KT_get D D.length c hc256]
      by_cases hm : kn D D.length c = 0
      · have HE : Hid (fuL D (tl s) = k) := by
          refine fuL_at D s k hlt Hb.out ?_
          rw [← HC.out]
          unfold kn at hm
          intro h
          rw [if_pos h] at hm
          omega
        rw [hm] at cc
        have cc' : wr.cell? ⟨g, c, none⟩ = some (.int .u8 0) := cc
        clear cc
        go_wp2
        go_quiet (fail)
        go_wp2
        go_ret
        exact ⟨by rw [HE.out]; rfl, Below.drewN' bel _⟩
      · have hm' : ¬ (((kn D D.length c : Nat) : Int) = 0) := by omega
        have HE : Hid (∀ j, j < k + 1 → D.idxOf (byt s j) < D.length) := by
          intro j hj
          by_cases he : j = k
          · subst he
            rw [← HC.out]
            unfold kn at hm
            by_cases h : D.idxOf c < D.length
            · exact h
            · rw [if_neg h] at hm; exact absurd rfl hm
          · exact Hb.out j (by omega)
        obtain ⟨x, hx⟩ : ∃ x : Int, x = ((kn D D.length c : Nat) : Int) := ⟨_, rfl⟩
        rw [← hx] at cc hm'
        clear hx
        go_wp2
        go_quiet (fail)
        go_wp2
        go_roundw
        case rel => exact ⟨k + 1, by go_num, HE, by omega, Below.drewN' bel _⟩
        case measure => simp [intOf]; omega
    · have hlt' : ¬ (k : Int) < (s.size : Int) := by omega
      have HE : Hid (fuL D (tl s) = s.size) := fuL_end D s (fun j hj => Hb.out j (by omega))
      go_wp2
      go_ret
      exact ⟨by rw [HE.out]; rfl, bel⟩
end Go.Proofs.YtffghlbgbfhfdaaDoor.Hx
