/- The document's own sum of a message. -/
import Derived.Test.YtmfmmcfdcjhecaaDoorShRp
import Derived.Test.YtmfmmcfdcjhecaaDoorShRb1
import Derived.Deep.RegionWith
namespace Go.Proofs.YtmfmmcfdcjhecaaDoor.Sha
open Go.RowKit
theorem size24' : (Tryd.prog.info? 23).map (·.size) = some 32 := by kernel_rfl
def loadR (ty : Nat) (v : Value) : Sem Value := Instr.loadAt ty v
theorem to74l (v : Value) : Instr.loadAt 45 v = loadR 45 v := rfl
theorem to81l (v : Value) : Instr.loadAt 48 v = loadR 48 v := rfl
theorem run_load74 (w : World) (g t : Nat) (fr : Nat × Nat) (l : List Nat) (hg : w.heap[g]? = some (.cells (ws l) t fr)) (hl : l.length = 8) : (loadR 45 (.pointer (some ⟨g, 0, none⟩))).run Tryd.prog w = .ok (.agg (ws l)) w := by
  unfold loadR
  simp only [Instr.loadAt, Instr.sureAddr, Sem.run_bind, Sem.run_pure, Result.andThen_ok, run_loadVar_row w g t 45 (ws l) fr _ hg Tryd.underlying45 rfl (by rw [size74, ws_size, hl])]
theorem run_load81 (w : World) (g t : Nat) (fr : Nat × Nat) (l : List Nat) (hg : w.heap[g]? = some (.cells (ws l) t fr)) (hl : l.length = 64) : (loadR 48 (.pointer (some ⟨g, 0, none⟩))).run Tryd.prog w = .ok (.agg (ws l)) w := by
  unfold loadR
  simp only [Instr.loadAt, Instr.sureAddr, Sem.run_bind, Sem.run_pure, Result.andThen_ok, run_loadVar_row w g t 48 (ws l) fr _ hg Tryd.underlying48 rfl (by rw [size81, ws_size, hl])]
def storeR (ty : Nat) (p v : Value) : Sem Unit := Instr.storeAt ty p v
theorem to74s (p v : Value) : Instr.storeAt 45 p v = storeR 45 p v := rfl
theorem run_store74 (w : World) (g : Nat) (old l : List Nat) (hg : w.heap[g]? = some (.cells (ws old) 45 (0, 0))) (h1 : old.length = 8) (h2 : l.length = 8) : (storeR 45 (.pointer (some ⟨g, 0, none⟩)) (.agg (ws l))).run Tryd.prog w = .ok () (w.setRow g (ws l)) := by
  unfold storeR
  simp only [Instr.storeAt, Instr.sureAddr, Sem.run_bind, Sem.run_pure, Result.andThen_ok, run_storeVar_row w g 45 45 (ws old) (ws l) hg (by rw [size74, ws_size, h2]) (by rw [ws_size, ws_size, h1, h2]) (ws_one _)]
theorem run_store74' (w : World) (g : Nat) (cs : Array Value) (l : List Nat) (hg : w.heap[g]? = some (.cells cs 45 (0, 0))) (h1 : cs.size = 8) (h2 : l.length = 8) : (storeR 45 (.pointer (some ⟨g, 0, none⟩)) (.agg (ws l))).run Tryd.prog w = .ok () (w.setRow g (ws l)) := by
  unfold storeR
  simp only [Instr.storeAt, Instr.sureAddr, Sem.run_bind, Sem.run_pure, Result.andThen_ok, run_storeVar_row w g 45 45 cs (ws l) hg (by rw [size74, ws_size, h2]) (by rw [ws_size, h1, h2]) (ws_one _)]
theorem run_cut_lh (w : World) (g n c l h : Nat) (h1 : l ≤ h) (h2 : h ≤ c) (h3 : l < c) : (slR (.slice (some ⟨g, 0, none⟩) n c) (some (.int .i64 (l : Int))) (some (.int .i64 (h : Int))) none).run Tryd.prog w = .ok (.slice (some ⟨g, l, none⟩) (h - l) (c - l)) w := by
  have := run_slice_lh (P := Tryd.prog) w 31 (some ⟨g, 0, none⟩) n c u22 .i64 .i64 (l : Int) (h : Int) (by omega) (by omega) (by omega)
  unfold slR
  rw [this, elem22, run_size_bs w size5]
  simp [Result.andThen, sliced, Addr.add, show ¬ c = l by omega]
  exact fun h => h.symm
/-- Behind k bytes of the last loop. -/
def outk (S : List Nat) : Nat → List Nat
  | 0 => z32
  | k + 1 => (outk S k).set k (S.getD (k / 4) 0 / 2 ^ (24 - 8 * (k % 4)) % 256)
theorem outk_len (S : List Nat) : ∀ k, (outk S k).length = 32
  | 0 => rfl
  | k + 1 => by rw [outk, List.length_set, outk_len S k]
theorem outk_sum (S : List Nat) : outk S 32 = sumS S := by
  have h : ∀ k, outk S (4 * k) = sk S k := by
    intro k
    induction k with
    | zero => rfl
    | succ k ih =>
      rw [show 4 * (k + 1) = 4 * k + 1 + 1 + 1 + 1 by omega, outk, outk, outk, outk, ih, sk]
      have d0 : (4 * k) / 4 = k := by omega
      have d1 : (4 * k + 1) / 4 = k := by omega
      have d2 : (4 * k + 1 + 1) / 4 = k := by omega
      have d3 : (4 * k + 1 + 1 + 1) / 4 = k := by omega
      have m0 : (4 * k) % 4 = 0 := by omega
      have m1 : (4 * k + 1) % 4 = 1 := by omega
      have m2 : (4 * k + 1 + 1) % 4 = 2 := by omega
      have m3 : (4 * k + 1 + 1 + 1) % 4 = 3 := by omega
      rw [d0, d1, d2, d3, m0, m1, m2, m3]
      simp
  exact h 8
theorem blk_get (x : List Nat) (k j : Nat) (hj : j < 64) : ((x.drop (64 * k)).take 64).getD j 0 = x.getD (64 * k + j) 0 := by
  simp [List.getD, List.getElem?_drop, hj]
theorem byt_blk {x : List Nat} (h : Byt x) (k : Nat) : Byt ((x.drop (64 * k)).take 64) := fun a ha => h a (List.mem_of_mem_drop (List.mem_of_mem_take ha))
noncomputable def tail33 : Code := ((Tryd.f14.body.bind (fromR 10)).getD .skip)
set_option maxRecDepth 100000 in
set_option maxHeartbeats 1600000 in
theorem tailO (S : List Nat) (hSl : S.length = 8) (hSw : Wrd S) (G : Nat) (v0 v1 v5 v6 v7 v8 v9 v10 v11 v12 v13 v14 v15 v16 v17 v18 v19 v20 v21 v22 v23 v24 v25 v26 v27 v28 v29 v30 v31 v32 v33 v34 v35 v36 v37 v38 v39 v40 v41 v42 v43 v44 v45 v46 : Value) (w : World)
    (x0 : Hid (w.heap[G]? = some (.cells (bs z32) 23 (0, 0)))) (x1 : Hid (w.heap[G + 1]? = some (.cells (bs (outk S 0)) 23 (0, 0)))) (x2 : Hid (w.heap[G + 1 + 1]? = some (.cells (ws S) 45 (0, 0))))
    (R : Ending → World → Prop) (hR : Hid (∀ w', Below G w w' → R (.returned (.agg (bs (sumS S)))) w')) :
    Code.wp Tryd.prog tail33 (bodyPost Tryd.prog Tryd.f14 R) ⟨#[v0, v1, .pointer (some ⟨G, 0, none⟩), .pointer (some ⟨G + 1, 0, none⟩), .pointer (some ⟨G + 1 + 1, 0, none⟩), v5, v6, v7, v8, v9, v10, v11, v12, v13, v14, v15, v16, v17, v18, v19, v20, v21, v22, v23, v24, v25, v26, v27, v28, v29, v30, v31, v32, v33, v34, v35, v36, v37, v38, v39, v40, v41, v42, v43, v44, v45, v46], []⟩ w := by
  conv => arg 2; whnf
  go_wp2
  go_loopw [7] (fun i wr => ∃ (k : Nat) (l : List Nat), k ≤ 32 ∧ i = .int .i64 k ∧ Hid (l = outk S k) ∧ Hid (wr.heap[G + 1]? = some (.cells (bs l) 23 (0, 0))) ∧ Hid (∀ j, j ≠ G + 1 → wr.heap[j]? = w.heap[j]?) ∧ Below G w wr) (fun i _ => 32 - (intOf i).toNat)
  case atStart => exact ⟨0, _, by omega, rfl, rfl, x1, fun _ _ => rfl, Below.refl _ _⟩
  case round =>
    obtain ⟨k, l, hk, rfl, Hl, HW, HZ, hbl⟩ := hrel
    have hll : l.length = 32 := by rw [Hl.out, outk_len]
    by_cases hlt : k < 32
    · have hk1 : (k : Int) < 32 := by omega
      have hk0 : (0 : Int) ≤ (k : Int) := by omega
      obtain ⟨q, hq⟩ : ∃ q, q = k / 4 := ⟨_, rfl⟩
      obtain ⟨r, hr⟩ : ∃ r, r = 24 - 8 * (k % 4) := ⟨_, rfl⟩
      obtain ⟨x, hx⟩ : ∃ x, x = S.getD q 0 := ⟨_, rfl⟩
      have hx32 : x < 4294967296 := by rw [hx]; exact wrd_get hSw _
      have hq1 : (k : Int) / 4 = (q : Int) := by omega
      have hq2 : q < 8 := by omega
      have hq3 : (q : Int) < 8 := by omega
      have hr1 : 24 - 8 * ((k : Int) % 4) = (r : Int) := by omega
      have hr2 : r < 32 := by omega
      have hr3 : (r : Int) < 32 := by omega
      have cx : wr.cell? ⟨G + 1 + 1, q, none⟩ = some (.int .u32 (x : Int)) := by
        rw [cell_of_row wr _ _ _ _ _ ((HZ.out _ (by omega)).trans x2.out), ws_get _ _ (by omega), hx]
      have co : wr.cell? ⟨G + 1, k, none⟩ = some (.int .u8 ((l.getD k 0 : Nat) : Int)) := by
        rw [cell_of_row wr _ _ _ _ _ HW.out, bs_get _ _ (by omega)]
      have fo := frozen_of_row wr _ k _ _ HW.out
      obtain ⟨y, hy⟩ : ∃ y, y = x / 2 ^ r % 256 := ⟨_, rfl⟩
      have hyI : (x : Int) / 2 ^ r % 256 = (y : Int) := by rw [hy]; simp
      have HY : Hid (outk S (k + 1) = l.set k y) := by show _ = _; rw [outk, ← Hl.out, hy, hx, ← hr, ← hq]
      clear hq hr hx hy
      go_wp2
      go_roundw
      case rel =>
        refine ⟨k + 1, l.set k y, by omega, by go_num, HY.out.symm, ?_, ?_, ?_⟩
        · exact (heap_setCell_same _ _ _ _ _ _ HW.out).trans (by rw [bs_set])
        · exact fun j hj => (heap_setCell_other _ _ _ _ hj).trans (HZ.out j hj)
        · exact hbl.setCell (by simp <;> omega) _
      case measure => simp [intOf]; omega
    · have hk8 : k = 32 := by omega
      have hls : l = sumS S := by rw [Hl.out, hk8, outk_sum]
      have HR0 : Hid (wr.heap[G]? = some (.cells (bs z32) 23 (0, 0))) := (HZ.out _ (by omega)).trans x0.out
      have HLS : Hid (l = sumS S) := hls
      have hk32 : ¬ (k : Int) < 32 := by omega
      clear hk8 HZ Hl hls
      go_wp2_with (first | refine wpList_load_row rfl 23 _ rfl _ rfl 23 _ (0, 0) _ (by exact HW.out) Tryd.underlying23 rfl (by rw [size24', bs_size, hll]) ?_ | refine wpList_store_row rfl 23 _ _ rfl _ _ rfl rfl 23 _ (by exact HR0.out) (by rw [size24', bs_size, hll]) (by rw [bs_size, bs_size, hll]; rfl) (bs_one _) ?_)
      have hres : (wr.setRow G (bs l)).heap[G]? = some (.cells (bs l) 23 (0, 0)) := setRow_heap _ _ _ _ _ _ HR0.out
      refine bodyPost_ret (v := .agg (bs l)) (results_cell_row rfl _ _ G 23 _ (0, 0) _ rfl hres Tryd.underlying23 rfl (by rw [size24', bs_size, hll])) rfl ?_
      rw [HLS.out]
      exact hR.out _ (below_setRow hbl (Nat.le_refl _) _)
end Go.Proofs.YtmfmmcfdcjhecaaDoor.Sha
