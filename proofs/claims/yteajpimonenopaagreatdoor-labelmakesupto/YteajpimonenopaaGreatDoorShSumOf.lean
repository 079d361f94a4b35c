import Derived.Test.YteajpimonenopaaGreatDoorShSpread
namespace Go.Proofs.YteajpimonenopaaGreatDoor.Sha
open Go.RowKit
def z32 : List Nat := List.replicate 32 0
/-- The four bytes of a word laid behind the others. -/
def sk (st : List Nat) : Nat → List Nat
  | 0 => z32
  | k + 1 => ((((sk st k).set (4 * k) (st.getD k 0 / 16777216 % 256)).set (4 * k + 1) (st.getD k 0 / 65536 % 256)).set (4 * k + 2) (st.getD k 0 / 256 % 256)).set (4 * k + 3) (st.getD k 0 % 256)
theorem sk_len (st : List Nat) : ∀ k, (sk st k).length = 32
  | 0 => rfl
  | k + 1 => by simp [sk, sk_len st k]
def sumS (st : List Nat) : List Nat := sk st 8
theorem sumS_len (st : List Nat) : (sumS st).length = 32 := sk_len st 8
theorem byt_set {l : List Nat} (h : Byt l) (i v : Nat) (hv : v < 256) : Byt (l.set i v) := by
  intro x hx
  rcases List.mem_or_eq_of_mem_set hx with h' | h'
  · exact h x h'
  · omega
theorem sk_byt (st : List Nat) : ∀ k, Byt (sk st k)
  | 0 => fun x hx => by have : x = 0 := List.eq_of_mem_replicate hx; omega
  | k + 1 => byt_set (byt_set (byt_set (byt_set (sk_byt st k) _ _ (Nat.mod_lt _ (by decide))) _ _ (Nat.mod_lt _ (by decide))) _ _ (Nat.mod_lt _ (by decide))) _ _ (Nat.mod_lt _ (by decide))
theorem sumS_byt (st : List Nat) : Byt (sumS st) := sk_byt st 8
theorem al3_0 (w : World) (A B C : Obj) : (((w.alloc A).alloc B).alloc C).heap[w.heap.size]? = some A := by
  rw [heap_alloc_old _ _ (h := by simp; omega), heap_alloc2_old]
theorem al3_1 (w : World) (A B C : Obj) : (((w.alloc A).alloc B).alloc C).heap[w.heap.size + 1]? = some B := by
  rw [heap_alloc_old _ _ (h := by simp), heap_alloc2_new]
theorem al3_2 (w : World) (A B C : Obj) : (((w.alloc A).alloc B).alloc C).heap[w.heap.size + 1 + 1]? = some C := by
  have := heap_alloc_new ((w.alloc A).alloc B) C
  simpa using this
set_option maxHeartbeats 1000000 in
theorem sum_any (st : List Nat) (hl : st.length = 8) (hw : Wrd st) (w : World) :
    Calls Tryz.prog 54 #[.agg (ws st)] w fun e w' => e = .returned (.agg (bs (sumS st))) ∧ Below w.heap.size w w' := by
  go_enter Tryz.func54, Tryz.ntmps54
  go_wp2_with (refine wpList_load_row rfl 53 _ rfl _ rfl 53 (ws st) (0, 0) _ (by exact al3_0 _ _ _ _) Tryz.underlying53 rfl (by rw [size41, ws_size, hl]) ?_)
  go_loopw [7] (fun i wr => ∃ (k : Nat) (l : List Nat), k ≤ 8 ∧ i = .int .i64 k ∧ Hid (l = sk st k) ∧ Hid (wr.heap[w.heap.size + 1 + 1]? = some (.cells (bs l) 24 (0, 0))) ∧ Hid (wr.heap[w.heap.size + 1]? = some (.cells (bs z32) 24 (0, 0))) ∧ Below w.heap.size w wr) (fun i _ => 8 - (intOf i).toNat)
  case atStart =>
    refine ⟨0, z32, by omega, rfl, rfl, ?_, ?_, ?_⟩
    · exact al3_2 _ _ _ _
    · exact al3_1 _ _ _ _
    · exact (((Below.refl _ _).alloc (Nat.le_refl _) _).alloc (by simp) _).alloc (by simp; omega) _
  case round =>
    obtain ⟨k, l, hk, rfl, Hl, HQ, HZ, hbl⟩ := hrel
    have hll : l.length = 32 := by rw [Hl.out, sk_len]
    by_cases hlt : k < 8
    · obtain ⟨x, hx⟩ : ∃ x, x = st.getD k 0 := ⟨_, rfl⟩
      have hix := fun (w : World) => run_index_ws (P := Tryz.prog) w Tryz.underlying53 Tryz.underlying52 size40 st hl k hlt
      rw [← hx] at hix
      have lx : x < 4294967296 := by rw [hx]; exact wrd_get hw _
      have HX : Hid (x = st.getD k 0) := hx
      clear hx
      have cr : ∀ j, j < 32 → wr.cell? ⟨w.heap.size + 1 + 1, j, none⟩ = some (.int .u8 ((l.getD j 0 : Nat) : Int)) := fun j hj => by
        rw [cell_of_row wr _ _ _ _ _ HQ.out, bs_get _ _ (by omega)]
      have c0 := cr (4 * k) (by omega)
      have c1 := cr (4 * k + 1) (by omega)
      have c2 := cr (4 * k + 2) (by omega)
      have c3 := cr (4 * k + 3) (by omega)
      have f0 := frozen_of_row wr _ (4 * k) _ _ HQ.out
      have f1 := frozen_of_row wr _ (4 * k + 1) _ _ HQ.out
      have f2 := frozen_of_row wr _ (4 * k + 2) _ _ HQ.out
      have f3 := frozen_of_row wr _ (4 * k + 3) _ _ HQ.out
      have hk1 : (k : Int) < 8 := by omega
      clear cr
      go_wp2
      go_roundw
      case rel =>
        have e0 : ((x : Int) / 16777216) = ((x / 16777216 % 256 : Nat) : Int) := by omega
        have e1 : ((x : Int) / 65536 % 256) = ((x / 65536 % 256 : Nat) : Int) := by omega
        have e2 : ((x : Int) / 256 % 256) = ((x / 256 % 256 : Nat) : Int) := by omega
        have e3 : ((x : Int) % 256) = ((x % 256 : Nat) : Int) := by omega
        rw [e0, e1, e2, e3]
        refine ⟨k + 1, sk st (k + 1), by omega, by go_num, rfl, ?_, ?_, ?_⟩
        · have h0 := heap_setCell_same wr (w.heap.size + 1 + 1) (4 * k) _ _ (.int .u8 ((x / 16777216 % 256 : Nat) : Int)) HQ.out
          rw [bs_set] at h0
          have h1 := heap_setCell_same _ (w.heap.size + 1 + 1) (4 * k + 1) _ _ (.int .u8 ((x / 65536 % 256 : Nat) : Int)) h0
          rw [bs_set] at h1
          have h2 := heap_setCell_same _ (w.heap.size + 1 + 1) (4 * k + 2) _ _ (.int .u8 ((x / 256 % 256 : Nat) : Int)) h1
          rw [bs_set] at h2
          have h3 := heap_setCell_same _ (w.heap.size + 1 + 1) (4 * k + 3) _ _ (.int .u8 ((x % 256 : Nat) : Int)) h2
          rw [bs_set, HX.out, Hl.out] at h3
          rw [HX.out]
          exact h3
        · exact (heap_setCell_other _ _ _ _ (by simp)).trans ((heap_setCell_other _ _ _ _ (by simp)).trans ((heap_setCell_other _ _ _ _ (by simp)).trans ((heap_setCell_other _ _ _ _ (by simp)).trans HZ.out)))
        · exact (((hbl.setCell (by simp; omega) _).setCell (by simp; omega) _).setCell (by simp; omega) _).setCell (by simp; omega) _
      case measure => simp [intOf]; omega
    · have hk8 : k = 8 := by omega
      have HE : Hid (l = sumS st) := by show _ = _; rw [Hl.out, hk8]; rfl
      clear hk8 Hl
      go_wp2_with (first | refine wpList_load_row rfl 24 _ rfl _ rfl 24 _ (0, 0) _ (by exact HQ.out) Tryz.underlying24 rfl (by rw [size28, bs_size, hll]) ?_ | refine wpList_store_row rfl 24 _ _ rfl _ _ rfl rfl 24 _ (by exact HZ.out) (by rw [size28, bs_size, hll]) (by rw [bs_size, bs_size, hll]; rfl) (bs_one _) ?_)
      have hres : (wr.setRow (w.heap.size + 1) (bs l)).heap[w.heap.size + 1]? = some (.cells (bs l) 24 (0, 0)) := setRow_heap _ _ _ _ _ _ HZ.out
      refine bodyPost_ret (v := .agg (bs l)) (results_cell_row rfl _ _ (w.heap.size + 1) 24 _ (0, 0) _ rfl hres Tryz.underlying24 rfl (by rw [size28, bs_size, hll])) rfl ⟨?_, ?_⟩
      · rw [HE.out]
      · exact below_setRow hbl (by omega) _
end Go.Proofs.YteajpimonenopaaGreatDoor.Sha
