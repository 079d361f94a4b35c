/- UnBase32: the code's. -/
import Derived.Test.YtffghlbgbfhfdaaDoorUnM
import Derived.Test.YtffghlbgbfhfdaaDoorSl
import Derived.Test.YtffghlbgbfhfdaaDoorNames
import Derived.Laws.CopyOwn
namespace Go.Proofs.YtffghlbgbfhfdaaDoor
open Go.RowKit
theorem size49 : (Tryd.prog.info? 82).map (·.size) = some 256 := by kernel_rfl
/-- Which digit a byte is, counted from 1; 0: none. -/
def kn (m c : Nat) : Nat := if D32.idxOf c < m then D32.idxOf c + 1 else 0
def K32 (m : Nat) : List Nat := (List.range 256).map (kn m)
theorem K32_len (m : Nat) : (K32 m).length = 256 := by simp [K32]
theorem K32_get (m c : Nat) (h : c < 256) : (K32 m).getD c 0 = kn m c := by simp [K32, List.getD, h]
theorem K32_step : ∀ k : Fin 32, (K32 k.val).set (g32 k.val) (k.val + 1) = K32 (k.val + 1) := by decide +kernel
theorem K32_zero : K32 0 = List.replicate 256 0 := by decide +kernel
theorem g32_lt : ∀ k : Fin 32, g32 k.val < 256 := by decide +kernel
theorem zero49 (w : World) : Sem.run Tryd.prog (zeroValue 82) w = .ok (.agg (bs (K32 0))) w := by kernel_rfl
attribute [local go_sem] zero49
set_option maxRecDepth 100000 in
theorem zc82 : Tryd.zeroCells82 = bs (K32 0) := by kernel_rfl
set_option maxHeartbeats 1000000 in
theorem known_any (w : World) (ht : Tx w) : Calls Tryd.prog 93 #[] w fun e w' => e = .returned (.agg (bs (K32 32))) ∧ Below w.heap.size w w' := by
  have hsz := ht.sz
  go_enter Tryd.func93, Tryd.ntmps93
  go_wp2_with fail
  rw [zc82]
  generalize hW : (w.alloc (Obj.cells (bs (K32 0)) 82)).alloc (Obj.cells (bs (K32 0)) 82) = W2
  have r0 : Hid (W2.heap[w.heap.size]? = some (.cells (bs (K32 0)) 82 (0, 0))) := by rw [← hW]; exact (heap_alloc_old _ _ (h := by simp)).trans (heap_alloc_new _ _)
  have r1 : Hid (W2.heap[w.heap.size + 1]? = some (.cells (bs (K32 0)) 82 (0, 0))) := by
    rw [← hW]
    have := heap_alloc_new (w.alloc (Obj.cells (bs (K32 0)) 82)) (Obj.cells (bs (K32 0)) 82)
    rw [show (w.alloc (Obj.cells (bs (K32 0)) 82)).heap.size = w.heap.size + 1 by simp] at this
    exact this
  have bel2 : Below w.heap.size w W2 := by rw [← hW]; exact ((Below.refl _ w).alloc (Nat.le_refl _) _).alloc (by simp) _
  clear hW
  go_loopw [3] (fun i wr => ∃ k : Nat, i = .int .i64 (k : Int) ∧ k ≤ 32 ∧ Hid (wr.heap[w.heap.size]? = some (.cells (bs (K32 0)) 82 (0, 0))) ∧ Hid (wr.heap[w.heap.size + 1]? = some (.cells (bs (K32 k)) 82 (0, 0))) ∧ Below w.heap.size w wr) (fun i _ => 32 - (intOf i).toNat)
  case atStart => exact ⟨0, rfl, by omega, r0, r1, bel2⟩
  case round =>
    clear r0 r1 bel2
    obtain ⟨k, rfl, hk, r0, r1, bel⟩ := hrel
    by_cases hlt : k < 32
    · have hk0 : (0 : Int) ≤ (k : Int) := by omega
      have hk1 : (k : Int) < 32 := by omega
      have cd := (ht.below bel hsz).b k hlt
      obtain ⟨c, hc⟩ : ∃ c, c = g32 k := ⟨_, rfl⟩
      have hc256 : c < 256 := by rw [hc]; exact g32_lt ⟨k, hlt⟩
      rw [← hc] at cd
      have hc0 : (0 : Int) ≤ (c : Int) := by omega
      have hc1 : (c : Int) < 256 := by omega
      have hkW : IntKind.u8.wrap (k : Int) = (k : Int) := wraps_u8 _ (by omega) (by omega)
      have hkW1 : IntKind.u8.wrap ((k : Int) + 1) = (k : Int) + 1 := wraps_u8 _ (by omega) (by omega)
      have cc : wr.cell? ⟨w.heap.size + 1, c, none⟩ = some (.int .u8 (((K32 k).getD c 0 : Nat) : Int)) := by rw [cell_of_row wr _ _ _ _ _ r1.out, bs_get _ _ (by rw [K32_len]; exact hc256)]
      have fz : wr.frozen? ⟨w.heap.size + 1, c, none⟩ = false := frozen_of_row wr _ _ _ _ r1.out
      have r1' : Hid ((wr.setCell ⟨w.heap.size + 1, c, none⟩ (.int .u8 ((k : Int) + 1))).heap[w.heap.size + 1]? = some (.cells (bs (K32 (k + 1))) 82 (0, 0))) := by
        show _ = _
        rw [show ((k : Int) + 1) = ((k + 1 : Nat) : Int) by omega]
        refine (heap_setCell_same _ _ _ _ _ _ r1.out).trans ?_
        rw [bs_set, hc, K32_step ⟨k, hlt⟩]
      have r0' : Hid ((wr.setCell ⟨w.heap.size + 1, c, none⟩ (.int .u8 ((k : Int) + 1))).heap[w.heap.size]? = some (.cells (bs (K32 0)) 82 (0, 0))) := (heap_setCell_other _ _ _ _ (by simp)).trans r0.out
      have bel' : Below w.heap.size w (wr.setCell ⟨w.heap.size + 1, c, none⟩ (.int .u8 ((k : Int) + 1))) := bel.setCell (by simp) _
      clear hc
      go_wp2
      go_roundw
      case rel => exact ⟨k + 1, by go_num, by omega, r0', r1', bel'⟩
      case measure => simp [intOf]; omega
    · have hk1 : ¬ ((k : Int) < 32) := by omega
      have hke : k = 32 := by omega
      subst hke
      go_wp2_with (first | refine wpList_load_row rfl 82 _ rfl _ rfl 82 _ (0, 0) _ (by exact r1.out) Tryd.underlying82 rfl (by rw [size49, bs_size, K32_len]) ?_ | refine wpList_store_row rfl 82 _ _ rfl _ _ rfl rfl 82 _ (by exact r0.out) (by rw [size49, bs_size, K32_len]) (by rw [bs_size, bs_size, K32_len, K32_len]) (bs_one _) ?_)
      have hres : (wr.setRow w.heap.size (bs (K32 32))).heap[w.heap.size]? = some (.cells (bs (K32 32)) 82 (0, 0)) := setRow_heap _ _ _ _ _ _ r0.out
      refine bodyPost_ret (v := .agg (bs (K32 32))) (results_cell_row rfl _ _ w.heap.size 82 _ (0, 0) _ rfl hres Tryd.underlying82 rfl (by rw [size49, bs_size, K32_len])) rfl ⟨rfl, ?_⟩
      exact below_setRow bel (by omega) _
theorem kn_le : ∀ c : Fin 256, kn 32 c.val ≤ 32 := by decide +kernel
theorem value_any (g c v : Nat) (hc : c < 256) (hv : kn 32 c = v + 1) (w : World) (hr : Hid (w.heap[g]? = some (.cells (bs (K32 32)) 82 (0, 0)))) :
    Calls Tryd.prog 38 #[.pointer (some ⟨g, 0, none⟩), .int .u8 (c : Int)] w fun e w' => e = .returned (.int .u8 (v : Int)) ∧ w' = w := by
  have cc : w.cell? ⟨g, c, none⟩ = some (.int .u8 ((v + 1 : Nat) : Int)) := by rw [cell_of_row w _ _ _ _ _ hr.out, bs_get _ _ (by rw [K32_len]; exact hc), K32_get 32 c hc, hv]
  have hle := kn_le ⟨c, hc⟩
  have hle' : v + 1 ≤ 32 := by rw [← hv]; exact hle
  have h0 : (0 : Int) ≤ (c : Int) := by omega
  have h1 : (c : Int) < 256 := by omega
  have hw : IntKind.u8.wrap (((v + 1 : Nat) : Int) - 1) = (v : Int) := by rw [wraps_u8 _ (by omega) (by omega)]; omega
  obtain ⟨x, hx⟩ : ∃ x : Int, x = ((v + 1 : Nat) : Int) := ⟨_, rfl⟩
  rw [← hx] at cc hw
  clear hv hle hx
  go_enter Tryd.func38, Tryd.ntmps38
  go_wp2
  go_ret
  exact ⟨rfl, rfl⟩
def unk (s : ByteArray) : Nat → Nat → Option Nat
  | 0, _ => none
  | f + 1, i => if i < s.size then (if kn 32 (byt s i) = 0 then some i else unk s f (i + 1)) else none
theorem unk_end (s : ByteArray) (f i : Nat) (h : ¬ i < s.size) : unk s f i = none := by cases f <;> simp [unk, h]
def fuN (s : ByteArray) : Nat := (unk s s.size 0).getD s.size
set_option maxRecDepth 100000 in
set_option maxHeartbeats 1000000 in
theorem first_any (s : ByteArray) (hs : s.size ≤ 1099511627776) (g : Nat) (w : World) (hr : Hid (w.heap[g]? = some (.cells (bs (K32 32)) 82 (0, 0)))) :
    Calls Tryd.prog 37 #[.string s, .pointer (some ⟨g, 0, none⟩)] w fun e w' => e = .returned (.int .i64 ((fuN s : Nat) : Int)) ∧ Below w.heap.size w w' := by
  have hgs : g < w.heap.size := (Array.getElem?_eq_some_iff.1 hr.out).1
  have HA : Hid (fuN s = (unk s s.size 0).getD s.size) := rfl
  go_enter Tryd.func37, Tryd.ntmps37
  go_wp2_with fail
  go_loopw [8] (fun i wr => ∃ (k fuel : Nat), i = .int .i64 (k : Int) ∧ Hid (unk s fuel k = unk s s.size 0) ∧ s.size ≤ k + fuel ∧ k ≤ s.size ∧ Below w.heap.size w wr) (fun i _ => s.size - (intOf i).toNat)
  case atStart => exact ⟨0, s.size, rfl, rfl, by omega, by omega, Below.refl _ w⟩
  case round =>
    obtain ⟨k, fuel, rfl, Hb, hf, hk, bel⟩ := hrel
    by_cases hlt : k < s.size
    · obtain ⟨f, rfl⟩ : ∃ f, fuel = f + 1 := ⟨fuel - 1, by omega⟩
      have hlt' : (k : Int) < (s.size : Int) := by omega
      have hk0 : (0 : Int) ≤ (k : Int) := by omega
      have hix := fun (w : World) => idx9 w s k hlt
      obtain ⟨c, hc⟩ : ∃ c, c = byt s k := ⟨_, rfl⟩
      have hc256 : c < 256 := by rw [hc]; exact byt_lt _ _
      have hc0 : (0 : Int) ≤ (c : Int) := by omega
      have hc1 : (c : Int) < 256 := by omega
      rw [← hc] at hix
      have HC : Hid (c = byt s k) := hc
      clear hc
      have cc : wr.cell? ⟨g, c, none⟩ = some (.int .u8 ((kn 32 c : Nat) : Int)) := by rw [cell_of_row wr _ _ _ _ _ ((bel.block g hgs).trans hr.out), bs_get _ _ (by rw [K32_len]; exact hc256), K32_get 32 c hc256]
      by_cases hm : kn 32 c = 0
      · have HE : Hid (fuN s = k) := by
          have := Hb.out
          simp only [unk, hlt, if_true, ← HC.out, hm] at this
          have h2 := HA.out
          rw [← this] at h2
          exact h2
        rw [hm] at cc
        have cc' : wr.cell? ⟨g, c, none⟩ = some (.int .u8 0) := cc
        clear cc
        go_wp2
        go_quiet (fail)
        go_wp2
        go_ret
        exact ⟨by rw [HE.out]; rfl, Below.drewN' bel _⟩
      · have hm' : ¬ (((kn 32 c : Nat) : Int) = 0) := by omega
        have HE : Hid (unk s f (k + 1) = unk s s.size 0) := by
          have := Hb.out
          simp only [unk, hlt, if_true, ← HC.out, hm, if_false] at this
          exact this
        obtain ⟨x, hx⟩ : ∃ x : Int, x = ((kn 32 c : Nat) : Int) := ⟨_, rfl⟩
        rw [← hx] at cc hm'
        clear hx
        go_wp2
        go_quiet (fail)
        go_wp2
        go_roundw
        case rel => exact ⟨k + 1, f, by go_num, HE, by omega, by omega, Below.drewN' bel _⟩
        case measure => simp [intOf]; omega
    · have hlt' : ¬ (k : Int) < (s.size : Int) := by omega
      have HE : Hid (fuN s = s.size) := by
        have := Hb.out
        rw [unk_end s fuel k hlt] at this
        have h2 := HA.out
        rw [← this] at h2
        exact h2
      go_wp2
      go_ret
      exact ⟨by rw [HE.out]; rfl, bel⟩
end Go.Proofs.YtffghlbgbfhfdaaDoor
