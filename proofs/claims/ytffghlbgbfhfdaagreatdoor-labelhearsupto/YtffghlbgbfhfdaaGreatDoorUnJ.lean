/- Several texts in one: Un, UnB. -/
import Derived.Test.YtffghlbgbfhfdaaGreatDoorUnM
import Derived.Test.YtffghlbgbfhfdaaGreatDoorSl
import Derived.Test.YtffghlbgbfhfdaaGreatDoorNames
import Derived.Laws.CopyOwn
/- UnBase32: the code's. -/
namespace Go.Proofs.YtffghlbgbfhfdaaGreatDoor
open Go.RowKit
theorem size49 : (Tryz.prog.info? 58).map (·.size) = some 256 := by kernel_rfl
/-- Which digit a byte is, counted from 1; 0: none. -/
def kn (m c : Nat) : Nat := if D32.idxOf c < m then D32.idxOf c + 1 else 0
def K32 (m : Nat) : List Nat := (List.range 256).map (kn m)
theorem K32_len (m : Nat) : (K32 m).length = 256 := by simp [K32]
theorem K32_get (m c : Nat) (h : c < 256) : (K32 m).getD c 0 = kn m c := by simp [K32, List.getD, h]
theorem K32_step : ∀ k : Fin 32, (K32 k.val).set (g32 k.val) (k.val + 1) = K32 (k.val + 1) := by decide +kernel
theorem K32_zero : K32 0 = List.replicate 256 0 := by decide +kernel
theorem g32_lt : ∀ k : Fin 32, g32 k.val < 256 := by decide +kernel
theorem zero49 (w : World) : Sem.run Tryz.prog (zeroValue 58) w = .ok (.agg (bs (K32 0))) w := by kernel_rfl
attribute [local go_sem] zero49
set_option maxRecDepth 100000 in
theorem zc82 : Tryz.zeroCells58 = bs (K32 0) := by kernel_rfl
set_option maxHeartbeats 1000000 in
theorem known_any (w : World) (ht : Tx w) : Calls Tryz.prog 103 #[] w fun e w' => e = .returned (.agg (bs (K32 32))) ∧ Below w.heap.size w w' := by
  have hsz := ht.sz
  go_enter Tryz.func103, Tryz.ntmps103
  go_wp2_with fail
  rw [zc82]
  generalize hW : (w.alloc (Obj.cells (bs (K32 0)) 58)).alloc (Obj.cells (bs (K32 0)) 58) = W2
  have r0 : Hid (W2.heap[w.heap.size]? = some (.cells (bs (K32 0)) 58 (0, 0))) := by rw [← hW]; exact (heap_alloc_old _ _ (h := by simp)).trans (heap_alloc_new _ _)
  have r1 : Hid (W2.heap[w.heap.size + 1]? = some (.cells (bs (K32 0)) 58 (0, 0))) := by
    rw [← hW]
    have := heap_alloc_new (w.alloc (Obj.cells (bs (K32 0)) 58)) (Obj.cells (bs (K32 0)) 58)
    rw [show (w.alloc (Obj.cells (bs (K32 0)) 58)).heap.size = w.heap.size + 1 by simp] at this
    exact this
  have bel2 : Below w.heap.size w W2 := by rw [← hW]; exact ((Below.refl _ w).alloc (Nat.le_refl _) _).alloc (by simp) _
  clear hW
  go_loopw [3] (fun i wr => ∃ k : Nat, i = .int .i64 (k : Int) ∧ k ≤ 32 ∧ Hid (wr.heap[w.heap.size]? = some (.cells (bs (K32 0)) 58 (0, 0))) ∧ Hid (wr.heap[w.heap.size + 1]? = some (.cells (bs (K32 k)) 58 (0, 0))) ∧ Below w.heap.size w wr) (fun i _ => 32 - (intOf i).toNat)
  case atStart => exact ⟨0, rfl, by omega, r0, r1, bel2⟩
  case round =>
    clear r0 r1 bel2
    obtain ⟨k, rfl, hk, r0, r1, bel⟩ := hrel
    by_cases hlt : k < 32
    · have hk0 : (0 : Int) ≤ (k : Int) := by omega
      have hk1 : (k : Int) < 32 := by omega
      have cd := (ht.below bel hsz).b k hlt
      obtain ⟨c, hc⟩ : ∃ c, c = g32 k := ⟨_, rfl⟩
      have hc256 : c < 256 := by rw [hc]; exact g32_lt ⟨k, hlt⟩
      rw [← hc] at cd
      have hc0 : (0 : Int) ≤ (c : Int) := by omega
      have hc1 : (c : Int) < 256 := by omega
      have hkW : IntKind.u8.wrap (k : Int) = (k : Int) := wraps_u8 _ (by omega) (by omega)
      have hkW1 : IntKind.u8.wrap ((k : Int) + 1) = (k : Int) + 1 := wraps_u8 _ (by omega) (by omega)
      have cc : wr.cell? ⟨w.heap.size + 1, c, none⟩ = some (.int .u8 (((K32 k).getD c 0 : Nat) : Int)) := by rw [cell_of_row wr _ _ _ _ _ r1.out, bs_get _ _ (by rw [K32_len]; exact hc256)]
      have fz : wr.frozen? ⟨w.heap.size + 1, c, none⟩ = false := frozen_of_row wr _ _ _ _ r1.out
      have r1' : Hid ((wr.setCell ⟨w.heap.size + 1, c, none⟩ (.int .u8 ((k : Int) + 1))).heap[w.heap.size + 1]? = some (.cells (bs (K32 (k + 1))) 58 (0, 0))) := by
        show _ = _
        rw [show ((k : Int) + 1) = ((k + 1 : Nat) : Int) by omega]
        refine (heap_setCell_same _ _ _ _ _ _ r1.out).trans ?_
        rw [bs_set, hc, K32_step ⟨k, hlt⟩]
      have r0' : Hid ((wr.setCell ⟨w.heap.size + 1, c, none⟩ (.int .u8 ((k : Int) + 1))).heap[w.heap.size]? = some (.cells (bs (K32 0)) 58 (0, 0))) := (heap_setCell_other _ _ _ _ (by simp)).trans r0.out
      have bel' : Below w.heap.size w (wr.setCell ⟨w.heap.size + 1, c, none⟩ (.int .u8 ((k : Int) + 1))) := bel.setCell (by simp) _
      clear hc
      go_wp2
      go_roundw
      case rel => exact ⟨k + 1, by go_num, by omega, r0', r1', bel'⟩
      case measure => simp [intOf]; omega
    · have hk1 : ¬ ((k : Int) < 32) := by omega
      have hke : k = 32 := by omega
      subst hke
      go_wp2_with (first | refine wpList_load_row rfl 58 _ rfl _ rfl 58 _ (0, 0) _ (by exact r1.out) Tryz.underlying58 rfl (by rw [size49, bs_size, K32_len]) ?_ | refine wpList_store_row rfl 58 _ _ rfl _ _ rfl rfl 58 _ (by exact r0.out) (by rw [size49, bs_size, K32_len]) (by rw [bs_size, bs_size, K32_len, K32_len]) (bs_one _) ?_)
      have hres : (wr.setRow w.heap.size (bs (K32 32))).heap[w.heap.size]? = some (.cells (bs (K32 32)) 58 (0, 0)) := setRow_heap _ _ _ _ _ _ r0.out
      refine bodyPost_ret (v := .agg (bs (K32 32))) (results_cell_row rfl _ _ w.heap.size 58 _ (0, 0) _ rfl hres Tryz.underlying58 rfl (by rw [size49, bs_size, K32_len])) rfl ⟨rfl, ?_⟩
      exact below_setRow bel (by omega) _
theorem kn_le : ∀ c : Fin 256, kn 32 c.val ≤ 32 := by decide +kernel
theorem value_any (g c v : Nat) (hc : c < 256) (hv : kn 32 c = v + 1) (w : World) (hr : Hid (w.heap[g]? = some (.cells (bs (K32 32)) 58 (0, 0)))) :
    Calls Tryz.prog 29 #[.pointer (some ⟨g, 0, none⟩), .int .u8 (c : Int)] w fun e w' => e = .returned (.int .u8 (v : Int)) ∧ w' = w := by
  have cc : w.cell? ⟨g, c, none⟩ = some (.int .u8 ((v + 1 : Nat) : Int)) := by rw [cell_of_row w _ _ _ _ _ hr.out, bs_get _ _ (by rw [K32_len]; exact hc), K32_get 32 c hc, hv]
  have hle := kn_le ⟨c, hc⟩
  have hle' : v + 1 ≤ 32 := by rw [← hv]; exact hle
  have h0 : (0 : Int) ≤ (c : Int) := by omega
  have h1 : (c : Int) < 256 := by omega
  have hw : IntKind.u8.wrap (((v + 1 : Nat) : Int) - 1) = (v : Int) := by rw [wraps_u8 _ (by omega) (by omega)]; omega
  obtain ⟨x, hx⟩ : ∃ x : Int, x = ((v + 1 : Nat) : Int) := ⟨_, rfl⟩
  rw [← hx] at cc hw
  clear hv hle hx
  go_enter Tryz.func29, Tryz.ntmps29
  go_wp2
  go_ret
  exact ⟨rfl, rfl⟩
def unk (s : ByteArray) : Nat → Nat → Option Nat
  | 0, _ => none
  | f + 1, i => if i < s.size then (if kn 32 (byt s i) = 0 then some i else unk s f (i + 1)) else none
theorem unk_end (s : ByteArray) (f i : Nat) (h : ¬ i < s.size) : unk s f i = none := by cases f <;> simp [unk, h]
def fuN (s : ByteArray) : Nat := (unk s s.size 0).getD s.size
set_option maxRecDepth 100000 in
set_option maxHeartbeats 1000000 in
theorem first_any (s : ByteArray) (hs : s.size ≤ 1099511627776) (g : Nat) (w : World) (hr : Hid (w.heap[g]? = some (.cells (bs (K32 32)) 58 (0, 0)))) :
    Calls Tryz.prog 28 #[.string s, .pointer (some ⟨g, 0, none⟩)] w fun e w' => e = .returned (.int .i64 ((fuN s : Nat) : Int)) ∧ Below w.heap.size w w' := by
  have hgs : g < w.heap.size := (Array.getElem?_eq_some_iff.1 hr.out).1
  have HA : Hid (fuN s = (unk s s.size 0).getD s.size) := rfl
  go_enter Tryz.func28, Tryz.ntmps28
  go_wp2_with fail
  go_loopw [8] (fun i wr => ∃ (k fuel : Nat), i = .int .i64 (k : Int) ∧ Hid (unk s fuel k = unk s s.size 0) ∧ s.size ≤ k + fuel ∧ k ≤ s.size ∧ Below w.heap.size w wr) (fun i _ => s.size - (intOf i).toNat)
  case atStart => exact ⟨0, s.size, rfl, rfl, by omega, by omega, Below.refl _ w⟩
  case round =>
    obtain ⟨k, fuel, rfl, Hb, hf, hk, bel⟩ := hrel
    by_cases hlt : k < s.size
    · obtain ⟨f, rfl⟩ : ∃ f, fuel = f + 1 := ⟨fuel - 1, by omega⟩
      have hlt' : (k : Int) < (s.size : Int) := by omega
      have hk0 : (0 : Int) ≤ (k : Int) := by omega
      have hix := fun (w : World) => idx9 w s k hlt
      obtain ⟨c, hc⟩ : ∃ c, c = byt s k := ⟨_, rfl⟩
      have hc256 : c < 256 := by rw [hc]; exact byt_lt _ _
      have hc0 : (0 : Int) ≤ (c : Int) := by omega
      have hc1 : (c : Int) < 256 := by omega
      rw [← hc] at hix
      have HC : Hid (c = byt s k) := hc
      clear hc
      have cc : wr.cell? ⟨g, c, none⟩ = some (.int .u8 ((kn 32 c : Nat) : Int)) := by rw [cell_of_row wr _ _ _ _ _ ((bel.block g hgs).trans hr.out), bs_get _ _ (by rw [K32_len]; exact hc256), K32_get 32 c hc256]
      by_cases hm : kn 32 c = 0
      · have HE : Hid (fuN s = k) := by
          have := Hb.out
          simp only [unk, hlt, if_true, ← HC.out, hm] at this
          have h2 := HA.out
          rw [← this] at h2
          exact h2
        rw [hm] at cc
        have cc' : wr.cell? ⟨g, c, none⟩ = some (.int .u8 0) := cc
        clear cc
        go_wp2
        go_quiet (fail)
        go_wp2
        go_ret
        exact ⟨by rw [HE.out]; rfl, Below.drewN' bel _⟩
      · have hm' : ¬ (((kn 32 c : Nat) : Int) = 0) := by omega
        have HE : Hid (unk s f (k + 1) = unk s s.size 0) := by
          have := Hb.out
          simp only [unk, hlt, if_true, ← HC.out, hm, if_false] at this
          exact this
        obtain ⟨x, hx⟩ : ∃ x : Int, x = ((kn 32 c : Nat) : Int) := ⟨_, rfl⟩
        rw [← hx] at cc hm'
        clear hx
        go_wp2
        go_quiet (fail)
        go_wp2
        go_roundw
        case rel => exact ⟨k + 1, f, by go_num, HE, by omega, by omega, Below.drewN' bel _⟩
        case measure => simp [intOf]; omega
    · have hlt' : ¬ (k : Int) < (s.size : Int) := by omega
      have HE : Hid (fuN s = s.size) := by
        have := Hb.out
        rw [unk_end s fuel k hlt] at this
        have h2 := HA.out
        rw [← this] at h2
        exact h2
      go_wp2
      go_ret
      exact ⟨by rw [HE.out]; rfl, bel⟩
end Go.Proofs.YtffghlbgbfhfdaaGreatDoor

/- UnBase32: the code's, whole. -/
namespace Go.Proofs.YtffghlbgbfhfdaaGreatDoor
open Go.RowKit
/-- A digit's value, counted from the end. -/
def dvN (s : ByteArray) (i : Nat) : Nat := kn 32 (byt s (s.size - 1 - i)) - 1
def unN (s : ByteArray) : Nat := dsum (dvN s) s.size
def spareN (s : ByteArray) : Nat := 5 * s.size - 8 * (5 * s.size / 8)
/-- The error and its place. -/
def unE (s : ByteArray) : Nat × Nat :=
  if fuN s < s.size then (10, fuN s) else if 5 ≤ spareN s then (3, s.size) else if 0 < spareN s ∧ ¬ (kn 32 (byt s 0) - 1) / 2 ^ (5 - spareN s) = 0 then (11, 0) else (0, 0)
theorem unk_none (s : ByteArray) : ∀ f i, unk s f i = none → ∀ j, i ≤ j → j < i + f → j < s.size → ¬ kn 32 (byt s j) = 0
  | 0, i, _, j, h1, h2, _ => by omega
  | f + 1, i, h, j, h1, h2, h3 => by
    by_cases hi : i < s.size
    · by_cases hk : kn 32 (byt s i) = 0
      · simp [unk, hi, hk] at h
      · simp only [unk, hi, if_true, hk, if_false] at h
        by_cases he : j = i
        · subst he; exact hk
        · exact unk_none s f (i + 1) h j (by omega) (by omega) h3
    · omega
theorem unk_lt (s : ByteArray) : ∀ f i k, unk s f i = some k → k < s.size
  | 0, i, k, h => by simp [unk] at h
  | f + 1, i, k, h => by
    by_cases hi : i < s.size
    · by_cases hk : kn 32 (byt s i) = 0
      · simp only [unk, hi, if_true, hk] at h
        have := Option.some.inj h
        omega
      · simp only [unk, hi, if_true, hk, if_false] at h
        exact unk_lt s f (i + 1) k h
    · simp [unk, hi] at h
theorem fuN_le (s : ByteArray) : fuN s ≤ s.size := by
  unfold fuN
  cases h : unk s s.size 0 with
  | none => simp
  | some k => have := unk_lt s _ _ _ h; simp; omega
theorem fuN_all (s : ByteArray) (h : ¬ fuN s < s.size) (j : Nat) (hj : j < s.size) : ∃ v, kn 32 (byt s j) = v + 1 := by
  have hn : unk s s.size 0 = none := by
    cases hu : unk s s.size 0 with
    | none => rfl
    | some k =>
      have := unk_lt s _ _ _ hu
      unfold fuN at h
      rw [hu] at h
      simp at h
      omega
  have := unk_none s _ _ hn j (by omega) (by omega) hj
  exact ⟨kn 32 (byt s j) - 1, by omega⟩
theorem dv_lt (s : ByteArray) (i : Nat) : dvN s i < 32 := by
  have := kn_le ⟨byt s (s.size - 1 - i), byt_lt _ _⟩
  unfold dvN
  simp only at this
  omega
theorem byts_set1 (N v k n : Nat) (hN : N < 32 ^ k) (hn : 5 * k / 8 + 1 = n) :
    (byts N n).set (5 * k / 8) ((N / 256 ^ (5 * k / 8) % 256) ||| (v * 2 ^ (5 * k % 8) % 256)) = byts (N + v * 32 ^ k) n := by
  apply List.ext_getElem
  · rw [List.length_set, byts_len, byts_len]
  · intro j h1 h2
    rw [List.length_set, byts_len] at h1
    rw [List.getElem_set]
    simp only [byts, List.getElem_map, List.getElem_range]
    split
    · rename_i he
      subst he
      rw [byts_step_at N v k hN]
    · rw [byts_step_lo N v k j (by omega)]
theorem byts_set2 (N v k n : Nat) (hN : N < 32 ^ k) (hv : v < 32) :
    ((byts N n).set (5 * k / 8) ((N / 256 ^ (5 * k / 8) % 256) ||| (v * 2 ^ (5 * k % 8) % 256))).set (5 * k / 8 + 1) (v / 2 ^ (8 - 5 * k % 8)) = byts (N + v * 32 ^ k) n := by
  apply List.ext_getElem
  · rw [List.length_set, List.length_set, byts_len, byts_len]
  · intro j h1 h2
    rw [List.length_set, List.length_set, byts_len] at h1
    rw [List.getElem_set, List.getElem_set]
    simp only [byts, List.getElem_map, List.getElem_range]
    split
    · rename_i he
      subst he
      rw [(byts_step_next N v k hN hv).1]
    · split
      · rename_i he
        subst he
        rw [byts_step_at N v k hN]
      · by_cases hj : j < 5 * k / 8
        · rw [byts_step_lo N v k j hj]
        · rw [byts_step_hi N v k j hN hv (by omega)]
/-- The store of a whole array, kept shut. -/
def storeR (ty : Nat) (p v : Value) : Sem Unit := Instr.storeAt ty p v
theorem to49s (p v : Value) : Instr.storeAt 58 p v = storeR 58 p v := rfl
theorem run_storeR49 (w : World) (g : Nat) (old l : List Nat) (hg : w.heap[g]? = some (.cells (bs old) 58 (0, 0))) (h1 : old.length = 256) (h2 : l.length = 256) : (storeR 58 (.pointer (some ⟨g, 0, none⟩)) (.agg (bs l))).run Tryz.prog w = .ok () (w.setRow g (bs l)) := by
  unfold storeR
  simp only [Instr.storeAt, Instr.sureAddr, Sem.run_bind, Sem.run_pure, Result.andThen_ok, run_storeVar_row w g 58 58 (bs old) (bs l) hg (by rw [size49, bs_size, h2]) (by rw [bs_size, bs_size, h1, h2]) (bs_one _)]
/-- What UnBase32 answers. -/
def UnPost (s : ByteArray) (w : World) (e : Ending) (w' : World) : Prop :=
  Below w.heap.size w w' ∧ ∃ v, e = .returned (.tuple #[v, .int .i64 (((unE s).1 : Nat) : Int), .int .i64 (((unE s).2 : Nat) : Int)]) ∧
    if (unE s).1 = 0 then ∃ g, v = .slice (some ⟨g, 0, none⟩) (5 * s.size / 8) (5 * s.size / 8) ∧ w.heap.size ≤ g ∧ w'.heap[g]? = some (.cells (bs (byts (unN s) (5 * s.size / 8))) 5 (0, 0)) else v = .slice none 0 0
attribute [local go_sem] zero49
attribute [local go_sem ↓] to49s toMk
set_option maxRecDepth 100000 in
set_option maxHeartbeats 3200000 in
theorem un_any (s : ByteArray) (hs : s.size ≤ 1099511627776) (w : World) (ht : Tx w) : Calls Tryz.prog 81 #[.string s] w (UnPost s w) := by
  have hsz := ht.sz
  go_enter Tryz.func81, Tryz.ntmps81
  go_wp2_with fail
  refine (known_any w ht).mono ?_
  rintro e W1 ⟨rfl, b1⟩
  have z1 := b1.size
  have hst := run_storeR49 (W1.alloc (.cells (bs (K32 0)) 58)) W1.heap.size (K32 0) (K32 32) (heap_alloc_new _ _) (K32_len _) (K32_len _)
  obtain ⟨W2, hW2⟩ : ∃ W, W = (W1.alloc (.cells (bs (K32 0)) 58)).setRow W1.heap.size (bs (K32 32)) := ⟨_, rfl⟩
  have r2 : Hid (W2.heap[W1.heap.size]? = some (.cells (bs (K32 32)) 58 (0, 0))) := by rw [hW2]; exact setRow_heap _ _ _ _ _ _ (heap_alloc_new _ _)
  have bel2 : Below w.heap.size w W2 := by rw [hW2]; exact below_setRow (b1.alloc z1 _) z1 _
  rw [← hW2, ← zc82] at hst
  clear hW2 b1
  go_wp2_with fail
  refine (first_any s hs W1.heap.size W2 r2).mono ?_
  rintro e W3 ⟨rfl, b3⟩
  have hg2 : W1.heap.size < W2.heap.size := (Array.getElem?_eq_some_iff.1 r2.out).1
  have r3 : Hid (W3.heap[W1.heap.size]? = some (.cells (bs (K32 32)) 58 (0, 0))) := (b3.block _ hg2).trans r2.out
  have bel3 : Below w.heap.size w W3 := bel2.trans (b3.mono (by omega))
  have hg3 : W1.heap.size < W3.heap.size := (Array.getElem?_eq_some_iff.1 r3.out).1
  clear hst r2 bel2 b3 hg2
  revert r3 hg3 z1
  generalize W1.heap.size = G
  intro z1 r3 hg3
  obtain ⟨F, hF⟩ : ∃ F, F = fuN s := ⟨_, rfl⟩
  have hFle := fuN_le s
  rw [← hF]
  by_cases hA : F < s.size
  · have hA' : (F : Int) < (s.size : Int) := by omega
    have hE : Hid (unE s = (10, F)) := by show _ = _; unfold unE; rw [if_pos (by omega), hF]
    clear hF hFle
    go_wp2
    go_ret3
    refine ⟨bel3, .slice none 0 0, ?_, ?_⟩
    · rw [hE.out]; rfl
    · rw [hE.out]; rfl
  · have hA' : ¬ ((F : Int) < (s.size : Int)) := by omega
    have HF : Hid (¬ fuN s < s.size) := by show ¬ _; omega
    obtain ⟨n, hn⟩ : ∃ n, n = 5 * s.size / 8 := ⟨_, rfl⟩
    obtain ⟨P, hP⟩ : ∃ P, P = spareN s := ⟨_, rfl⟩
    have hnI : 5 * (s.size : Int) / 8 = (n : Int) := by omega
    have hnT : Int.tdiv (5 * (s.size : Int)) 8 = (n : Int) := by rw [Int.tdiv_eq_ediv_of_nonneg (by omega)]; exact hnI
    have hnW : IntKind.i64.wrap (n : Int) = (n : Int) := by rw [IntKind.wrap_i64]; omega
    have hw5 : IntKind.i64.wrap (5 * (s.size : Int)) = 5 * (s.size : Int) := by rw [IntKind.wrap_i64]; omega
    have hw8 : IntKind.i64.wrap (8 * (n : Int)) = 8 * (n : Int) := by rw [IntKind.wrap_i64]; omega
    have hPs : P = 5 * s.size - 8 * n := by rw [hP, hn]; rfl
    have hPI : 5 * (s.size : Int) - 8 * (n : Int) = (P : Int) := by omega
    have hPW : IntKind.i64.wrap (P : Int) = (P : Int) := by rw [IntKind.wrap_i64]; omega
    have hn1 : n ≤ 1099511627776 := by omega
    have HN : Hid (n = 5 * s.size / 8) := hn
    have HP : Hid (P = spareN s) := hP
    have HPs : Hid (P = 5 * s.size - 8 * n) := hPs
    clear hn hP hPs hF
    by_cases hB : 5 ≤ P
    · have hB' : (5 : Int) ≤ (P : Int) := by omega
      have hE : Hid (unE s = (3, s.size)) := by show _ = _; unfold unE; rw [if_neg HF.out, if_pos (by rw [← HP.out]; exact hB)]
      go_wp2
      go_ret3
      refine ⟨bel3, .slice none 0 0, ?_, ?_⟩
      · rw [hE.out]; rfl
      · rw [hE.out]; rfl
    · have hB' : ¬ ((5 : Int) ≤ (P : Int)) := by omega
      obtain ⟨w0, hmk, hrow0, belm⟩ := run_mkN W3 n (by omega)
      have z3 : W3.heap.size < w0.heap.size := (Array.getElem?_eq_some_iff.1 hrow0).1
      have rm : Hid (w0.heap[G]? = some (.cells (bs (K32 32)) 58 (0, 0))) := (belm.block _ hg3).trans r3.out
      have ro : Hid (w0.heap[W3.heap.size]? = some (.cells (bs (byts (dsum (dvN s) 0) n)) 5 (0, 0))) := by rw [dsum, byts_zero]; exact hrow0
      have bm : Below w.heap.size w w0 := bel3.trans (belm.mono bel3.size)
      have hws : w.heap.size ≤ W3.heap.size := bel3.size
      clear hrow0
      by_cases hP0 : P = 0
      case' pos =>
        have hE : Hid (unE s = (0, 0)) := by show _ = _; unfold unE; rw [if_neg HF.out, if_neg (by rw [← HP.out]; exact hB), if_neg (by rw [← HP.out, hP0]; simp)]
        subst hP0
        go_wp2_with fail
      case' neg =>
        have hP1 : (0 : Int) < (P : Int) := by omega
        have hpos : 0 < s.size := by have := HPs.out; omega
        obtain ⟨v0, hv0⟩ := fuN_all s HF.out 0 hpos
        obtain ⟨c0, hc0⟩ : ∃ c, c = byt s 0 := ⟨_, rfl⟩
        have hix := fun (w : World) => idx9 w s 0 hpos
        have hix' : ∀ W : World, (Instr.index 9 (.string s) (.int .i64 0)).run Tryz.prog W = .ok (.int .u8 (c0 : Int)) W := fun W => by rw [hc0]; exact hix W
        have hc256 : c0 < 256 := by rw [hc0]; exact byt_lt _ _
        have CV : Hid (Calls Tryz.prog 29 #[.pointer (some ⟨G, 0, none⟩), .int .u8 (c0 : Int)] W3 fun e w' => e = .returned (.int .u8 (v0 : Int)) ∧ w' = W3) := value_any G c0 v0 hc256 (by rw [hc0]; exact hv0) W3 r3
        have h5P : IntKind.i64.wrap (5 - (P : Int)) = 5 - (P : Int) := by rw [IntKind.wrap_i64]; omega
        obtain ⟨S, hS⟩ : ∃ S, S = 5 - P := ⟨_, rfl⟩
        have hS5 : 5 - (P : Int) = (S : Int) := by omega
        obtain ⟨T, hT⟩ : ∃ T, T = v0 / 2 ^ S := ⟨_, rfl⟩
        have hTI : (v0 : Int) / 2 ^ S = (T : Int) := by rw [hT]; simp
        have hv32 : v0 < 32 := by have := kn_le ⟨byt s 0, byt_lt _ _⟩; simp only at this; omega
        have hT32 : T < 32 := by rw [hT]; exact Nat.lt_of_le_of_lt (Nat.div_le_self _ _) hv32
        have hS8 : S ≤ 5 := by omega
        have hSW : IntKind.i64.wrap (S : Int) = (S : Int) := by rw [IntKind.wrap_i64]; omega
        by_cases hT0 : T = 0
        case neg =>
          have hT0' : ¬ ((T : Int) = 0) := by omega
          have hE : Hid (unE s = (11, 0)) := by
            show _ = _
            unfold unE
            rw [if_neg HF.out, if_neg (by rw [← HP.out]; exact hB), if_pos ⟨by rw [← HP.out]; omega, by rw [← HP.out, hv0, Nat.add_sub_cancel, ← hS, ← hT]; exact hT0⟩]
          clear hT hS hc0 hix hv0
          go_wp2_with (go_at_call 29; refine CV.out.mono ?_; rintro e w' ⟨rfl, rfl⟩)
          go_ret3
          refine ⟨bel3, .slice none 0 0, ?_, ?_⟩
          · rw [hE.out]; rfl
          · rw [hE.out]; rfl
        have hE : Hid (unE s = (0, 0)) := by
          show _ = _
          unfold unE
          rw [if_neg HF.out, if_neg (by rw [← HP.out]; exact hB), if_neg (by rw [← HP.out, hv0, Nat.add_sub_cancel, ← hS, ← hT, hT0]; simp)]
        clear hT hS hc0 hix hv0
        subst hT0
        go_wp2_with (go_at_call 29; refine CV.out.mono ?_; rintro e w' ⟨rfl, hw'⟩; have hw2 := hw'.symm; subst hw2)
      all_goals
        clear r3 hmk belm bel3 hA hFle hPI hPW hB hB' HP
        have hGO : G < W3.heap.size := hg3
        have HWS : Hid (w.heap.size ≤ W3.heap.size) := hws
        revert hGO ro z3
        generalize W3.heap.size = O at *
        intro hGO ro z3
        go_loopw [51] (fun i wr => ∃ k : Nat, i = .int .i64 (k : Int) ∧ k ≤ s.size ∧ Hid (wr.heap[G]? = some (.cells (bs (K32 32)) 58 (0, 0))) ∧ Hid (wr.heap[O]? = some (.cells (bs (byts (dsum (dvN s) k) n)) 5 (0, 0))) ∧ Below w.heap.size w wr) (fun i _ => s.size - (intOf i).toNat)
        case atStart => exact ⟨0, rfl, by omega, rm, ro, bm⟩
        case round =>
          clear rm ro bm
          obtain ⟨k, rfl, hk, rm, ro, bel⟩ := hrel
          by_cases hlt : k < s.size
          · have hk0 : (0 : Int) ≤ (k : Int) := by omega
            have hk1 : (k : Int) < (s.size : Int) := by omega
            obtain ⟨A, hAe⟩ : ∃ A, A = 5 * k / 8 := ⟨_, rfl⟩
            obtain ⟨S, hSe⟩ : ∃ S, S = 5 * k % 8 := ⟨_, rfl⟩
            have hAn : A < n := by have := HPs.out; omega
            have hAI : 5 * (k : Int) / 8 = (A : Int) := by omega
            have hAT : Int.tdiv (5 * (k : Int)) 8 = (A : Int) := by rw [Int.tdiv_eq_ediv_of_nonneg (by omega)]; exact hAI
            have hAW : IntKind.i64.wrap (A : Int) = (A : Int) := by rw [IntKind.wrap_i64]; omega
            have hSI : 5 * (k : Int) % 8 = (S : Int) := by omega
            have hST : Int.tmod (5 * (k : Int)) 8 = (S : Int) := by rw [Int.tmod_eq_emod_of_nonneg (by omega)]; exact hSI
            have hS8 : S < 8 := by omega
            have hSW : IntKind.i64.wrap (S : Int) = (S : Int) := by rw [IntKind.wrap_i64]; omega
            have hwk : IntKind.i64.wrap (5 * (k : Int)) = 5 * (k : Int) := by rw [IntKind.wrap_i64]; omega
            obtain ⟨J, hJ⟩ : ∃ J, J = s.size - 1 - k := ⟨_, rfl⟩
            have hJ1 : IntKind.i64.wrap ((s.size : Int) - 1) = (s.size : Int) - 1 := by rw [IntKind.wrap_i64]; omega
            have hJ2 : IntKind.i64.wrap ((s.size : Int) - 1 - (k : Int)) = (J : Int) := by rw [IntKind.wrap_i64]; omega
            have hJ3 : (s.size : Int) - 1 - (k : Int) = (J : Int) := by omega
            have hJs : J < s.size := by omega
            have hix := fun (w : World) => idx9 w s J hJs
            obtain ⟨c, hc⟩ : ∃ c, c = byt s J := ⟨_, rfl⟩
            rw [← hc] at hix
            have hc256 : c < 256 := by rw [hc]; exact byt_lt _ _
            obtain ⟨v, hv⟩ := fuN_all s HF.out J hJs
            have hdv : dvN s k = v := by unfold dvN; rw [← hJ, hv, Nat.add_sub_cancel]
            have hv32 : v < 32 := by rw [← hdv]; exact dv_lt s k
            have CV : Hid (Calls Tryz.prog 29 #[.pointer (some ⟨G, 0, none⟩), .int .u8 (c : Int)] wr fun e w' => e = .returned (.int .u8 (v : Int)) ∧ w' = wr) := value_any G c v hc256 (by rw [hc]; exact hv) wr rm
            obtain ⟨N, hN⟩ : ∃ N, N = dsum (dvN s) k := ⟨_, rfl⟩
            rw [← hN] at ro
            have hNlt : N < 32 ^ k := by rw [hN]; exact dsum_lt _ s.size (fun i _ => dv_lt s i) k (by omega)
            have HNs : Hid (dsum (dvN s) (k + 1) = N + v * 32 ^ k) := by show _ = _; rw [hN, dsum, hdv]
            obtain ⟨a, ha⟩ : ∃ a, a = N / 256 ^ A % 256 := ⟨_, rfl⟩
            have ha256 : a < 256 := by omega
            have ca : wr.cell? ⟨O, A, none⟩ = some (.int .u8 (a : Int)) := by rw [cell_of_row wr _ _ _ _ _ ro.out, bs_get _ _ (by rw [byts_len]; exact hAn), byts_get _ _ _ hAn, ha]
            have fa : ∀ i, wr.frozen? ⟨O, i, none⟩ = false := fun i => frozen_of_row wr _ i _ _ ro.out
            have fa0 := fa A
            obtain ⟨L, hL⟩ : ∃ L, L = v * 2 ^ S % 256 := ⟨_, rfl⟩
            have hLI : (v : Int) * 2 ^ S % 256 = (L : Int) := by rw [hL]; simp
            have hL256 : L < 256 := by omega
            obtain ⟨X, hX⟩ : ∃ X, X = a ||| L := ⟨_, rfl⟩
            have hor : bits BinOp.or IntKind.u8 (a : Int) (L : Int) = (X : Int) := by rw [hX]; exact u8_or_nat a L ha256 hL256
            have r1 : Hid ((wr.setCell ⟨O, A, none⟩ (.int .u8 (X : Int))).heap[O]? = some (.cells (bs ((byts N n).set A X)) 5 (0, 0))) := by
              refine (heap_setCell_same _ _ _ _ _ _ ro.out).trans ?_
              rw [bs_set]
            have rm1 : Hid ((wr.setCell ⟨O, A, none⟩ (.int .u8 (X : Int))).heap[G]? = some (.cells (bs (K32 32)) 58 (0, 0))) := (heap_setCell_other _ _ _ _ (by show G ≠ O; omega)).trans rm.out
            have bel1 : Below w.heap.size w (wr.setCell ⟨O, A, none⟩ (.int .u8 (X : Int))) := bel.setCell (by have := HWS.out; omega) _
            have hA0 : (0 : Int) ≤ (A : Int) := by omega
            have hA1 : (A : Int) < (n : Int) := by omega
            have hA1W : IntKind.i64.wrap ((A : Int) + 1) = (A : Int) + 1 := by rw [IntKind.wrap_i64]; omega
            have hXe : Hid (X = (N / 256 ^ (5 * k / 8) % 256) ||| (v * 2 ^ (5 * k % 8) % 256)) := by show _ = _; rw [hX, ha, hL, hAe, hSe]
            by_cases hA2 : A + 1 < n
            · have hA3 : (A : Int) + 1 < (n : Int) := by omega
              obtain ⟨R, hR⟩ : ∃ R, R = v / 2 ^ (8 - S) := ⟨_, rfl⟩
              have hRI : (v : Int) / 2 ^ (8 - S) = (R : Int) := by rw [hR]; simp
              have hR256 : R < 256 := by rw [hR]; exact Nat.lt_of_le_of_lt (Nat.div_le_self _ _) (by omega)
              have hor2 : bits BinOp.or IntKind.u8 0 (R : Int) = (R : Int) := by
                have := u8_or_nat 0 R (by decide) hR256
                rw [Nat.zero_or] at this
                exact this
              have hw8S : IntKind.i64.wrap (8 - (S : Int)) = 8 - (S : Int) := by rw [IntKind.wrap_i64]; omega
              have cb : (wr.setCell ⟨O, A, none⟩ (.int .u8 (X : Int))).cell? ⟨O, A + 1, none⟩ = some (.int .u8 0) := by
                rw [cell_of_row _ _ _ _ _ _ r1.out, bs_get _ _ (by rw [List.length_set, byts_len]; exact hA2)]
                have h0 : ((byts N n).set A X).getD (A + 1) 0 = 0 := by
                  rw [List.getD, List.getElem?_set_ne (by omega), ← List.getD, byts_get _ _ _ hA2, hAe, (byts_step_next N v k hNlt hv32).2]
                rw [h0]
                rfl
              have fb : (wr.setCell ⟨O, A, none⟩ (.int .u8 (X : Int))).frozen? ⟨O, A + 1, none⟩ = false := frozen_of_row _ _ _ _ _ r1.out
              have r2 : Hid (((wr.setCell ⟨O, A, none⟩ (.int .u8 (X : Int))).setCell ⟨O, A + 1, none⟩ (.int .u8 (R : Int))).heap[O]? = some (.cells (bs (byts (dsum (dvN s) (k + 1)) n)) 5 (0, 0))) := by
                refine (heap_setCell_same _ _ _ _ _ _ r1.out).trans ?_
                rw [bs_set, HNs.out, hXe.out, hR, hAe, hSe, byts_set2 N v k n hNlt hv32]
              have rm2 : Hid (((wr.setCell ⟨O, A, none⟩ (.int .u8 (X : Int))).setCell ⟨O, A + 1, none⟩ (.int .u8 (R : Int))).heap[G]? = some (.cells (bs (K32 32)) 58 (0, 0))) := (heap_setCell_other _ _ _ _ (by show G ≠ O; omega)).trans rm1.out
              have bel2 : Below w.heap.size w ((wr.setCell ⟨O, A, none⟩ (.int .u8 (X : Int))).setCell ⟨O, A + 1, none⟩ (.int .u8 (R : Int))) := bel1.setCell (by have := HWS.out; omega) _
              clear hAe hSe hJ hc hN ha hL hX hR hv hdv
              go_wp2_with (go_at_call 29; refine CV.out.mono ?_; rintro e w' ⟨rfl, hw'⟩; have hw2 := hw'.symm; subst hw2)
              go_region
              go_wp2
              go_region
              go_wp2
              go_roundw
              case rel => exact ⟨k + 1, by go_num, by omega, rm2, r2, bel2.drew.drew⟩
              case measure => simp [intOf]; omega
            · have hA3 : ¬ ((A : Int) + 1 < (n : Int)) := by omega
              have r2 : Hid ((wr.setCell ⟨O, A, none⟩ (.int .u8 (X : Int))).heap[O]? = some (.cells (bs (byts (dsum (dvN s) (k + 1)) n)) 5 (0, 0))) := by
                refine r1.out.trans ?_
                rw [HNs.out, hXe.out, hAe, byts_set1 N v k n hNlt (by omega)]
              clear hAe hSe hJ hc hN ha hL hX hv hdv
              go_wp2_with (go_at_call 29; refine CV.out.mono ?_; rintro e w' ⟨rfl, hw'⟩; have hw2 := hw'.symm; subst hw2)
              go_region
              go_wp2
              go_roundw
              case rel => exact ⟨k + 1, by go_num, by omega, rm1, r2, bel1.drew⟩
              case measure => simp [intOf]; omega
          · have hk1 : ¬ ((k : Int) < (s.size : Int)) := by omega
            have hke : k = s.size := by omega
            subst hke
            go_wp2
            go_ret3
            refine ⟨bel, .slice (some ⟨O, 0, none⟩) n n, ?_, ?_⟩
            · rw [hE.out]; rfl
            · rw [hE.out]
              exact ⟨O, by rw [HN.out], HWS.out, by rw [← HN.out]; exact ro.out⟩
end Go.Proofs.YtffghlbgbfhfdaaGreatDoor
