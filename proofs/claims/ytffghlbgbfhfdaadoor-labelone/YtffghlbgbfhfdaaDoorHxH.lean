/- UnHex: the code's. -/
import Derived.Test.YtffghlbgbfhfdaaDoorHxS
namespace Go.Proofs.YtffghlbgbfhfdaaDoor.Hx
open Go.RowKit
/-- What a reader answers. -/
def RdP (L : List Nat) (E : Nat × Nat) (w : World) (e : Ending) (w' : World) : Prop :=
  Below w.heap.size w w' ∧ ∃ v, e = .returned (.tuple #[v, .int .i64 ((E.1 : Nat) : Int), .int .i64 ((E.2 : Nat) : Int)]) ∧
    if E.1 = 0 then w'.ownsRow w.heap.size 5 1 v L.length (bs L).toList else v = .slice none 0 0
/-- The store of a whole array, kept shut. -/
def storeR (ty : Nat) (p v : Value) : Sem Unit := Instr.storeAt ty p v
theorem to60s (p v : Value) : Instr.storeAt 82 p v = storeR 82 p v := rfl
theorem run_storeR60 (w : World) (g : Nat) (old l : List Nat) (hg : w.heap[g]? = some (.cells (bs old) 82 (0, 0))) (h1 : old.length = 256) (h2 : l.length = 256) : (storeR 82 (.pointer (some ⟨g, 0, none⟩)) (.agg (bs l))).run Tryd.prog w = .ok () (w.setRow g (bs l)) := by
  unfold storeR
  simp only [Instr.storeAt, Instr.sureAddr, Sem.run_bind, Sem.run_pure, Result.andThen_ok, run_storeVar_row w g 82 82 (bs old) (bs l) hg (by rw [size60, bs_size, h2]) (by rw [bs_size, bs_size, h1, h2]) (bs_one _)]
theorem own_row {w : World} {base g : Nat} {l : List Nat} (hb : base ≤ g) (hm : l.length ≤ maxLen) (h : w.heap[g]? = some (.cells (bs l) 5 (0, 0))) : w.ownsRow base 5 1 (.slice (some ⟨g, 0, none⟩) l.length l.length) l.length (bs l).toList :=
  ⟨by simp [bs], .inr ⟨g, l.length, bs l, rfl, hb, h, Nat.le_refl _, hm, by simp [bs], by rw [List.take_of_length_le (by simp [bs])]⟩⟩
/-- What lies there behind k rounds. -/
def partH (t : List Nat) (k : Nat) : List Nat := (List.range (t.length / 2)).map fun j => if j < k then (hexV t).getD j 0 else 0
theorem partH_len (t : List Nat) (k : Nat) : (partH t k).length = t.length / 2 := by simp [partH]
theorem partH_zero (t : List Nat) : partH t 0 = List.replicate (t.length / 2) 0 := by
  apply List.ext_getElem
  · simp [partH]
  · intro j h1 h2; simp [partH]
theorem partH_all (t : List Nat) : partH t (t.length / 2) = hexV t := by
  have hl := hexV_len _ t (Nat.le_refl _)
  apply List.ext_getElem
  · rw [partH_len, hl]
  · intro j h1 h2
    simp only [partH, List.getElem_map, List.getElem_range]
    rw [if_pos (by omega)]
    simp [List.getD, h2]
theorem partH_set (t : List Nat) (k : Nat) (hk : k < t.length / 2) : (partH t k).set k (kv D16 (t.getD (2 * k) 0) * 16 + kv D16 (t.getD (2 * k + 1) 0)) = partH t (k + 1) := by
  rw [← hexV_get _ t (Nat.le_refl _) k (by omega)]
  apply List.ext_getElem
  · rw [List.length_set, partH_len, partH_len]
  · intro j h1 h2
    rw [List.getElem_set]
    simp only [partH, List.getElem_map, List.getElem_range]
    split
    · rename_i he
      subst he
      rw [if_pos (by omega)]
    · by_cases hj : j < k
      · rw [if_pos hj, if_pos (by omega)]
      · rw [if_neg hj, if_neg (by omega)]
/-- What holds at each moment of a round: the table, the row ahead of the store and behind it. -/
structure RdS (s : ByteArray) (G O k X : Nat) (w wr : World) (b : Bool) (W : World) : Prop where
  kn : Kn D16 G W
  bel : Below w.heap.size w W
  row : W.heap[O]? = some (.cells (bs (partH (tl s) (if b = true then k + 1 else k))) 5 (0, 0))
theorem or16 (x y : Nat) (hx : x < 16) (hy : y < 16) : bits BinOp.or IntKind.u8 ((x * 16 : Nat) : Int) (y : Int) = ((x * 16 + y : Nat) : Int) := by
  rw [u8_or_nat (x * 16) y (by omega) (by omega)]
  congr 1
  rw [Nat.mul_comm, show (16 : Nat) = 2 ^ 4 by decide, Nat.two_pow_add_eq_or_of_lt (by omega)]
attribute [local go_sem ↓] to60s toMk
set_option maxRecDepth 100000 in
set_option maxHeartbeats 3200000 in
theorem unhex_any (s : ByteArray) (hs : s.size ≤ 281474976710656) (w : World) (ht : Tx w) : Calls Tryd.prog 25 #[.string s] w (RdP (hexV (tl s)) (hexE (tl s)) w) := by
  have hsz := ht.sz
  go_enter Tryd.func25, Tryd.ntmps25
  go_wp2_with fail
  refine (known16_any w ht).mono ?_
  rintro e W1 ⟨rfl, b1⟩
  have z1 := b1.size
  have hst := run_storeR60 (W1.alloc (.cells (bs Z256) 82)) W1.heap.size Z256 (KT D16 16) (heap_alloc_new _ _) Z256_len (KT_len _ _)
  rw [← zc60] at hst
  obtain ⟨W2, hW2⟩ : ∃ W, W = (W1.alloc (.cells Tryd.zeroCells82 82)).setRow W1.heap.size (bs (KT D16 16)) := ⟨_, rfl⟩
  have r2 : Hid (Kn D16 W1.heap.size W2) := by rw [hW2]; exact setRow_heap _ _ _ _ _ _ (heap_alloc_new _ _)
  have bel2 : Below w.heap.size w W2 := by rw [hW2]; exact below_setRow (b1.alloc z1 _) z1 _
  rw [← hW2] at hst
  clear hW2 b1
  go_wp2_with fail
  refine (first_any D16 s (by omega) W1.heap.size W2 r2).mono ?_
  rintro e W3 ⟨rfl, b3⟩
  have hg2 : W1.heap.size < W2.heap.size := (Array.getElem?_eq_some_iff.1 r2.out).1
  have r3 : Hid (Kn D16 W1.heap.size W3) := (b3.block _ hg2).trans r2.out
  have bel3 : Below w.heap.size w W3 := bel2.trans (b3.mono (by omega))
  have hg3 : W1.heap.size < W3.heap.size := (Array.getElem?_eq_some_iff.1 r3.out).1
  clear hst r2 bel2 b3 hg2
  revert r3 hg3 z1
  generalize W1.heap.size = G
  intro z1 r3 hg3
  obtain ⟨F, hF⟩ : ∃ F, F = fuL D16 (tl s) := ⟨_, rfl⟩
  have hFle : F ≤ s.size := by rw [hF]; exact Nat.le_trans (fuL_le _ _) (by rw [tl_len]; exact Nat.le_refl _)
  have hTl := tl_len s
  rw [← hF]
  by_cases hA : F < s.size
  · have hA' : (F : Int) < (s.size : Int) := by omega
    have hE : Hid (hexE (tl s) = (10, F)) := by show _ = _; unfold hexE; rw [if_pos (by omega), hF]
    clear hF hFle hTl
    go_wp2
    go_ret3
    refine ⟨bel3, .slice none 0 0, ?_, ?_⟩
    · rw [hE.out]; rfl
    · rw [hE.out]; rfl
  · have hA' : ¬ ((F : Int) < (s.size : Int)) := by omega
    have HF : Hid (¬ fuL D16 (tl s) < (tl s).length) := by show ¬ _; omega
    have HT : Hid ((tl s).length = s.size) := hTl
    clear hF hFle hTl
    by_cases hB : s.size % 2 = 0
    · have hB' : Int.tmod (s.size : Int) 2 = 0 := by rw [Int.tmod_eq_emod_of_nonneg (by omega)]; omega
      have hE : Hid (hexE (tl s) = (0, 0)) := by show _ = _; unfold hexE; rw [if_neg HF.out, if_pos (by rw [HT.out]; exact hB)]
      obtain ⟨n, hn⟩ : ∃ n, n = s.size / 2 := ⟨_, rfl⟩
      have hnI : (s.size : Int) / 2 = (n : Int) := by omega
      have hnT : Int.tdiv (s.size : Int) 2 = (n : Int) := by rw [Int.tdiv_eq_ediv_of_nonneg (by omega)]; exact hnI
      have hnW : IntKind.i64.wrap (n : Int) = (n : Int) := by rw [IntKind.wrap_i64]; omega
      have HN : Hid (n = (tl s).length / 2) := by show _ = _; rw [HT.out]; exact hn
      obtain ⟨w0, hmk, hrow0, belm⟩ := run_mkN W3 n (by omega)
      have z3 : W3.heap.size < w0.heap.size := (Array.getElem?_eq_some_iff.1 hrow0).1
      have rm : Hid (Kn D16 G w0) := (belm.block _ hg3).trans r3.out
      have ro : Hid (w0.heap[W3.heap.size]? = some (.cells (bs (partH (tl s) 0)) 5 (0, 0))) := by rw [partH_zero, ← HN.out]; exact hrow0
      have bm : Below w.heap.size w w0 := bel3.trans (belm.mono bel3.size)
      have hws : w.heap.size ≤ W3.heap.size := bel3.size
      have hn2 : 2 * n = s.size := by omega
      have HN2 : Hid (2 * n = s.size) := hn2
      clear hrow0 hn hn2 hB
      go_wp2_with fail
      clear r3 hmk belm bel3 hA hA' hB'
      have hGO : G < W3.heap.size := hg3
      have HWS : Hid (w.heap.size ≤ W3.heap.size) := hws
      revert hGO ro z3
      generalize W3.heap.size = O at *
      intro hGO ro z3
      go_loopw [29] (fun i wr => ∃ k : Nat, i = .int .i64 (k : Int) ∧ k ≤ n ∧ Hid (Kn D16 G wr) ∧ Hid (wr.heap[O]? = some (.cells (bs (partH (tl s) k)) 5 (0, 0))) ∧ Below w.heap.size w wr) (fun i _ => n - (intOf i).toNat)
      case atStart => exact ⟨0, rfl, by omega, rm, ro, bm⟩
      case round =>
        clear rm ro bm
        obtain ⟨k, rfl, hk, rm, ro, bel⟩ := hrel
        by_cases hlt : k < n
        · have hk0 : (0 : Int) ≤ (k : Int) := by omega
          have hk1 : (k : Int) < (n : Int) := by omega
          have hks : 2 * k + 1 < s.size := by have := HN2.out; omega
          have hs2 : (2 * (k : Int)) < (s.size : Int) := by omega
          have hix0 : ∀ W : World, (Instr.index 9 (.string s) (.int .i64 (2 * (k : Int)))).run Tryd.prog W = .ok (.int .u8 ((byt s (2 * k) : Nat) : Int)) W := fun W => by
            have := idx9 W s (2 * k) (by omega)
            rw [show ((2 * k : Nat) : Int) = 2 * (k : Int) by omega] at this
            exact this
          have hix1 : ∀ W : World, (Instr.index 9 (.string s) (.int .i64 (2 * (k : Int) + 1))).run Tryd.prog W = .ok (.int .u8 ((byt s (2 * k + 1) : Nat) : Int)) W := fun W => by
            have := idx9 W s (2 * k + 1) (by omega)
            rw [show ((2 * k + 1 : Nat) : Int) = 2 * (k : Int) + 1 by omega] at this
            exact this
          have hw2 : IntKind.i64.wrap (2 * (k : Int)) = 2 * (k : Int) := by rw [IntKind.wrap_i64]; omega
          have hw3 : IntKind.i64.wrap (2 * (k : Int) + 1) = 2 * (k : Int) + 1 := by rw [IntKind.wrap_i64]; omega
          obtain ⟨c, hc⟩ : ∃ c, c = byt s (2 * k) := ⟨_, rfl⟩
          obtain ⟨d, hd⟩ : ∃ d, d = byt s (2 * k + 1) := ⟨_, rfl⟩
          rw [← hc] at hix0
          rw [← hd] at hix1
          have hc256 : c < 256 := by rw [hc]; exact byt_lt _ _
          have hd256 : d < 256 := by rw [hd]; exact byt_lt _ _
          have kc : D16.idxOf c < D16.length := by
            have := fuL_all D16 (tl s) HF.out (2 * k) (by rw [HT.out]; omega)
            rw [tl_get s _ (by omega), ← hc] at this
            exact this
          have kd : D16.idxOf d < D16.length := by
            have := fuL_all D16 (tl s) HF.out (2 * k + 1) (by rw [HT.out]; omega)
            rw [tl_get s _ (by omega), ← hd] at this
            exact this
          obtain ⟨x, hx⟩ : ∃ x, x = kv D16 c := ⟨_, rfl⟩
          obtain ⟨y, hy⟩ : ∃ y, y = kv D16 d := ⟨_, rfl⟩
          have hx16 : x < 16 := by rw [hx]; exact kc
          have hy16 : y < 16 := by rw [hy]; exact kd
          have CX : Hid (∀ W : World, Kn D16 G W → Calls Tryd.prog 38 #[.pointer (some ⟨G, 0, none⟩), .int .u8 (c : Int)] W fun e w' => e = .returned (.int .u8 (x : Int)) ∧ w' = W) := fun W hK => by rw [hx]; exact value_any D16 (by decide) G c hc256 kc W hK
          have CY : Hid (∀ W : World, Kn D16 G W → Calls Tryd.prog 38 #[.pointer (some ⟨G, 0, none⟩), .int .u8 (d : Int)] W fun e w' => e = .returned (.int .u8 (y : Int)) ∧ w' = W) := fun W hK => by rw [hy]; exact value_any D16 (by decide) G d hd256 kd W hK
          have hsh : (x : Int) * 2 ^ 4 % 256 = ((x * 16 : Nat) : Int) := by omega
          have hsh' : (x : Int) * 16 % 256 = ((x * 16 : Nat) : Int) := by omega
          have hor := or16 x y hx16 hy16
          have hXe : Hid (x * 16 + y = kv D16 ((tl s).getD (2 * k) 0) * 16 + kv D16 ((tl s).getD (2 * k + 1) 0)) := by
            show _ = _
            rw [tl_get s _ (by omega), tl_get s _ (by omega), ← hc, ← hd, ← hx, ← hy]
          obtain ⟨X, hX⟩ : ∃ X, X = x * 16 + y := ⟨_, rfl⟩
          obtain ⟨Y, hY⟩ : ∃ Y, Y = x * 16 := ⟨_, rfl⟩
          rw [← hX] at hor hXe
          rw [← hY] at hor hsh hsh'
          have fa : wr.frozen? ⟨O, k, none⟩ = false := frozen_of_row wr _ k _ _ ro.out
          have hlen : (partH (tl s) k).length = n := by rw [partH_len, ← HN.out]
          have ca : wr.cell? ⟨O, k, none⟩ = some (.int .u8 (((partH (tl s) k).getD k 0 : Nat) : Int)) := by rw [cell_of_row wr _ _ _ _ _ ro.out, bs_get _ _ (by rw [hlen]; exact hlt)]
          have r1 : Hid ((wr.setCell ⟨O, k, none⟩ (.int .u8 (X : Int))).heap[O]? = some (.cells (bs (partH (tl s) (k + 1))) 5 (0, 0))) := by
            refine (heap_setCell_same _ _ _ _ _ _ ro.out).trans ?_
            rw [bs_set, hXe.out, partH_set (tl s) k (by rw [← HN.out]; exact hlt)]
          have rm1 : Hid (Kn D16 G (wr.setCell ⟨O, k, none⟩ (.int .u8 (X : Int)))) := (heap_setCell_other _ _ _ _ (by show G ≠ O; omega)).trans rm.out
          have bel1 : Below w.heap.size w (wr.setCell ⟨O, k, none⟩ (.int .u8 (X : Int))) := bel.setCell (by have := HWS.out; omega) _
          clear hc hd hx hy hX hY kc kd hlen
          have hshW : IntKind.u8.wrap ((x : Int) * 16) = (Y : Int) := by rw [wraps_u8 _ (by omega) (by omega)]; omega
          have CS1 : Hid (∀ b W, RdS s G O k X w wr b W → Calls Tryd.prog 38 #[.pointer (some ⟨G, 0, none⟩), .int .u8 (c : Int)] W fun e w' => e = .returned (.int .u8 (x : Int)) ∧ RdS s G O k X w wr b w') := fun b W hS => (CX.out W hS.kn).mono fun e w' ⟨h1, h2⟩ => ⟨h1, by rw [h2]; exact hS⟩
          have CS2 : Hid (∀ b W, RdS s G O k X w wr b W → Calls Tryd.prog 38 #[.pointer (some ⟨G, 0, none⟩), .int .u8 (d : Int)] W fun e w' => e = .returned (.int .u8 (y : Int)) ∧ RdS s G O k X w wr b w') := fun b W hS => (CY.out W hS.kn).mono fun e w' ⟨h1, h2⟩ => ⟨h1, by rw [h2]; exact hS⟩
          have S0 : Hid (RdS s G O k X w wr false wr.drew) := ⟨rm.out, bel.drew, ro.out⟩
          have SC : Hid (∀ W, RdS s G O k X w wr false W → ∃ v, W.cell? ⟨O, k, none⟩ = some v) := fun W hS => ⟨_, by rw [cell_of_row W _ _ _ _ _ hS.row, bs_get _ _ (by rw [partH_len, ← HN.out]; exact hlt)]⟩
          have SF : Hid (∀ W, RdS s G O k X w wr false W → W.frozen? ⟨O, k, none⟩ = false) := fun W hS => frozen_of_row W _ k _ _ hS.row
          have SX : Hid (∀ W, RdS s G O k X w wr false W → RdS s G O k X w wr true (W.setCell ⟨O, k, none⟩ (.int .u8 (X : Int)))) := fun W hS => by
            refine ⟨(heap_setCell_other _ _ _ _ (by show G ≠ O; omega)).trans hS.kn, hS.bel.setCell (by have := HWS.out; omega) _, ?_⟩
            have hr : W.heap[O]? = some (.cells (bs (partH (tl s) k)) 5 (0, 0)) := hS.row
            refine (heap_setCell_same _ _ _ _ _ _ hr).trans ?_
            rw [bs_set, hXe.out, partH_set (tl s) k (by rw [← HN.out]; exact hlt)]
            rfl
          clear CX CY fa ca r1 rm1 bel1 rm ro bel
          go_wp2_with fail
          rename_i Q1 K1 hK
          refine wp_region_vals (ops := reg11) (m := 16) (V := V11 s O n k c d x y X Y) (S := RdS s G O k X w wr) (by rw [reg11_size]; omega) (by kernel_rfl) (fun i o ho => (okR_at okR11 ho).1) (fun i j o oj d ho hj q1 q2 => (okR_at okR11 ho).2.2 j oj d hj q1 q2) (fun i o d ho q => (okR_at okR11 ho).2.1 d q)
            (step11 _ s O G n k c d x y X Y _ _ rfl rfl rfl rfl hw2 hw3 hix0 hix1 hshW hor hk0 hk1 CS1.out CS2.out SC.out SF.out SX.out) S0.out (fun w' hS => ?_)
          have HS' : Hid (RdS s G O k X w wr true w') := hS
          clear CS1 CS2 S0 SC SF SX hS
          show K1 _ w'
          rw [put11]
          refine hK _ _ ?_
          go_wp2
          go_roundw
          case rel => exact ⟨k + 1, by go_num, by omega, HS'.out.kn, HS'.out.row, HS'.out.bel⟩
          case measure => simp [intOf]; omega
        · have hk1 : ¬ ((k : Int) < (n : Int)) := by omega
          have hke : k = n := by omega
          subst hke
          have ro' := ro.out
          rw [HN.out, partH_all] at ro'
          have hL : (hexV (tl s)).length = k := by rw [hexV_len _ _ (Nat.le_refl _), ← HN.out]
          have hO := own_row HWS.out (by rw [hL]; unfold maxLen; omega) ro'
          rw [hL] at hO
          have HO : Hid (wr.ownsRow w.heap.size 5 1 (.slice (some ⟨O, 0, none⟩) k k) (hexV (tl s)).length (bs (hexV (tl s))).toList) := by rw [hL]; exact hO
          clear hO ro' hL
          go_wp2
          go_ret3
          refine ⟨bel, .slice (some ⟨O, 0, none⟩) k k, ?_, ?_⟩
          · rw [hE.out]; rfl
          · rw [hE.out]; exact HO.out
    · have hB' : Int.tmod (s.size : Int) 2 = 1 := by rw [Int.tmod_eq_emod_of_nonneg (by omega)]; omega
      have hE : Hid (hexE (tl s) = (3, s.size)) := by show _ = _; unfold hexE; rw [if_neg HF.out, if_neg (by rw [HT.out]; exact hB), HT.out]
      go_wp2
      go_ret3
      refine ⟨bel3, .slice none 0 0, ?_, ?_⟩
      · rw [hE.out]; rfl
      · rw [hE.out]; rfl
end Go.Proofs.YtffghlbgbfhfdaaDoor.Hx
