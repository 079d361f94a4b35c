/- DigestReads' walk. -/
import Derived.Test.YtkppejaigodgiabDoorRfE
import Derived.Test.YtkppejaigodgiabDoorCanon
namespace Go.Proofs.YtkppejaigodgiabDoor
open Go.RowKit
theorem th_zero (w : World) : Th w.heap.size 0 w (w.alloc (.cells #[.slice none 0 0, .slice none 0 0] 42)) := by
  refine ⟨⟨.slice none 0 0, .slice none 0 0, [], [], [], ⟨⟨heap_alloc_new _ _, World.ownsRow_nil _ _ _ _, World.ownsRow_nil _ _ _ _, fun k hk => by simp [Value.ownBlock] at hk⟩, rfl, ?_, ?_, ?_, ?_, ?_, ?_⟩, rfl, fun l hl => by cases hl⟩, (Below.refl _ w).alloc (Nat.le_refl _) _⟩
  · intro i x l hx; simp at hx
  · intro i x l hx; simp at hx
  · intro i x k hx; simp at hx
  · intro i x k hx; simp at hx
  · intro i j x y k hx; simp at hx
  · intro i j x y k hx; simp at hx
theorem rd_len (t : List Nat) : (rdV t).1.length = 32 := by
  by_cases h : (rdV t).2.2.1 = 0
  · exact (rd_canon h).2.1
  · unfold rdV at h ⊢
    cases hf : fmL t with
    | none => rfl
    | some g =>
      rw [hf] at h
      simp only at h ⊢
      by_cases h1 : (unF g (t.drop 7)).2.1 = 0
      · by_cases h2 : (unF g (t.drop 7)).1.length = 32
        · rw [if_neg (by omega), if_neg (by omega)] at h; exact absurd rfl h
        · rw [if_neg (by omega), if_pos h2]; rfl
      · rw [if_pos h1]; rfl
attribute [local go_sem ↓] toLd toSt
set_option maxRecDepth 100000 in
set_option maxHeartbeats 6400000 in
theorem reads_any (s : ByteArray) (hs : s.size ≤ 1048576) (w : World) (ht : Tx w) :
    Calls Tryd.prog 6 #[.string s] w fun e w' => e = .returned (.bool true) ∧ Below w.heap.size w w' := by
  obtain ⟨g, hg⟩ : ∃ g, w.heap.size = g := ⟨_, rfl⟩
  obtain ⟨W0, hW0⟩ : ∃ W0, w.alloc (.cells #[.slice none 0 0, .slice none 0 0] 42) = W0 := ⟨_, rfl⟩
  have T0 : Hid (Th g 0 w W0) := by rw [← hW0, ← hg]; exact th_zero w
  have hg2 : Hid (2 < g) := by rw [← hg]; exact ht.sz
  have CB : Hid (∀ (q : ByteArray) n W, q.size ≤ 1048576 → n ≤ 800 → Th g n w W → Calls Tryd.prog 25 #[.string q, .pointer (some ⟨g, 0, none⟩)] W fun e w' => e = .returned (.bool true) ∧ Th g (n + 3) w w') := fun q n W h1 h2 h3 => bases_any q h1 g n h2 hg2.out w W h3 ht
  have CW : Hid (∀ n W, n ≤ 800 → Tw g n w W → Calls Tryd.prog 25 #[.string s, .pointer (some ⟨g, 0, none⟩)] W fun e w' => e = .returned (.bool true) ∧ Tw g (n + 3) w w') := fun n W h2 h3 => bases_w s hs g n h2 hg2.out w W h3 ht
  have CS : Hid (∀ W, Th g 15 w W → Calls Tryd.prog 26 #[.pointer (some ⟨g, 0, none⟩)] W fun e w' => e = .returned (.bool true) ∧ Tw g 15 w w') := fun W h => by
    obtain ⟨⟨vl, vw, xs, ws, ls, K, hn, hb⟩, bl⟩ := h
    refine (stands_any g vl vw xs ws ls W (by omega) K hb).mono ?_
    rintro e w' ⟨rfl, h1, h2⟩
    exact ⟨rfl, ⟨vl, vw, xs, ws, h1, hn⟩, bl.trans h2⟩
  have C1 : Hid (∀ W, Below g w W → Calls Tryd.prog 24 #[.string s] W fun e w' => e = .returned (four (rdV (tl s))) ∧ Below W.heap.size W w') := fun W h => read_any s (by omega) W (ht.below h hg2.out)
  have C2 : Hid (∀ W, Calls Tryd.prog 27 #[.string s] W fun e w' => e = .returned (four (rdV (tl s))) ∧ Below W.heap.size W w') := fun W => readR_any s (by omega) W
  have RL := rd_len (tl s)
  obtain ⟨⟨t, k, e0, p⟩, hRD⟩ : ∃ x, x = rdV (tl s) := ⟨_, rfl⟩
  rw [← hRD] at C1 C2 RL
  replace RL : t.length = 32 := RL
  have eqA : ∀ W, (Op.equalIn 10000 24 (.agg (bs t)) (.agg (bs t))).run Tryd.prog W = .ok true W := fun W => by rw [eq24 W t t RL RL]; simp
  clear hRD
  have Hs : Hid (s.size ≤ 1048576) := hs
  have HG : Hid (w.heap.size = g) := hg
  rw [hg]
  clear hs ht
  go_enter Tryd.func6, Tryd.ntmps6
  go_wp2_with fail
  refine (CB.out s 0 W0 Hs.out (by omega) T0.out).mono ?_
  rintro e W1 ⟨rfl, t1⟩
  have T1 : Hid (Th g 3 w W1) := t1
  clear t1 T0 hW0 hg
  go_wp2_with fail
  refine (CB.out _ 3 W1 (by decide) (by omega) T1.out).mono ?_
  rintro e W2 ⟨rfl, t2⟩
  have T2 : Hid (Th g 6 w W2) := t2
  clear t2 T1
  go_wp2_with fail
  refine (CB.out s 6 W2 Hs.out (by omega) T2.out).mono ?_
  rintro e W3 ⟨rfl, t3⟩
  have T3 : Hid (Th g 9 w W3) := t3
  clear t3 T2
  go_wp2_with fail
  refine (CB.out _ 9 W3 (by decide) (by omega) T3.out).mono ?_
  rintro e W4 ⟨rfl, t4⟩
  have T4 : Hid (Th g 12 w W4) := t4
  clear t4 T3
  go_wp2_with fail
  refine (CB.out _ 12 W4 (by decide) (by omega) T4.out).mono ?_
  rintro e W5 ⟨rfl, t5⟩
  have T5 : Hid (Th g 15 w W5) := t5
  clear t5 T4
  go_wp2_with fail
  refine (CS.out W5 T5.out).mono ?_
  rintro e W6 ⟨rfl, t6⟩
  have T6 : Hid (Tw g 15 w W6) := t6
  clear t6 T5
  go_wp2_with fail
  refine (CW.out 15 W6 (by omega) T6.out).mono ?_
  rintro e W7 ⟨rfl, t7⟩
  have B7 : Hid (Below g w W7) := t7.bel
  have S7 : Hid (g < W7.heap.size) := by
    obtain ⟨⟨_, _, _, _, h, _⟩, _⟩ := t7
    exact (Array.getElem?_eq_some_iff.1 h.row).1
  clear t7 T6
  go_wp2_with fail
  refine (C1.out W7 B7.out).mono ?_
  rintro e W8 ⟨rfl, b8⟩
  have B8 : Hid (Below g w W8) := B7.out.trans (b8.mono (Nat.le_of_lt S7.out))
  have S8 : Hid (g < W8.heap.size) := Nat.lt_of_lt_of_le S7.out b8.size
  clear b8 B7 S7
  obtain ⟨WZ, hWZ⟩ : ∃ WZ, W8.alloc (.cells #[.int .u8 0, .int .u8 0, .int .u8 0, .int .u8 0, .int .u8 0, .int .u8 0, .int .u8 0, .int .u8 0, .int .u8 0, .int .u8 0, .int .u8 0, .int .u8 0, .int .u8 0, .int .u8 0, .int .u8 0, .int .u8 0, .int .u8 0, .int .u8 0, .int .u8 0, .int .u8 0, .int .u8 0, .int .u8 0, .int .u8 0, .int .u8 0, .int .u8 0, .int .u8 0, .int .u8 0, .int .u8 0, .int .u8 0, .int .u8 0, .int .u8 0, .int .u8 0] 24) = WZ := ⟨_, rfl⟩
  have rz : WZ.heap[W8.heap.size]? = some (.cells (bs z32) 24 (0, 0)) := by rw [← hWZ]; exact heap_alloc_new _ _
  have st1 := run_st WZ W8.heap.size z32 t rz rfl RL
  obtain ⟨W9, hW9⟩ : ∃ W, W = WZ.setRow W8.heap.size (bs t) := ⟨_, rfl⟩
  have R9 : Hid (W9.heap[W8.heap.size]? = some (.cells (bs t) 24 (0, 0))) := by rw [hW9]; exact setRow_heap _ _ _ _ _ _ rz
  have B9 : Hid (Below g w W9) := by
    rw [hW9, ← hWZ]
    exact below_setRow (B8.out.alloc (Nat.le_of_lt S8.out) _) (Nat.le_of_lt S8.out) (bs t)
  have Z9 : Hid (W8.heap.size < W9.heap.size) := (Array.getElem?_eq_some_iff.1 R9.out).1
  rw [← hW9] at st1
  unfold four
  clear rz hW9 B8
  go_wp2_with fail
  refine (C2.out W9).mono ?_
  rintro e W10 ⟨rfl, b10⟩
  have R10 : Hid (W10.heap[W8.heap.size]? = some (.cells (bs t) 24 (0, 0))) := (b10.block _ Z9.out).trans R9.out
  have B10 : Hid (Below g w W10) := B9.out.trans (b10.mono (by have := S8.out; have := Z9.out; omega))
  have Z10 : Hid (W8.heap.size < W10.heap.size) := Nat.lt_of_lt_of_le Z9.out b10.size
  clear b10 R9 B9 Z9 st1 hWZ
  obtain ⟨WY, hWY⟩ : ∃ WY, W10.alloc (.cells #[.int .u8 0, .int .u8 0, .int .u8 0, .int .u8 0, .int .u8 0, .int .u8 0, .int .u8 0, .int .u8 0, .int .u8 0, .int .u8 0, .int .u8 0, .int .u8 0, .int .u8 0, .int .u8 0, .int .u8 0, .int .u8 0, .int .u8 0, .int .u8 0, .int .u8 0, .int .u8 0, .int .u8 0, .int .u8 0, .int .u8 0, .int .u8 0, .int .u8 0, .int .u8 0, .int .u8 0, .int .u8 0, .int .u8 0, .int .u8 0, .int .u8 0, .int .u8 0] 24) = WY := ⟨_, rfl⟩
  have ry : WY.heap[W10.heap.size]? = some (.cells (bs z32) 24 (0, 0)) := by rw [← hWY]; exact heap_alloc_new _ _
  have st2 := run_st WY W10.heap.size z32 t ry rfl RL
  obtain ⟨W11, hW11⟩ : ∃ W, W = WY.setRow W10.heap.size (bs t) := ⟨_, rfl⟩
  have R11 : W11.heap[W10.heap.size]? = some (.cells (bs t) 24 (0, 0)) := by rw [hW11]; exact setRow_heap _ _ _ _ _ _ ry
  have Q11 : W11.heap[W8.heap.size]? = some (.cells (bs t) 24 (0, 0)) := by
    rw [hW11, setRow_other _ _ _ _ (Nat.ne_of_lt Z10.out), ← hWY, heap_alloc_old _ _ (h := Z10.out)]; exact R10.out
  have B11 : Hid (Below g w W11) := by
    rw [hW11, ← hWY]
    exact below_setRow (B10.out.alloc (by have := S8.out; have := Z10.out; omega) _) (by have := S8.out; have := Z10.out; omega) (bs t)
  have l1 := run_ld W11 _ t Q11 RL
  have l2 := run_ld W11 _ t R11 RL
  rw [← hW11] at st2
  unfold four
  clear ry hW11 R11 Q11 R10 B10
  go_wp2_with fail
  go_ret
  exact ⟨rfl, B11.out⟩
end Go.Proofs.YtkppejaigodgiabDoor
