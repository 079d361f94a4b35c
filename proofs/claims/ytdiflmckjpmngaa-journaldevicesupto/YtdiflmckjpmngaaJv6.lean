/- JournalDevices: the document's NewDevice. -/
import Derived.Test.YtdiflmckjpmngaaJv4
namespace Go.Proofs.Ytdiflmckjpmngaa
open Go.RowKit
/-- The document's device in the making. -/
structure Nr (W : World) (dk : Array Value) (wr : World) (c : Array Value) (ls : List (List Nat)) : Prop where
  bel : Below W.heap.size W wr
  disk : wr.heap[W.heap.size]? = some (.cells dk 28 (0, 0))
  row : wr.heap[W.heap.size + 1]? = some (.cells c 64 (0, 0))
  sz : c.size = 7
  ops : c[2]? = some (.slice none 0 0)
  each : ∀ (i : Nat) l, ls[i]? = some l → ∃ u, c[i]? = some u ∧ Bq (fun g => W.heap.size + 1 < g ∧ g < wr.heap.size) wr u l
theorem nr_step {W wr : World} {dk c : Array Value} {ls : List (List Nat)} (h : Nr W dk wr c ls) (f k : Nat) (hk : k < 7) (hk2 : k ≠ 2) (u : Value) (l : List Nat) (hd : dk[f]? = some u) (hu : Bl W u l) (hl : l.length ≤ LIM) :
    ∃ Y X, Y = wr.drew.alloc (.cells (bs l).toArray 5) ∧ X = Y.setCell ⟨W.heap.size + 1, k, none⟩ (.slice (some ⟨wr.heap.size, 0, none⟩) l.length l.length) ∧ wr.drew.cell? ⟨W.heap.size, f, none⟩ = some u ∧
    Calls Try.prog 32 #[u] wr.drew (fun e w' => e = .returned (.slice (some ⟨wr.heap.size, 0, none⟩) l.length l.length) ∧ w' = Y) ∧ Y.cell? ⟨W.heap.size + 1, k, none⟩ = some c[k]! ∧ Y.frozen? ⟨W.heap.size + 1, k, none⟩ = false ∧ Nr W dk X (c.setIfInBounds k (.slice (some ⟨wr.heap.size, 0, none⟩) l.length l.length)) (ls.set k l) := by
  refine ⟨_, _, rfl, rfl, ?_, ?_, ?_⟩
  · show wr.cell? _ = _
    rw [cell_of_row _ _ _ _ _ _ h.disk]
    exact hd
  · exact copR_any wr.drew u l (hu.below ⟨h.bel.os, h.bel.tape, h.bel.output, h.bel.size, h.bel.block⟩) hl
  have hv : W.heap.size + 1 < wr.heap.size := (Array.getElem?_eq_some_iff.1 h.row).1
  have bd : Below W.heap.size W wr.drew := ⟨h.bel.os, h.bel.tape, h.bel.output, h.bel.size, h.bel.block⟩
  have nq := bq_new (W := wr.drew) l (by obtain ⟨_, _, _, _, _, hb, _⟩ := hu; exact hb) hl
  have old : ∀ j, j < wr.heap.size → (wr.drew.alloc (.cells (bs l).toArray 5)).heap[j]? = wr.heap[j]? := fun j hj => heap_alloc_old _ _ (h := hj)
  have hz : (wr.drew.alloc (.cells (bs l).toArray 5)).heap.size = wr.heap.size + 1 := by simp
  obtain ⟨Y, hY⟩ : ∃ Y, wr.drew.alloc (.cells (bs l).toArray 5) = Y := ⟨_, rfl⟩
  have bY : Below W.heap.size W Y := by rw [← hY]; exact bd.alloc bd.size _
  rw [hY] at nq old hz ⊢
  have rY := (old _ hv).trans h.row
  have oth : ∀ v j, j ≠ W.heap.size + 1 → (Y.setCell ⟨W.heap.size + 1, k, none⟩ v).heap[j]? = Y.heap[j]? := fun v j hj => heap_setCell_other _ _ _ _ (by show j ≠ W.heap.size + 1; exact hj)
  have hsX : ∀ v, (Y.setCell ⟨W.heap.size + 1, k, none⟩ v).heap.size = Y.heap.size := fun v => by simp
  refine ⟨?_, frozen_of_row _ _ _ _ _ rY, ⟨bY.setCell (by show W.heap.size ≤ W.heap.size + 1; omega) _, (oth _ _ (by omega)).trans ((old _ (by omega)).trans h.disk), heap_setCell_same _ _ _ _ _ _ rY, by rw [Array.size_setIfInBounds]; exact h.sz, ?_, fun i m hm => ?_⟩⟩
  · rw [cell_of_row _ _ _ _ _ _ rY, getElem!_pos c k (by rw [h.sz]; exact hk)]
    exact Array.getElem?_eq_getElem (by rw [h.sz]; exact hk)
  · rw [Array.getElem?_setIfInBounds_ne (by omega)]
    exact h.ops
  · by_cases e : k = i
    · subst e
      have hm2 : m = l := by
        rw [List.getElem?_set_self' ] at hm
        cases hq : ls[k]? with
        | none => rw [hq] at hm; cases hm
        | some z => rw [hq] at hm; simpa using hm.symm
      subst hm2
      refine ⟨_, Array.getElem?_setIfInBounds_self_of_lt (by rw [h.sz]; exact hk), nq.keep (fun j hj => oth _ j (by have := hj.1; have : wr.heap.size ≤ j := hj.1; omega)) (fun j hj => ⟨by have : wr.heap.size ≤ j := hj.1; omega, by rw [hsX]; exact hj.2⟩)⟩
    · rw [List.getElem?_set_ne e] at hm
      obtain ⟨w, hw, q⟩ := h.each i m hm
      refine ⟨w, by rw [Array.getElem?_setIfInBounds_ne e]; exact hw, q.keep (fun j hj => (oth _ j (by have := hj.1; omega)).trans (old j hj.2)) (fun j hj => ⟨hj.1, by rw [hsX, hz]; have := hj.2; omega⟩)⟩
theorem bl_sl {W : World} {u : Value} {l : List Nat} (h : Bl W u l) : ∃ o c, u = .slice o l.length c := by
  obtain ⟨o, c, h1, _⟩ := h
  exact ⟨o, c, h1⟩
theorem nr_ro [Inhabited HoleT] {W w : World} {dk c : Array Value} {l0 l1 : List Nat} (h : Nr W dk w c [l0, l1, [], l0, l1, [], []]) (h0 : l0.length ≤ 50000000000000) (h1 : l1.length ≤ 50000000000000) (hH : holeB ≤ W.heap.size) : Ro W.heap.size w (W.heap.size + 1) (.slice none 0 0) (l0, l1) ((l0, []), (l1, [])) [] [] := by
  obtain ⟨b0, e0, q0⟩ := h.each 0 _ rfl
  obtain ⟨b1, e1, q1⟩ := h.each 1 _ rfl
  obtain ⟨s0, e3, q3⟩ := h.each 3 _ rfl
  obtain ⟨s1, e4, q4⟩ := h.each 4 _ rfl
  obtain ⟨m0, e5, q5⟩ := h.each 5 _ rfl
  obtain ⟨m1, e6, q6⟩ := h.each 6 _ rfl
  have e2 := h.ops
  have hc : c = #[b0, b1, .slice none 0 0, s0, s1, m0, m1] := by
    obtain ⟨l⟩ := c
    have hs := h.sz
    match l, hs with
    | [a0, a1, a2, a3, a4, a5, a6], _ => simp at e0 e1 e2 e3 e4 e5 e6; subst e0 e1 e2 e3 e4 e5 e6; rfl
  have k : ∀ u l, Bq (fun g => W.heap.size + 1 < g ∧ g < w.heap.size) w u l → Bq (Qd W.heap.size w (W.heap.size + 1) (.slice none 0 0)) w u l := fun u l q => q.keep (fun _ _ => rfl) (fun j hj => ⟨⟨by have := hj.1; omega, hole_ok (by have := hj.1; omega)⟩, hj.2, by have := hj.1; omega, by simp [Value.ownBlock]⟩)
  have hr := h.row
  rw [hc] at hr
  exact ⟨⟨⟨b0, b1, s0, s1, m0, m1, hr, k _ _ q0, k _ _ q1, k _ _ q3, k _ _ q4, k _ _ q5, k _ _ q6⟩, by omega, by simpa using h0, by simpa using h1⟩, World.ownsRow_nil _ _ _ _, rfl, Nat.le_trans hH h.bel.size, fun i a o q => by simp at q⟩
def zR : Array Value := #[.slice none 0 0, .slice none 0 0, .slice none 0 0, .slice none 0 0, .slice none 0 0, .slice none 0 0, .slice none 0 0]
theorem nr_zero (W : World) (dk : Array Value) : Nr W dk ((W.alloc (.cells dk 28)).alloc (.cells zR 64)) zR [[], [], [], [], [], [], []] := by
  refine ⟨below2 _ _ _, ?_, row2n _ _ _, rfl, rfl, fun i l hi => ?_⟩
  · exact (heap_alloc_old _ _ (h := by simp)).trans (heap_alloc_new _ _)
  · have hi7 : i < 7 := by have := (List.getElem?_eq_some_iff.1 hi).1; simpa using this
    have hl : l = [] := by
      match i, hi7 with
      | 0, _ | 1, _ | 2, _ | 3, _ | 4, _ | 5, _ | 6, _ => simpa using hi.symm
    subst hl
    refine ⟨.slice none 0 0, ?_, bq_nil _ _⟩
    match i, hi7 with
    | 0, _ | 1, _ | 2, _ | 3, _ | 4, _ | 5, _ | 6, _ => rfl
set_option maxRecDepth 100000 in
set_option maxHeartbeats 3200000 in
theorem NewR_any (W : World) (u0 u1 : Value) (l0 l1 : List Nat) (h0 : Bl W u0 l0) (h1 : Bl W u1 l1) (hl0 : l0.length ≤ LIM) (hl1 : l1.length ≤ LIM) : Calls Try.prog 13 #[.agg #[u0, u1]] W fun e w' => e = .returned (.pointer (some ⟨W.heap.size + 1, 0, none⟩)) ∧ ∃ c, Nr W #[u0, u1] w' c [l0, l1, [], l0, l1, [], []] := by
  obtain ⟨W2, hW2⟩ : ∃ W2, (W.alloc (.cells #[u0, u1] 28)).alloc (.cells zR 64) = W2 := ⟨_, rfl⟩
  have HS : Hid (∃ c, Nr W #[u0, u1] W2 c [[], [], [], [], [], [], []]) := by rw [← hW2]; exact ⟨_, nr_zero W _⟩
  have HB : Hid (Bl W u0 l0 ∧ Bl W u1 l1 ∧ l0.length ≤ LIM ∧ l1.length ≤ LIM) := ⟨h0, h1, hl0, hl1⟩
  obtain ⟨o0, c0, hu0⟩ := bl_sl h0
  obtain ⟨o1, c1, hu1⟩ := bl_sl h1
  obtain ⟨n0, hn0⟩ : ∃ n, l0.length = n := ⟨_, rfl⟩
  obtain ⟨n1, hn1⟩ : ∃ n, l1.length = n := ⟨_, rfl⟩
  rw [hn0] at hu0
  rw [hn1] at hu1
  subst hu0 hu1
  have HN : Hid (l0.length = n0 ∧ l1.length = n1) := ⟨hn0, hn1⟩
  have HW : Hid ((W.alloc (.cells #[.slice o0 n0 c0, .slice o1 n1 c1] 28)).alloc (.cells zR 64) = W2) := hW2
  clear hW2 h0 h1 hl0 hl1 hn0 hn1
  unfold zR at HW
  go_enter Try.func13, Try.ntmps13
  go_wp2_with fail
  rw [HW.out]
  go_loopw [4] (fun iv wr => (iv = .int .i64 0 ∧ Hid (∃ c, Nr W #[.slice o0 n0 c0, .slice o1 n1 c1] wr c [[], [], [], [], [], [], []])) ∨ (iv = .int .i64 1 ∧ Hid (∃ c, Nr W #[.slice o0 n0 c0, .slice o1 n1 c1] wr c [l0, [], [], l0, [], [], []])) ∨ (iv = .int .i64 2 ∧ Hid (∃ c, Nr W #[.slice o0 n0 c0, .slice o1 n1 c1] wr c [l0, l1, [], l0, l1, [], []]))) (fun iv _ => 2 - (intOf iv).toNat)
  case atStart => exact .inl ⟨rfl, HS⟩
  case round =>
    rcases hrel with ⟨rfl, HR⟩ | ⟨rfl, HR⟩ | ⟨rfl, HR⟩
    · obtain ⟨c, hN⟩ := HR.out
      obtain ⟨Y, X, hY, hX, g1, C1, g2, g3, hN2⟩ := nr_step hN 0 0 (by omega) (by omega) _ l0 rfl HB.out.1 HB.out.2.2.1
      obtain ⟨Y2, X2, hY2, hX2, k1, C2, k2, k3, hN3⟩ := nr_step hN2 0 3 (by omega) (by omega) _ l0 rfl HB.out.1 HB.out.2.2.1
      have HF : Hid (∃ c, Nr W #[.slice o0 n0 c0, .slice o1 n1 c1] X2 c [l0, [], [], l0, [], [], []]) := ⟨_, hN3⟩
      have HX : Hid (Y.setCell ⟨W.heap.size + 1, 0, none⟩ (.slice (some ⟨wr.heap.size, 0, none⟩) n0 n0) = X ∧ Y2.setCell ⟨W.heap.size + 1, 3, none⟩ (.slice (some ⟨X.heap.size, 0, none⟩) n0 n0) = X2) := by rw [← HN.out.1]; exact ⟨hX.symm, hX2.symm⟩
      rw [HN.out.1] at C1 C2
      have D1 : Hid _ := C1
      have D2 : Hid _ := C2
      obtain ⟨q1, hq1⟩ : ∃ q, c[0]! = q := ⟨_, rfl⟩
      rw [hq1] at g2
      clear hN hN2 hN3 hY hX hY2 hX2 C1 C2 hq1 HR
      go_wp2_with fail
      go_region_with (go_at_call 32; refine Calls.mono D1.out ?_; rintro e Y' ⟨rfl, hy⟩; have hy2 := hy.symm; subst hy2)
      all_goals
        go_wp2_with fail
        rw [HX.out.1]
        go_region_with (go_at_call 32; refine Calls.mono D2.out ?_; rintro e Y' ⟨rfl, hy⟩; have hy2 := hy.symm; subst hy2)
        all_goals
          go_wp2_with fail
          rw [HX.out.2]
          go_roundw
          case rel => exact .inr (.inl ⟨by go_num, HF⟩)
          case measure => simp [intOf]
    · obtain ⟨c, hN⟩ := HR.out
      obtain ⟨Y, X, hY, hX, g1, C1, g2, g3, hN2⟩ := nr_step hN 1 1 (by omega) (by omega) _ l1 rfl HB.out.2.1 HB.out.2.2.2
      obtain ⟨Y2, X2, hY2, hX2, k1, C2, k2, k3, hN3⟩ := nr_step hN2 1 4 (by omega) (by omega) _ l1 rfl HB.out.2.1 HB.out.2.2.2
      have HF : Hid (∃ c, Nr W #[.slice o0 n0 c0, .slice o1 n1 c1] X2 c [l0, l1, [], l0, l1, [], []]) := ⟨_, hN3⟩
      have HX : Hid (Y.setCell ⟨W.heap.size + 1, 1, none⟩ (.slice (some ⟨wr.heap.size, 0, none⟩) n1 n1) = X ∧ Y2.setCell ⟨W.heap.size + 1, 4, none⟩ (.slice (some ⟨X.heap.size, 0, none⟩) n1 n1) = X2) := by rw [← HN.out.2]; exact ⟨hX.symm, hX2.symm⟩
      rw [HN.out.2] at C1 C2
      have D1 : Hid _ := C1
      have D2 : Hid _ := C2
      obtain ⟨q1, hq1⟩ : ∃ q, c[1]! = q := ⟨_, rfl⟩
      rw [hq1] at g2
      clear hN hN2 hN3 hY hX hY2 hX2 C1 C2 hq1 HR
      go_wp2_with fail
      go_region_with (go_at_call 32; refine Calls.mono D1.out ?_; rintro e Y' ⟨rfl, hy⟩; have hy2 := hy.symm; subst hy2)
      all_goals
        go_wp2_with fail
        rw [HX.out.1]
        go_region_with (go_at_call 32; refine Calls.mono D2.out ?_; rintro e Y' ⟨rfl, hy⟩; have hy2 := hy.symm; subst hy2)
        all_goals
          go_wp2_with fail
          rw [HX.out.2]
          go_roundw
          case rel => exact .inr (.inr ⟨by go_num, HF⟩)
          case measure => simp [intOf]
    · go_wp2_with fail
      go_ret
      exact ⟨rfl, HR.out⟩
end Go.Proofs.Ytdiflmckjpmngaa
