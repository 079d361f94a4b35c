/- JournalDevices: the document's Count and Disk. -/
import Derived.Test.YtdiflmckjpmngaaJv6
namespace Go.Proofs.Ytdiflmckjpmngaa
open Go.RowKit
set_option maxRecDepth 100000 in
theorem CountR_any [Inhabited HoleT] {lo v : Nat} {W : World} {ov : Value} {B : List Nat × List Nat} {s : Fl × Fl} {xs : List (Array Value)} {os : List Opn} (h : Ro lo W v ov B s xs os) : Calls Try.prog 22 #[.pointer (some ⟨v, 0, none⟩)] W fun e w' => e = .returned (.int .i64 (xs.length : Int)) ∧ w' = W := by
  obtain ⟨b0, b1, s0, s1, l0, l1, hr, -⟩ := h.rw.row
  have hov : ∃ oV cV, ov = .slice oV xs.length cV := by
    rcases h.own.2 with ⟨h1, h2⟩ | ⟨g, cap, cur, h1, _⟩
    · exact ⟨none, 0, by rw [h1, h2]⟩
    · exact ⟨_, _, h1⟩
  obtain ⟨oV, cV, hov⟩ := hov
  have c2 : W.cell? ⟨v, 2, none⟩ = some (.slice oV xs.length cV) := by rw [cell_of_row _ _ _ _ _ _ hr, ← hov]; rfl
  clear h hr hov
  go_enter Try.func22, Try.ntmps22
  go_wp2_with fail
  go_ret
  exact ⟨rfl, rfl⟩
/-- Bytes copied, and bytes behind them. -/
theorem cat_step {E : World} {Q' : Nat → Prop} {su lu : Value} {S L : List Nat} (hs : Bl E su S) (hl : Bq Q' E lu L) (hQ' : ∀ j, Q' j → j < E.heap.size) (hlen : S.length + L.length ≤ LIM) :
    ∃ Y o n c Z, Y = E.alloc (.cells (bs S).toArray 5) ∧ Calls Try.prog 32 #[su] E (fun e w' => e = .returned (.slice (some ⟨E.heap.size, 0, none⟩) S.length S.length) ∧ w' = Y) ∧ (apB 25 #[.slice (some ⟨E.heap.size, 0, none⟩) S.length S.length, lu]).run Try.prog Y = .ok (.slice o n c) Z ∧ Below E.heap.size E Z ∧ Bq (fun g => E.heap.size ≤ g ∧ g < Z.heap.size) Z (.slice o n c) (S ++ L) := by
  obtain ⟨Y, hY⟩ : ∃ Y, E.alloc (.cells (bs S).toArray 5) = Y := ⟨_, rfl⟩
  have bY : Below E.heap.size E Y := by rw [← hY]; exact (Below.refl _ E).alloc (Nat.le_refl _) _
  have rY : Y.heap[E.heap.size]? = some (.cells (bs S).toArray 5 (0, 0)) := by rw [← hY]; exact heap_alloc_new _ _
  have hzY : Y.heap.size = E.heap.size + 1 := by rw [← hY]; simp
  unfold LIM at hlen
  have C := copR_any E su S hs (by unfold LIM; omega)
  rw [hY] at C
  have oY : Y.ownsRow E.heap.size 5 1 (.slice (some ⟨E.heap.size, 0, none⟩) S.length S.length) S.length (bs S) := ⟨by rw [bs_len]; omega, .inr ⟨E.heap.size, _, _, rfl, Nat.le_refl _, rY, Nat.le_refl _, by unfold maxLen; omega, by simp [bs_len], by rw [Nat.mul_one]; exact List.take_of_length_le (by rw [bs_len]; exact Nat.le_refl _)⟩⟩
  have hlY : Bq (fun _ => True) Y lu L := hl.keep (fun j hj => bY.block j (hQ' j hj)) (fun _ _ => trivial)
  obtain ⟨v', Z, hap, ho, hg, -⟩ := run_apQ Y E.heap.size _ _ lu _ L oY hlY (by unfold LIM; omega) (by omega)
  have bZ : Below E.heap.size E Z := ⟨hg.os.trans bY.os, hg.tape.trans bY.tape, hg.output.trans bY.output, Nat.le_trans bY.size hg.size, fun j hj => (hg.block j (by omega) (fun e => by simp [Value.ownBlock] at e; omega)).trans (bY.block j hj)⟩
  have hown : Bq (fun g => E.heap.size ≤ g ∧ g < Z.heap.size) Z v' (S ++ L) := bq_own (n := S.length + L.length) (by rw [bs_app]; exact ho) (fun b hb => by rcases List.mem_append.1 hb with q | q; obtain ⟨_, _, _, _, _, hh, _⟩ := hs; exact hh b q; obtain ⟨_, _, _, _, _, _, hh, _⟩ := hl; exact hh b q) (fun g hg2 => ho.lt g hg2) (by rw [List.length_append])
  obtain ⟨o, n, c, hv'⟩ := own_sl' ho
  subst hv'
  exact ⟨Y, o, n, c, Z, hY.symm, C, hap, bZ, hown⟩
/-- A disk in the making: its row at R, the result's at A. -/
structure Dr (W : World) (A R : Nat) (wr : World) (c : Array Value) (ls : List (List Nat)) : Prop where
  bel : Below W.heap.size W wr
  lt : W.heap.size ≤ A ∧ A < R
  res : wr.heap[A]? = some (.cells zD 28 (0, 0))
  row : wr.heap[R]? = some (.cells c 28 (0, 0))
  sz : c.size = 2
  each : ∀ (i : Nat) l, ls[i]? = some l → ∃ u, c[i]? = some u ∧ Bq (fun g => R < g ∧ g < wr.heap.size) wr u l
theorem dr_step {W wr Z : World} {A R : Nat} {c : Array Value} {ls : List (List Nat)} (h : Dr W A R wr c ls) (hZ : Below wr.heap.size wr Z) (k : Nat) (hk : k < 2) (u : Value) (l : List Nat) (hu : Bq (fun g => wr.heap.size ≤ g ∧ g < Z.heap.size) Z u l) :
    Z.cell? ⟨R, k, none⟩ = some c[k]! ∧ Z.frozen? ⟨R, k, none⟩ = false ∧ Dr W A R (Z.setCell ⟨R, k, none⟩ u) (c.setIfInBounds k u) (ls.set k l) := by
  have hR : R < wr.heap.size := (Array.getElem?_eq_some_iff.1 h.row).1
  have rZ := (hZ.block _ hR).trans h.row
  have hlt := h.lt
  have oth : ∀ j, j ≠ R → (Z.setCell ⟨R, k, none⟩ u).heap[j]? = Z.heap[j]? := fun j hj => heap_setCell_other _ _ _ _ (by show j ≠ R; exact hj)
  have hsX : (Z.setCell ⟨R, k, none⟩ u).heap.size = Z.heap.size := by simp
  have hzs := hZ.size
  refine ⟨?_, frozen_of_row _ _ _ _ _ rZ, ⟨(h.bel.trans (hZ.mono h.bel.size)).setCell (by show W.heap.size ≤ R; omega) _, h.lt, (oth _ (by omega)).trans ((hZ.block _ (by omega)).trans h.res), heap_setCell_same _ _ _ _ _ _ rZ, by rw [Array.size_setIfInBounds]; exact h.sz, fun i m hm => ?_⟩⟩
  · rw [cell_of_row _ _ _ _ _ _ rZ, getElem!_pos c k (by rw [h.sz]; exact hk)]
    exact Array.getElem?_eq_getElem (by rw [h.sz]; exact hk)
  · by_cases e : k = i
    · subst e
      have hm2 : m = l := by
        rw [List.getElem?_set_self' ] at hm
        cases hq : ls[k]? with
        | none => rw [hq] at hm; cases hm
        | some z => rw [hq] at hm; simpa using hm.symm
      subst hm2
      refine ⟨_, Array.getElem?_setIfInBounds_self_of_lt (by rw [h.sz]; exact hk), hu.keep (fun j hj => oth j (by have := hj.1; omega)) (fun j hj => ⟨by have := hj.1; omega, by rw [hsX]; exact hj.2⟩)⟩
    · rw [List.getElem?_set_ne e] at hm
      obtain ⟨w, hw, q⟩ := h.each i m hm
      refine ⟨w, by rw [Array.getElem?_setIfInBounds_ne e]; exact hw, q.keep (fun j hj => (oth j (by have := hj.1; omega)).trans (hZ.block j hj.2)) (fun j hj => ⟨hj.1, by rw [hsX]; have := hj.2; omega⟩)⟩
/-- What is handed out: two files. -/
def DkB (W : World) (p q : List Nat) (e : Value) (w' : World) : Prop := ∃ a b, e = .agg #[a, b] ∧ Bl w' a p ∧ Bl w' b q ∧ Below W.heap.size W w'
theorem dr_end {W wr : World} {A R : Nat} {c : Array Value} {p q : List Nat} (h : Dr W A R wr c [p, q]) : ∃ o0 n0 c0 o1 n1 c1, c = #[.slice o0 n0 c0, .slice o1 n1 c1] ∧ (wr.setRow A c).heap[A]? = some (.cells c 28 (0, 0)) ∧ DkB W p q (.agg c) (wr.setRow A c) := by
  obtain ⟨a, e0, q0⟩ := h.each 0 _ rfl
  obtain ⟨b, e1, q1⟩ := h.each 1 _ rfl
  have hc : c = #[a, b] := by
    obtain ⟨l⟩ := c
    have hs := h.sz
    match l, hs with
    | [a0, a1], _ => simp at e0 e1; subst e0 e1; rfl
  have hlt := h.lt
  have hR : R < wr.heap.size := (Array.getElem?_eq_some_iff.1 h.row).1
  have k : ∀ u l, Bq (fun g => R < g ∧ g < wr.heap.size) wr u l → Bl (wr.setRow A c) u l := fun u l q => (q.keep (Q' := fun g => R < g ∧ g < (wr.setRow A c).heap.size) (fun j hj => setRow_other _ _ _ _ (by have := hj.1; omega)) (fun j hj => ⟨hj.1, by simp; exact hj.2⟩)).bl (fun j hj => hj.2)
  obtain ⟨o0, c0, ha, -⟩ := id q0
  obtain ⟨o1, c1, hb, -⟩ := id q1
  refine ⟨o0, _, c0, o1, _, c1, by rw [hc, ha, hb], setRow_heap _ _ _ _ _ _ h.res, a, b, by rw [hc], k _ _ q0, k _ _ q1, below_setRow h.bel hlt.1 _⟩
section
attribute [local go_sem ↓] toApB toLdD toStD Go.wp_at_zero Go.wp_at_succ
set_option maxRecDepth 100000 in
set_option maxHeartbeats 3200000 in
theorem DiskR_any [Inhabited HoleT] {lo v : Nat} {W : World} {ov : Value} {B : List Nat × List Nat} {x y : Fl} (h : Rw lo W v ov B x y) : Calls Try.prog 21 #[.pointer (some ⟨v, 0, none⟩)] W fun e w' => ∃ c, e = .returned c ∧ DkB W (x.1 ++ x.2) (y.1 ++ y.2) c w' := by
  obtain ⟨b0, b1, s0, s1, l0, l1, hr, hb0, hb1, hs0, hs1, hl0, hl1⟩ := h.row
  have hvW : v < W.heap.size := (Array.getElem?_eq_some_iff.1 hr).1
  have hlim := h.lims
  obtain ⟨W2, hW2⟩ : ∃ W2, (W.alloc (.cells zD 28)).alloc (.cells zD 28) = W2 := ⟨_, rfl⟩
  have HS : Hid (∃ c, Dr W W.heap.size (W.heap.size + 1) W2 c [[], []]) := by
    rw [← hW2]
    refine ⟨zD, below2 _ _ _, ⟨Nat.le_refl _, by omega⟩, (heap_alloc_old _ _ (h := by simp)).trans (heap_alloc_new _ _), row2n _ _ _, rfl, fun i l hi => ?_⟩
    have hi7 : i < 2 := by have := (List.getElem?_eq_some_iff.1 hi).1; simpa using this
    have hl : l = [] := by
      match i, hi7 with
      | 0, _ | 1, _ => simpa using hi.symm
    subst hl
    refine ⟨.slice none 0 0, ?_, bq_nil _ _⟩
    match i, hi7 with
    | 0, _ | 1, _ => rfl
  have HW : Hid ((W.alloc (.cells zD 28)).alloc (.cells zD 28) = W2) := hW2
  obtain ⟨so0, sc0, hsv0, -⟩ := id hs0
  obtain ⟨so1, sc1, hsv1, -⟩ := id hs1
  obtain ⟨lo0, lc0, hlv0, -⟩ := id hl0
  obtain ⟨lo1, lc1, hlv1, -⟩ := id hl1
  have HD : Hid (∀ wr, Below W.heap.size W wr → ∀ k, wr.cell? ⟨v, k, none⟩ = (#[b0, b1, ov, s0, s1, l0, l1] : Array Value)[k]?) := fun wr hb k => by rw [cell_of_row _ _ _ _ _ _ ((hb.block v hvW).trans hr)]
  have HB : Hid (Bq (Qd lo W v ov) W s0 x.1 ∧ Bq (Qd lo W v ov) W s1 y.1 ∧ Bq (Qd lo W v ov) W l0 x.2 ∧ Bq (Qd lo W v ov) W l1 y.2 ∧ x.1.length + x.2.length ≤ 50000000000000 ∧ y.1.length + y.2.length ≤ 50000000000000) := ⟨hs0, hs1, hl0, hl1, hlim⟩
  obtain ⟨n0, hn0⟩ : ∃ n, x.1.length = n := ⟨_, rfl⟩
  obtain ⟨n1, hn1⟩ : ∃ n, y.1.length = n := ⟨_, rfl⟩
  obtain ⟨m0, hm0⟩ : ∃ n, x.2.length = n := ⟨_, rfl⟩
  obtain ⟨m1, hm1⟩ : ∃ n, y.2.length = n := ⟨_, rfl⟩
  have HN : Hid (x.1.length = n0 ∧ y.1.length = n1) := ⟨hn0, hn1⟩
  rw [hn0] at hsv0
  rw [hn1] at hsv1
  rw [hm0] at hlv0
  rw [hm1] at hlv1
  subst hsv0 hsv1 hlv0 hlv1
  clear h hr hb0 hb1 hs0 hs1 hl0 hl1 hvW hlim hW2 hn0 hn1 hm0 hm1
  unfold zD at HW
  go_enter Try.func21, Try.ntmps21
  go_wp2_with fail
  rw [HW.out]
  go_loopw [4] (fun iv wr => (iv = .int .i64 0 ∧ Hid (∃ c, Dr W W.heap.size (W.heap.size + 1) wr c [[], []])) ∨ (iv = .int .i64 1 ∧ Hid (∃ c, Dr W W.heap.size (W.heap.size + 1) wr c [x.1 ++ x.2, []])) ∨ (iv = .int .i64 2 ∧ Hid (∃ c, Dr W W.heap.size (W.heap.size + 1) wr c [x.1 ++ x.2, y.1 ++ y.2]))) (fun iv _ => 2 - (intOf iv).toNat)
  case atStart => exact .inl ⟨rfl, HS⟩
  case round =>
    rcases hrel with ⟨rfl, HR⟩ | ⟨rfl, HR⟩ | ⟨rfl, HR⟩
    · obtain ⟨c, hN⟩ := HR.out
      have bd : Below W.heap.size W wr.drew := ⟨hN.bel.os, hN.bel.tape, hN.bel.output, hN.bel.size, hN.bel.block⟩
      have kp : ∀ u l, Bq (Qd lo W v ov) W u l → Bq (Qd lo W v ov) wr.drew u l := fun u l q => q.keep (fun j hj => bd.block j hj.2.1) (fun _ h => h)
      have hq : ∀ j, Qd lo W v ov j → j < wr.drew.heap.size := fun j hj => Nat.lt_of_lt_of_le hj.2.1 bd.size
      obtain ⟨Y, zo, zn, zc, Z, hY, C, hap, hbZ, hu⟩ := cat_step ((kp _ _ HB.out.1).bl hq) (kp _ _ HB.out.2.2.1) hq (by have := HB.out.2.2.2.2.1; unfold LIM; omega)
      have bY : Below W.heap.size W Y := by rw [hY]; exact bd.alloc bd.size _
      obtain ⟨g2, g3, hN2⟩ := dr_step hN (Z := Z) ⟨hbZ.os, hbZ.tape, hbZ.output, hbZ.size, hbZ.block⟩ 0 (by omega) _ _ hu
      have HF : Hid (∃ c, Dr W W.heap.size (W.heap.size + 1) (Z.setCell ⟨W.heap.size + 1, 0, none⟩ (.slice zo zn zc)) c [x.1 ++ x.2, []]) := ⟨_, hN2⟩
      have a3 : wr.drew.cell? ⟨v, 3, none⟩ = some (.slice so0 n0 sc0) := HD.out _ bd 3
      have a5 : wr.drew.cell? ⟨v, 5, none⟩ = some (.slice lo0 m0 lc0) := HD.out _ bd 5
      have a5Y : Y.cell? ⟨v, 5, none⟩ = some (.slice lo0 m0 lc0) := HD.out _ bY 5
      obtain ⟨q1, hq1⟩ : ∃ q, c[0]! = q := ⟨_, rfl⟩
      rw [hq1] at g2
      rw [HN.out.1] at C hap
      rw [show wr.drew.heap.size = wr.heap.size from rfl] at C hap
      have D1 : Hid _ := C
      clear hN hN2 hY C hbZ hu hq1 bd kp hq bY HR
      go_wp2_with fail
      go_region_with (go_at_call 32; refine Calls.mono D1.out ?_; rintro e Y' ⟨rfl, hy⟩; have hy2 := hy.symm; subst hy2)
      all_goals
        go_wp2_with fail
        go_roundw
        case rel => exact .inr (.inl ⟨by go_num, HF⟩)
        case measure => simp [intOf]
    · obtain ⟨c, hN⟩ := HR.out
      have bd : Below W.heap.size W wr.drew := ⟨hN.bel.os, hN.bel.tape, hN.bel.output, hN.bel.size, hN.bel.block⟩
      have kp : ∀ u l, Bq (Qd lo W v ov) W u l → Bq (Qd lo W v ov) wr.drew u l := fun u l q => q.keep (fun j hj => bd.block j hj.2.1) (fun _ h => h)
      have hq : ∀ j, Qd lo W v ov j → j < wr.drew.heap.size := fun j hj => Nat.lt_of_lt_of_le hj.2.1 bd.size
      obtain ⟨Y, zo, zn, zc, Z, hY, C, hap, hbZ, hu⟩ := cat_step ((kp _ _ HB.out.2.1).bl hq) (kp _ _ HB.out.2.2.2.1) hq (by have := HB.out.2.2.2.2.2; unfold LIM; omega)
      have bY : Below W.heap.size W Y := by rw [hY]; exact bd.alloc bd.size _
      obtain ⟨g2, g3, hN2⟩ := dr_step hN (Z := Z) ⟨hbZ.os, hbZ.tape, hbZ.output, hbZ.size, hbZ.block⟩ 1 (by omega) _ _ hu
      have HF : Hid (∃ c, Dr W W.heap.size (W.heap.size + 1) (Z.setCell ⟨W.heap.size + 1, 1, none⟩ (.slice zo zn zc)) c [x.1 ++ x.2, y.1 ++ y.2]) := ⟨_, hN2⟩
      have a3 : wr.drew.cell? ⟨v, 4, none⟩ = some (.slice so1 n1 sc1) := HD.out _ bd 4
      have a5 : wr.drew.cell? ⟨v, 6, none⟩ = some (.slice lo1 m1 lc1) := HD.out _ bd 6
      have a5Y : Y.cell? ⟨v, 6, none⟩ = some (.slice lo1 m1 lc1) := HD.out _ bY 6
      obtain ⟨q1, hq1⟩ : ∃ q, c[1]! = q := ⟨_, rfl⟩
      rw [hq1] at g2
      rw [HN.out.2] at C hap
      rw [show wr.drew.heap.size = wr.heap.size from rfl] at C hap
      have D1 : Hid _ := C
      clear hN hN2 hY C hbZ hu hq1 bd kp hq bY HR
      go_wp2_with fail
      go_region_with (go_at_call 32; refine Calls.mono D1.out ?_; rintro e Y' ⟨rfl, hy⟩; have hy2 := hy.symm; subst hy2)
      all_goals
        go_wp2_with fail
        go_roundw
        case rel => exact .inr (.inr ⟨by go_num, HF⟩)
        case measure => simp [intOf]
    · obtain ⟨c, hN⟩ := HR.out
      have ld := ld_Drow wr _ _ hN.sz hN.row
      have hcs := hN.sz
      obtain ⟨o0, k0, c0, o1, k1, c1, rfl, hrow, hD⟩ := dr_end hN
      have st := st_D wr W.heap.size zD #[.slice o0 k0 c0, .slice o1 k1 c1] rfl rfl (by simp [Value.oneCell']) hN.res
      have HF : Hid _ := And.intro hrow hD
      clear hN hrow hD HR hcs
      go_wp2_with fail
      refine bodyPost_ret (results_D rfl _ _ W.heap.size _ rfl rfl HF.out.1) rfl ?_
      exact ⟨_, rfl, HF.out.2⟩
end
end Go.Proofs.Ytdiflmckjpmngaa
