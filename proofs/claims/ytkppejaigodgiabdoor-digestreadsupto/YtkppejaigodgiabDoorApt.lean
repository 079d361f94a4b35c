/- The law's helper apart. -/
import Derived.Test.YtkppejaigodgiabDoorGr
import Derived.Test.YtkppejaigodgiabDoorB64
namespace Go.Proofs.YtkppejaigodgiabDoor
open Go.RowKit
theorem Own.form {lo hi : Nat} {o : Option Addr} {n c : Nat} {l : List Nat} {w : World} (h : Own lo hi (.slice o n c) l w) (hn : 0 < n) : ∃ g, o = some ⟨g, 0, none⟩ ∧ lo ≤ g ∧ g < hi ∧ g < w.heap.size ∧ l.length = n := by
  obtain ⟨h1, ⟨h2, h3⟩ | ⟨g, cap, cur, h2, h4, h5, h6, h7⟩⟩ := h.row
  · simp only [Value.slice.injEq] at h2; omega
  · simp only [Value.slice.injEq] at h2
    obtain ⟨rfl, rfl, rfl⟩ := h2
    exact ⟨g, rfl, h4, h.lt g rfl, (Array.getElem?_eq_some_iff.1 h5).1, rfl⟩
theorem own_set {lo hi g n c : Nat} {l : List Nat} {w : World} (h : Own lo hi (.slice (some ⟨g, 0, none⟩) n c) l w) (k b : Nat) (hk : k < n) :
    Own lo hi (.slice (some ⟨g, 0, none⟩) n c) (l.set k b) (w.setCell ⟨g, k, none⟩ (.int .u8 (b : Int))) ∧ (∃ v, w.cell? ⟨g, k, none⟩ = some v) ∧ w.frozen? ⟨g, k, none⟩ = false := by
  obtain ⟨h1, ⟨h2, h3⟩ | ⟨g', cap, cur, h2, h4, h5, h6, h7, h8, h9⟩⟩ := h.row
  · simp at h2
  · simp only [Value.slice.injEq, Option.some.injEq, Addr.mk.injEq, and_true] at h2
    obtain ⟨rfl, rfl, rfl⟩ := h2
    have hks : k < cur.size := by omega
    refine ⟨⟨⟨by simp [bs], .inr ⟨g, c, cur.setIfInBounds k (.int .u8 (b : Int)), by rw [List.length_set], h4, heap_setCell_same _ _ _ _ _ _ h5, by rw [List.length_set]; exact h6, h7, by simpa using h8, ?_⟩⟩, h.lt⟩, ⟨_, (cell_of_row w _ _ _ _ _ h5).trans (Array.getElem?_eq_getElem hks)⟩, frozen_of_row w _ _ _ _ h5⟩
    rw [Array.toList_setIfInBounds, List.take_set, List.length_set, h9]
    simp [bs, List.map_set]
theorem tch_set {lo hi g k : Nat} {w wr : World} (h : Tch lo hi w wr) (h1 : lo ≤ g) (h2 : g < hi) (v : Value) : Tch lo hi w (wr.setCell ⟨g, k, none⟩ v) :=
  ⟨h.os, h.tape, h.output, by simpa [World.setCell] using h.size, fun j hj hn => (heap_setCell_other _ _ _ _ (by show j ≠ g; omega)).trans (h.block j hj hn)⟩
theorem all_rep {l : List Nat} {n b : Nat} (hl : l.length = n) (h : ∀ j, j < n → l.getD j 0 = b) : l = List.replicate n b := by
  apply List.ext_getElem
  · simp [hl]
  · intro j h1 h2
    have := h j (by omega)
    simpa [List.getD, h1] using this
theorem rep_cut_l (n a b : Nat) : (List.replicate n a ++ List.replicate 100 b).drop n = List.replicate 100 b := List.drop_left' (by simp)
theorem rep_cut_h (n a b : Nat) : (List.replicate n a ++ List.replicate 100 b).take n = List.replicate n a := List.take_left' (by simp)
/-- The cuts of a list that was gone on with. -/
theorem cuts {n a b : Nat} {u : Value} {w : World} (h : Byl u (List.replicate n a ++ List.replicate 100 b) w) :
    ∃ o c L R, u = .slice o (n + 100) c ∧ (∀ W : World, (slR (.slice o (n + 100) c) (some (.int .i64 (n : Int))) none none).run Tryd.prog W = .ok L W) ∧ (∀ W : World, (slR (.slice o (n + 100) c) none (some (.int .i64 (n : Int))) none).run Tryd.prog W = .ok R W) ∧ Byl L (List.replicate 100 b) w ∧ Byl R (List.replicate n a) w := by
  have hlen : (List.replicate n a ++ List.replicate 100 b).length = n + 100 := by simp
  obtain ⟨o, c, rfl, h1, h2, _⟩ := h.form
  have hL := byl_cut_l h n (by omega)
  have hR := byl_cut_h h n (by omega)
  rw [hlen] at hL ⊢
  rw [rep_cut_l] at hL
  rw [rep_cut_h] at hR
  exact ⟨o, c, _, _, rfl, fun W => run_cut_l W o (n + 100) c n (by omega), fun W => run_cut_h W o (n + 100) c n (by omega), hL, hR⟩
/-- The three lists as they lie. -/
structure Ap (B0 B1 B2 B3 : Nat) (x y z : Value) (lx ly lz : List Nat) (w W : World) : Prop where
  x : Own B0 B1 x lx W
  y : Own B1 B2 y ly W
  z : Own B2 B3 z lz W
  t : Tch B0 B3 w W
attribute [local go_sem ↓] toSl
set_option maxRecDepth 100000 in
set_option maxHeartbeats 6400000 in
theorem apart_any (B0 B1 B2 B3 : Nat) (h01 : B0 ≤ B1) (h12 : B1 ≤ B2) (h23 : B2 ≤ B3) (x y z : Value) (lx ly lz : List Nat) (n m r : Nat) (hn : lx.length = n) (hm : ly.length = m) (hr : lz.length = r) (hn1 : n + 100 ≤ 140737488355328) (hm1 : m + 100 ≤ 140737488355328) (hr1 : r + 100 ≤ 140737488355328) (w : World) (h3 : B3 ≤ w.heap.size)
    (hx : Own B0 B1 x lx w) (hy : Own B1 B2 y ly w) (hz : Own B2 B3 z lz w) :
    Calls Tryd.prog 23 #[x, y, z] w fun e w' => e = .returned (.bool true) ∧ Tch B0 B3 w w' := by
  obtain ⟨ox, cx, rfl, hq1, hq2, hq3⟩ := hx.byl.form
  obtain ⟨oy, cy, rfl, hq4, hq5, hq6⟩ := hy.byl.form
  obtain ⟨oz, cz, rfl, hq7, hq8, hq9⟩ := hz.byl.form
  clear hq1 hq2 hq3 hq4 hq5 hq6 hq7 hq8 hq9
  rw [hn] at hx ⊢
  rw [hm] at hy ⊢
  rw [hr] at hz ⊢
  have A0 : Hid (Ap B0 B1 B2 B3 (.slice ox n cx) (.slice oy m cy) (.slice oz r cz) lx ly lz w w) := ⟨hx, hy, hz, Tch.refl _ _ w⟩
  have HL : Hid (lx.length = n ∧ ly.length = m ∧ lz.length = r) := ⟨hn, hm, hr⟩
  clear hx hy hz hn hm hr
  go_enter Tryd.func23, Tryd.ntmps23
  go_wp2_with fail
  go_loopw [7] (fun i wr => ∃ (k : Nat) (l : List Nat), i = .int .i64 (k : Int) ∧ k ≤ n ∧ Hid (l.length = n ∧ ∀ j, j < k → l.getD j 0 = 165) ∧ Hid (Ap B0 B1 B2 B3 (.slice ox n cx) (.slice oy m cy) (.slice oz r cz) l ly lz w wr)) (fun i _ => n - (intOf i).toNat)
  case atStart => exact ⟨0, lx, rfl, by omega, ⟨HL.out.1, fun j hj => by omega⟩, A0⟩
  case round =>
    clear A0
    obtain ⟨k, l, rfl, hk, HK, A⟩ := hrel
    by_cases hlt : k < n
    · have hk0 : (0 : Int) ≤ (k : Int) := by omega
      have hk1 : (k : Int) < (n : Int) := by omega
      obtain ⟨g, rfl, hg1, hg2, hg3, _⟩ := A.out.x.form (by omega)
      obtain ⟨o1, ⟨v1, c1⟩, f1⟩ := own_set A.out.x k 165 hlt
      have A1 : Hid (Ap B0 B1 B2 B3 (.slice (some ⟨g, 0, none⟩) n cx) (.slice oy m cy) (.slice oz r cz) (l.set k 165) ly lz w (wr.setCell ⟨g, k, none⟩ (.int .u8 165))) :=
        ⟨o1, A.out.y.keep (fun j hj => heap_setCell_other _ _ _ _ (by have := (A.out.y.row.lt j hj).1; show j ≠ g; omega)), A.out.z.keep (fun j hj => heap_setCell_other _ _ _ _ (by have := (A.out.z.row.lt j hj).1; show j ≠ g; omega)), tch_set A.out.t hg1 (by omega) _⟩
      have HK1 : Hid ((l.set k 165).length = n ∧ ∀ j, j < k + 1 → (l.set k 165).getD j 0 = 165) := by
        refine ⟨by rw [List.length_set]; exact HK.out.1, fun j hj => ?_⟩
        by_cases he : j = k
        · subst he
          have := HK.out.1
          simp [List.getD, this, hlt]
        · rw [List.getD, List.getElem?_set_ne (by omega), ← List.getD]
          exact HK.out.2 j (by omega)
      clear o1 HK A hg1 hg2 hg3
      go_wp2
      exact ⟨⟨k + 1, l.set k 165, rfl, by omega, HK1, A1⟩, by simp only [intOf]; omega⟩
    · have hk1 : ¬ ((k : Int) < (n : Int)) := by omega
      have hke : n = k := by omega
      subst hke
      have hl1 : l = List.replicate n 165 := all_rep HK.out.1 HK.out.2
      subst hl1
      clear HK
      go_wp2_with fail
      as_aux_lemma =>
      go_loopw [8] (fun i wq => ∃ (k : Nat) (l : List Nat), i = .int .i64 (k : Int) ∧ k ≤ m ∧ Hid (l.length = m ∧ ∀ j, j < k → l.getD j 0 = 90) ∧ Hid (Ap B0 B1 B2 B3 (.slice ox n cx) (.slice oy m cy) (.slice oz r cz) (List.replicate n 165) l lz w wq)) (fun i _ => m - (intOf i).toNat)
      case atStart => exact ⟨0, ly, rfl, by omega, ⟨HL.out.2.1, fun j hj => by omega⟩, A⟩
      case round =>
        clear A
        obtain ⟨k, l, rfl, hk, HK, A⟩ := hrel
        by_cases hlt : k < m
        · have hk0 : (0 : Int) ≤ (k : Int) := by omega
          have hk1 : (k : Int) < (m : Int) := by omega
          obtain ⟨g, rfl, hg1, hg2, hg3, _⟩ := A.out.y.form (by omega)
          obtain ⟨o1, ⟨v1, c1⟩, f1⟩ := own_set A.out.y k 90 hlt
          have A1 : Hid (Ap B0 B1 B2 B3 (.slice ox n cx) (.slice (some ⟨g, 0, none⟩) m cy) (.slice oz r cz) (List.replicate n 165) (l.set k 90) lz w (wr.setCell ⟨g, k, none⟩ (.int .u8 90))) :=
            ⟨A.out.x.keep (fun j hj => heap_setCell_other _ _ _ _ (by have := A.out.x.lt j hj; show j ≠ g; omega)), o1, A.out.z.keep (fun j hj => heap_setCell_other _ _ _ _ (by have := (A.out.z.row.lt j hj).1; show j ≠ g; omega)), tch_set A.out.t (by omega) (by omega) _⟩
          have HK1 : Hid ((l.set k 90).length = m ∧ ∀ j, j < k + 1 → (l.set k 90).getD j 0 = 90) := by
            refine ⟨by rw [List.length_set]; exact HK.out.1, fun j hj => ?_⟩
            by_cases he : j = k
            · subst he
              have := HK.out.1
              simp [List.getD, this, hlt]
            · rw [List.getD, List.getElem?_set_ne (by omega), ← List.getD]
              exact HK.out.2 j (by omega)
          clear o1 HK A hg1 hg2 hg3
          go_wp2
          exact ⟨⟨k + 1, l.set k 90, rfl, by omega, HK1, A1⟩, by simp only [intOf]; omega⟩
        · have hk1 : ¬ ((k : Int) < (m : Int)) := by omega
          have hke : m = k := by omega
          subst hke
          have hl1 : l = List.replicate m 90 := all_rep HK.out.1 HK.out.2
          subst hl1
          clear HK
          go_wp2_with fail
          as_aux_lemma =>
          go_loopw [9] (fun i wq => ∃ (k : Nat) (l : List Nat), i = .int .i64 (k : Int) ∧ k ≤ r ∧ Hid (l.length = r ∧ ∀ j, j < k → l.getD j 0 = 51) ∧ Hid (Ap B0 B1 B2 B3 (.slice ox n cx) (.slice oy m cy) (.slice oz r cz) (List.replicate n 165) (List.replicate m 90) l w wq)) (fun i _ => r - (intOf i).toNat)
          case atStart => exact ⟨0, lz, rfl, by omega, ⟨HL.out.2.2, fun j hj => by omega⟩, A⟩
          case round =>
            clear A
            obtain ⟨k, l, rfl, hk, HK, A⟩ := hrel
            by_cases hlt : k < r
            · have hk0 : (0 : Int) ≤ (k : Int) := by omega
              have hk1 : (k : Int) < (r : Int) := by omega
              obtain ⟨g, rfl, hg1, hg2, hg3, _⟩ := A.out.z.form (by omega)
              obtain ⟨o1, ⟨v1, c1⟩, f1⟩ := own_set A.out.z k 51 hlt
              have A1 : Hid (Ap B0 B1 B2 B3 (.slice ox n cx) (.slice oy m cy) (.slice (some ⟨g, 0, none⟩) r cz) (List.replicate n 165) (List.replicate m 90) (l.set k 51) w (wr.setCell ⟨g, k, none⟩ (.int .u8 51))) :=
                ⟨A.out.x.keep (fun j hj => heap_setCell_other _ _ _ _ (by have := A.out.x.lt j hj; show j ≠ g; omega)), A.out.y.keep (fun j hj => heap_setCell_other _ _ _ _ (by have := A.out.y.lt j hj; show j ≠ g; omega)), o1, tch_set A.out.t (by omega) (by omega) _⟩
              have HK1 : Hid ((l.set k 51).length = r ∧ ∀ j, j < k + 1 → (l.set k 51).getD j 0 = 51) := by
                refine ⟨by rw [List.length_set]; exact HK.out.1, fun j hj => ?_⟩
                by_cases he : j = k
                · subst he
                  have := HK.out.1
                  simp [List.getD, this, hlt]
                · rw [List.getD, List.getElem?_set_ne (by omega), ← List.getD]
                  exact HK.out.2 j (by omega)
              clear o1 HK A hg1 hg2 hg3
              go_wp2
              exact ⟨⟨k + 1, l.set k 51, rfl, by omega, HK1, A1⟩, by simp only [intOf]; omega⟩
            · have hk1 : ¬ ((k : Int) < (r : Int)) := by omega
              have hke : r = k := by omega
              subst hke
              have hl1 : l = List.replicate r 51 := all_rep HK.out.1 HK.out.2
              subst hl1
              clear HK HL
              have hws : w.heap.size ≤ wr.heap.size := A.out.t.size
              have hxw : ∀ g, Value.ownBlock (.slice ox n cx) = some g → B0 ≤ g ∧ g < B1 := fun g hg => ⟨(A.out.x.row.lt g hg).1, A.out.x.lt g hg⟩
              have hyw : ∀ g, Value.ownBlock (.slice oy m cy) = some g → B1 ≤ g ∧ g < B2 := fun g hg => ⟨(A.out.y.row.lt g hg).1, A.out.y.lt g hg⟩
              have HXW : Hid (∀ g, Value.ownBlock (.slice ox n cx) = some g → B0 ≤ g ∧ g < B1) := hxw
              have HYW : Hid (∀ g, Value.ownBlock (.slice oy m cy) = some g → B1 ≤ g ∧ g < B2) := hyw
              clear hxw hyw
              have G1 := grown_any B0 B1 (List.replicate n 165) (by simp; omega) (.slice ox n cx) 177 wr (by omega) A.out.x
              as_aux_lemma =>
              go_wp2_with fail
              refine G1.mono ?_
              rintro e W1 ⟨u, rfl, bu, wu, bx, t1⟩
              have oy1 : Hid (Own B1 B2 (.slice oy m cy) (List.replicate m 90) W1) := A.out.y.tch t1 (.inr (Nat.le_refl _))
              have oz1 : Hid (Own B2 B3 (.slice oz r cz) (List.replicate r 51) W1) := A.out.z.tch t1 (.inr h12)
              have T1 : Hid (Tch B0 B3 w W1) := A.out.t.trans (t1.wide (Nat.le_refl _) (by omega))
              have hs1 := t1.size
              have BX : Hid (Byl (.slice ox n cx) (List.replicate n 165) W1) := bx
              have BU : Hid (Byl u (List.replicate n 165 ++ List.replicate 100 177) W1 ∧ ∀ g, u.ownBlock = some g → (B0 ≤ g ∧ g < B1) ∨ B3 ≤ g) := ⟨bu, fun g hg => by have := wu g hg; omega⟩
              clear A G1 bx bu wu t1
              have G2 := grown_any B1 B2 (List.replicate m 90) (by simp; omega) (.slice oy m cy) 178 W1 (by omega) oy1.out
              go_wp2_with fail
              refine G2.mono ?_
              rintro e W2 ⟨v, rfl, bv, wv, byy, t2⟩
              have oz2 : Hid (Own B2 B3 (.slice oz r cz) (List.replicate r 51) W2) := oz1.out.tch t2 (.inr (Nat.le_refl _))
              have T2 : Hid (Tch B0 B3 w W2) := T1.out.trans (t2.wide (by omega) (by omega))
              have hs2 := t2.size
              have BX2 : Hid (Byl (.slice ox n cx) (List.replicate n 165) W2) := byl_tch BX.out t2 (fun g hg => by have := HXW.out g hg; omega)
              have BU2 : Hid (Byl u (List.replicate n 165 ++ List.replicate 100 177) W2 ∧ ∀ g, u.ownBlock = some g → (B0 ≤ g ∧ g < B1) ∨ B3 ≤ g) := ⟨byl_tch BU.out.1 t2 (fun g hg => by have := BU.out.2 g hg; omega), BU.out.2⟩
              have BY2 : Hid (Byl (.slice oy m cy) (List.replicate m 90) W2) := byy
              have BV2 : Hid (Byl v (List.replicate m 90 ++ List.replicate 100 178) W2 ∧ ∀ g, v.ownBlock = some g → (B1 ≤ g ∧ g < B2) ∨ B3 ≤ g) := ⟨bv, fun g hg => by have := wv g hg; omega⟩
              clear G2 byy bv wv t2 oy1 oz1 T1 BX BU
              have G3 := grown_any B2 B3 (List.replicate r 51) (by simp; omega) (.slice oz r cz) 179 W2 (by omega) oz2.out
              go_wp2_with fail
              refine G3.mono ?_
              rintro e W3 ⟨z, rfl, bz, wz, bzz, t3⟩
              have T3 : Hid (Tch B0 B3 w W3) := T2.out.trans (t3.wide (by omega) (Nat.le_refl _))
              have F1 := filled_any n 165 (by omega) _ W3 (byl_tch BX2.out t3 (fun g hg => by have := HXW.out g hg; omega))
              have F2 := filled_any m 90 (by omega) _ W3 (byl_tch BY2.out t3 (fun g hg => by have := HYW.out g hg; omega))
              have F3 := filled_any r 51 (by omega) _ W3 bzz
              obtain ⟨ou, cu, Lu, Ru, rfl, lu, ru, bLu, bRu⟩ := cuts (byl_tch BU2.out.1 t3 (fun g hg => by have := BU2.out.2 g hg; omega))
              obtain ⟨ov, cv, Lv, Rv, rfl, lv, rv, bLv, bRv⟩ := cuts (byl_tch BV2.out.1 t3 (fun g hg => by have := BV2.out.2 g hg; omega))
              obtain ⟨ow, cw, Lw, Rw, rfl, lw, rw_, bLw, bRw⟩ := cuts bz
              have P1 := filled_any 100 177 (by omega) _ W3 bLu
              have P2 := filled_any 100 178 (by omega) _ W3 bLv
              have P3 := filled_any 100 179 (by omega) _ W3 bLw
              have P4 := filled_any n 165 (by omega) _ W3 bRu
              have P5 := filled_any m 90 (by omega) _ W3 bRv
              have P6 := filled_any r 51 (by omega) _ W3 bRw
              clear G3 bz wz bzz t3 oz2 T2 BX2 BU2 BY2 BV2 bLu bRu bLv bRv bLw bRw HXW HYW
              go_wp2_with fail
              refine F1.mono ?_
              rintro e w' ⟨rfl, hw'⟩
              have hw2 := hw'.symm
              subst hw2
              clear hw' F1
              go_wp2_with fail
              refine F2.mono ?_
              rintro e w' ⟨rfl, hw'⟩
              have hw2 := hw'.symm
              subst hw2
              clear hw' F2
              go_wp2_with fail
              refine F3.mono ?_
              rintro e w' ⟨rfl, hw'⟩
              have hw2 := hw'.symm
              subst hw2
              clear hw' F3
              go_wp2_with fail
              refine P1.mono ?_
              rintro e w' ⟨rfl, hw'⟩
              have hw2 := hw'.symm
              subst hw2
              clear hw' P1
              go_wp2_with fail
              refine P2.mono ?_
              rintro e w' ⟨rfl, hw'⟩
              have hw2 := hw'.symm
              subst hw2
              clear hw' P2
              go_wp2_with fail
              refine P3.mono ?_
              rintro e w' ⟨rfl, hw'⟩
              have hw2 := hw'.symm
              subst hw2
              clear hw' P3
              go_wp2_with fail
              refine P4.mono ?_
              rintro e w' ⟨rfl, hw'⟩
              have hw2 := hw'.symm
              subst hw2
              clear hw' P4
              go_wp2_with fail
              refine P5.mono ?_
              rintro e w' ⟨rfl, hw'⟩
              have hw2 := hw'.symm
              subst hw2
              clear hw' P5
              go_wp2_with fail
              refine P6.mono ?_
              rintro e w' ⟨rfl, hw'⟩
              have hw2 := hw'.symm
              subst hw2
              clear hw' P6
              go_wp2_with fail
              go_ret
              exact ⟨rfl, T3.out⟩
end Go.Proofs.YtkppejaigodgiabDoor
