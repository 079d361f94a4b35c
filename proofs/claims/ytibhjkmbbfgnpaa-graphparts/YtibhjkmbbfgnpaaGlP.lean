/- Graphs reduced: the law's leads, walked. -/
import Derived.Test.YtibhjkmbbfgnpaaJaE
namespace Go.Proofs.Ytibhjkmbbfgnpaa
open Go.RowKit GM Gl
theorem measP (N k : Nat) (h : k < N) : N + 1 - ((k : Int) + 1).toNat < N + 1 - (k : Int).toNat := by omega
section
attribute [local go_sem ↓] toMkX toMkB
set_option maxRecDepth 100000 in
set_option maxHeartbeats 6400000 in
theorem leads_any (N : Nat) (hN : N ≤ 1024) (E : List (Nat × Nat)) (hE : ∀ e ∈ E, e.1 < N ∧ e.2 < N) (hl : E.length ≤ 1000000) (v : Value) (w : World) (hv : El v (zE E) w) : Calls Try.prog 8 #[grV (N : Int) v] w fun e w' => ∃ gM C, e = .returned (.slice (some ⟨gM, 0, none⟩) N N) ∧ Mx w C gM N N (pb E N) w' := by
  obtain ⟨W0, hW0⟩ : ∃ W0, w.alloc (.cells #[.int .i64 (N : Int), v] 24) = W0 := ⟨_, rfl⟩
  have b0 : Below w.heap.size w W0 := by rw [← hW0]; exact (Below.refl _ w).alloc (Nat.le_refl _) _
  have r0 : W0.heap[w.heap.size]? = some (.cells #[.int .i64 (N : Int), v] 24 (0, 0)) := by rw [← hW0]; exact heap_alloc_new _ _
  have s0 : W0.heap.size = w.heap.size + 1 := by rw [← hW0]; simp
  obtain ⟨W1, rx, ox, bx, sx⟩ := run_mkX W0 N (by omega)
  obtain ⟨gM, hgM⟩ : ∃ k, W0.heap.size = k := ⟨_, rfl⟩
  rw [hgM] at rx ox bx sx
  obtain ⟨o', c', hvf, -, ho⟩ := hv.form
  rw [zE_len] at hvf ho
  subst hvf
  unfold grV
  have l0 : W0.cell? ⟨w.heap.size, 0, none⟩ = some (.int .i64 (N : Int)) := (cell_of_row _ _ _ _ _ _ r0).trans rfl
  obtain ⟨m, hm⟩ : ∃ m, E.length = m := ⟨_, rfl⟩
  rw [hm] at hW0 ho hl r0 ⊢
  have HM0 : Hid (Mx w #[.int .i64 (N : Int), .slice o' m c'] gM N 0 (fun x y => x == y) W1) := ⟨b0.trans (bx.mono (by omega)), (bx.block _ (by omega)).trans r0, by omega, ox, fun i hi => by omega, by omega⟩
  have HH : Hid (E.length = m ∧ m ≤ 1000000 ∧ N ≤ 1024 ∧ (∀ e ∈ E, e.1 < N ∧ e.2 < N) ∧ (0 < m → ∃ b off, o' = some ⟨b, off, none⟩ ∧ b < w.heap.size ∧ ∀ j, j < m → w.cell? ⟨b, off + j * 2, none⟩ = some (.int .i64 ((zE E).getD j (0, 0)).1) ∧ w.cell? ⟨b, off + j * 2 + 1, none⟩ = some (.int .i64 ((zE E).getD j (0, 0)).2))) := ⟨hm, hl, hN, hE, ho⟩
  clear b0 r0 hv ho hm hl hN hE s0 ox bx sx
  go_enter Try.func8, Try.ntmps8
  go_wp2_with fail
  clear hW0 rx hgM l0
  go_loopw [4] (fun iv wr => ∃ (k : Nat), iv = .int .i64 (k : Int) ∧ Hid (k ≤ N ∧ Mx w #[.int .i64 (N : Int), .slice o' m c'] gM N k (fun x y => x == y) wr)) (fun iv _ => N + 1 - (intOf iv).toNat)
  case atStart => exact ⟨0, rfl, Nat.zero_le _, HM0.out⟩
  case round =>
    obtain ⟨k, rfl, HI⟩ := hrel
    obtain ⟨hk, mx⟩ := HI.out
    have cN : wr.cell? ⟨w.heap.size, 0, none⟩ = some (.int .i64 (N : Int)) := (cell_of_row _ _ _ _ _ _ mx.box).trans rfl
    by_cases h1 : k < N
    · obtain ⟨X1, X2, rb, ⟨u, cu⟩, fu, hX2, bx1, mx2⟩ := mx.more h1 (by have := HH.out.2.2.1; omega)
      have ca := mx2.at k (by omega) h1
      obtain ⟨cc, fc⟩ := mx2.get k k (by omega) h1
      obtain ⟨X3, hX3⟩ : ∃ X, X2.setCell ⟨gM + 1 + k, k, none⟩ (.bool true) = X := ⟨_, rfl⟩
      have HX3 : Hid (k < N ∧ Mx w #[.int .i64 (N : Int), .slice o' m c'] gM N (k + 1) (fun x y => x == y) X3) := by
        refine ⟨h1, ?_⟩
        rw [← hX3]
        refine (mx2.set k k (by omega)).congr fun x hx y _ => ?_
        by_cases e : x = k
        · subst e
          by_cases e2 : y = x
          · subst e2; simp
          · have : ¬ x = y := fun q => e2 q.symm
            simp [e2, this]
        · have : x < k := by omega
          simp [e, this]
      have k0 : (0 : Int) ≤ (k : Int) := by omega
      have k1 : (k : Int) < (N : Int) := by omega
      have wk : wrap64 ((k : Int) + 1) = (k : Int) + 1 := by unfold wrap64; have := HH.out.2.2.1; omega
      clear hk mx HI bx1 mx2 h1 HM0
      go_wp2_with fail
      go_roundw
      · exact ⟨k + 1, by go_num, HX3.out⟩
      · first
          | exact measP N k HX3.out.1
          | (rw [wk]; exact measP N k HX3.out.1)
    · have k1 : ¬ ((k : Int) < (N : Int)) := by omega
      have HM1 : Hid (Mx w #[.int .i64 (N : Int), .slice o' m c'] gM N N (fun x y => x == y || (E.take 0).contains (x, y)) wr) := by
        have e : k = N := by omega
        subst e
        exact mx.congr fun x _ y _ => by simp
      clear hk mx HI h1 HM0
      go_wp2_with fail
      clear cN k1
      go_loopw [5] (fun iv wr => ∃ (e : Nat), iv = .int .i64 (e : Int) ∧ Hid (e ≤ m ∧ Mx w #[.int .i64 (N : Int), .slice o' m c'] gM N N (fun x y => x == y || (E.take e).contains (x, y)) wr)) (fun iv _ => m + 1 - (intOf iv).toNat)
      case atStart => exact ⟨0, rfl, Nat.zero_le _, HM1.out⟩
      case round =>
        obtain ⟨e, rfl, HI⟩ := hrel
        obtain ⟨he, mx⟩ := HI.out
        have cE : wr.cell? ⟨w.heap.size, 1, none⟩ = some (.slice o' m c') := (cell_of_row _ _ _ _ _ _ mx.box).trans rfl
        by_cases h1 : e < m
        · obtain ⟨h2, h3, h4, h5, h6⟩ := HH.out
          obtain ⟨x, y, hxy⟩ : ∃ x y, E[e]? = some (x, y) := ⟨_, _, List.getElem?_eq_getElem (by omega)⟩
          obtain ⟨hx, hy⟩ : x < N ∧ y < N := h5 _ (List.mem_of_getElem? hxy)
          obtain ⟨eb, eo, rfl, q2, q3⟩ := h6 (by omega)
          have c1 := (World.cell?_of_block (w := w) (mx.bel.block eb q2)).trans (q3 e h1).1
          have c2 := (World.cell?_of_block (w := w) (mx.bel.block eb q2)).trans (q3 e h1).2
          rw [zE_get E e x y hxy] at c1 c2
          have c1' : wr.cell? ⟨eb, eo + e * 2, none⟩ = some (.int .i64 (x : Int)) := c1
          have c2' : wr.cell? ⟨eb, eo + e * 2 + 1, none⟩ = some (.int .i64 (y : Int)) := c2
          have ca := mx.at x hx (Nat.le_refl _)
          obtain ⟨cc, fc⟩ := mx.get x y hx hy
          obtain ⟨X3, hX3⟩ : ∃ X, wr.setCell ⟨gM + 1 + x, y, none⟩ (.bool true) = X := ⟨_, rfl⟩
          have tk : E.take (e + 1) = E.take e ++ [(x, y)] := by rw [List.take_add_one, hxy]; rfl
          have HX3 : Hid (e < m ∧ Mx w #[.int .i64 (N : Int), .slice (some ⟨eb, eo, none⟩) m c'] gM N N (fun x y => x == y || (E.take (e + 1)).contains (x, y)) X3.drew) := by
            refine ⟨h1, ?_⟩
            rw [← hX3, tk]
            refine ((mx.set x y hx).congr fun i _ j _ => ?_).drew
            by_cases q : i = x ∧ j = y
            · obtain ⟨rfl, rfl⟩ := q
              simp
            · rw [if_neg q]
              simp [q]
          have e0 : (0 : Int) ≤ (e : Int) := by omega
          have e1 : (e : Int) < (m : Int) := by omega
          have x0 : (0 : Int) ≤ (x : Int) := by omega
          have x1 : (x : Int) < (N : Int) := by omega
          have y0 : (0 : Int) ≤ (y : Int) := by omega
          have y1 : (y : Int) < (N : Int) := by omega
          have we : wrap64 ((e : Int) + 1) = (e : Int) + 1 := by unfold wrap64; omega
          clear he mx HI h1 h2 h3 h4 h5 h6 hxy hx hy q2 q3 c1 c2 tk HM1
          go_wp2_with fail
          go_region
          go_wp2_with fail
          go_roundw
          · exact ⟨e + 1, by go_num, HX3.out⟩
          · first
              | exact measP m e HX3.out.1
              | (rw [we]; exact measP m e HX3.out.1)
        · have e1 : ¬ ((e : Int) < (m : Int)) := by omega
          have HM2 : Hid (Mx w #[.int .i64 (N : Int), .slice o' m c'] gM N N (pb E 0) wr) := by
            rw [List.take_of_length_le (by have := HH.out.1; omega)] at mx
            exact mx.congr fun x _ y _ => by
              simp only [pb]
              congr 1
          clear he mx HI h1 HM1
          go_wp2_with fail
          clear cE e1
          go_loopw [6] (fun iv wr => ∃ (k : Nat), iv = .int .i64 (k : Int) ∧ Hid (k ≤ N ∧ Mx w #[.int .i64 (N : Int), .slice o' m c'] gM N N (pb E k) wr)) (fun iv _ => N + 1 - (intOf iv).toNat)
          case atStart => exact ⟨0, rfl, Nat.zero_le _, HM2.out⟩
          case round =>
            obtain ⟨k, rfl, HI⟩ := hrel
            obtain ⟨hk, mx⟩ := HI.out
            have cN : wr.cell? ⟨w.heap.size, 0, none⟩ = some (.int .i64 (N : Int)) := (cell_of_row _ _ _ _ _ _ mx.box).trans rfl
            by_cases h1 : k < N
            · have k0 : (0 : Int) ≤ (k : Int) := by omega
              have k1 : (k : Int) < (N : Int) := by omega
              have wk : wrap64 ((k : Int) + 1) = (k : Int) + 1 := by unfold wrap64; have := HH.out.2.2.1; omega
              have HK : Hid (k < N ∧ Mx w #[.int .i64 (N : Int), .slice o' m c'] gM N N (qb E k 0 0) wr) := ⟨h1, mx.congr fun x _ y _ => by unfold qb; rw [if_neg (by omega)]⟩
              clear hk mx HI h1 HM2
              go_wp2_with fail
              clear cN
              go_loopw [7] (fun iv wr => ∃ (i : Nat), iv = .int .i64 (i : Int) ∧ Hid (i ≤ N ∧ Mx w #[.int .i64 (N : Int), .slice o' m c'] gM N N (qb E k i 0) wr)) (fun iv _ => N + 1 - (intOf iv).toNat)
              case atStart => exact ⟨0, rfl, Nat.zero_le _, HK.out.2⟩
              case round =>
                obtain ⟨i, rfl, HI⟩ := hrel
                obtain ⟨hi, mx⟩ := HI.out
                have cN : wr.cell? ⟨w.heap.size, 0, none⟩ = some (.int .i64 (N : Int)) := (cell_of_row _ _ _ _ _ _ mx.box).trans rfl
                by_cases h1 : i < N
                · have i0 : (0 : Int) ≤ (i : Int) := by omega
                  have i1 : (i : Int) < (N : Int) := by omega
                  have wi : wrap64 ((i : Int) + 1) = (i : Int) + 1 := by unfold wrap64; have := HH.out.2.2.1; omega
                  have HI2 : Hid (i < N ∧ Mx w #[.int .i64 (N : Int), .slice o' m c'] gM N N (qb E k i 0) wr) := ⟨h1, mx⟩
                  clear hi mx HI h1
                  go_wp2_with fail
                  clear cN
                  go_loopw [8] (fun iv wr => ∃ (j : Nat), iv = .int .i64 (j : Int) ∧ Hid (j ≤ N ∧ Mx w #[.int .i64 (N : Int), .slice o' m c'] gM N N (qb E k i j) wr)) (fun iv _ => N + 1 - (intOf iv).toNat)
                  case atStart => exact ⟨0, rfl, Nat.zero_le _, HI2.out.2⟩
                  case round =>
                    obtain ⟨j, rfl, HI⟩ := hrel
                    obtain ⟨hj, mx⟩ := HI.out
                    have cN : wr.cell? ⟨w.heap.size, 0, none⟩ = some (.int .i64 (N : Int)) := (cell_of_row _ _ _ _ _ _ mx.box).trans rfl
                    have ca := mx.at i HI2.out.1 (Nat.le_refl _)
                    have ck := mx.at k HK.out.1 (Nat.le_refl _)
                    have cik := (mx.get i k HI2.out.1 HK.out.1).1
                    rw [qb_ik] at cik
                    cases hik : pb E k i k with
                    | false =>
                      rw [hik] at cik
                      have HE : Hid (Mx w #[.int .i64 (N : Int), .slice o' m c'] gM N N (qb E k (i + 1) 0) wr) := mx.congr fun x _ y _ => by
                        unfold qb
                        by_cases q : x = i
                        · subst q
                          rw [if_pos (show x < x + 1 ∨ _ from .inl (by omega))]
                          have : pb E (k + 1) x y = pb E k x y := by simp [pb, hik]
                          split
                          · rfl
                          · exact this.symm
                        · by_cases q2 : x < i
                          · rw [if_pos (.inl q2), if_pos (.inl (by omega))]
                          · rw [if_neg (by omega), if_neg (by omega)]
                      clear hj mx HI hik
                      go_wp2_with fail
                      go_roundw
                      · exact ⟨i + 1, by go_num, HI2.out.1, HE.out⟩
                      · first
                          | exact measP N i HI2.out.1
                          | (rw [wi]; exact measP N i HI2.out.1)
                    | true =>
                      rw [hik] at cik
                      by_cases h2 : j < N
                      · have ckj := (mx.get k j HK.out.1 h2).1
                        rw [qb_kj] at ckj
                        obtain ⟨cij, fij⟩ := mx.get i j HI2.out.1 h2
                        have j0 : (0 : Int) ≤ (j : Int) := by omega
                        have j1 : (j : Int) < (N : Int) := by omega
                        have wj : wrap64 ((j : Int) + 1) = (j : Int) + 1 := by unfold wrap64; have := HH.out.2.2.1; omega
                        have HJ : Hid (j < N) := h2
                        cases hkj : pb E k k j with
                        | false =>
                          rw [hkj] at ckj
                          have HE : Hid (Mx w #[.int .i64 (N : Int), .slice o' m c'] gM N N (qb E k i (j + 1)) wr) := mx.congr fun x _ y _ => by
                            unfold qb
                            by_cases q : x = i ∧ y = j
                            · obtain ⟨rfl, rfl⟩ := q
                              rw [if_neg (by omega), if_pos (.inr ⟨rfl, by omega⟩)]
                              simp [pb, hkj]
                            · by_cases q2 : x < i ∨ (x = i ∧ y < j)
                              · rw [if_pos q2, if_pos (by omega)]
                              · rw [if_neg q2, if_neg (by omega)]
                          clear hj mx HI hik hkj h2 cij fij
                          go_wp2_with fail
                          go_roundw
                          · exact ⟨j + 1, by go_num, HJ.out, HE.out⟩
                          · first
                              | exact measP N j HJ.out
                              | (rw [wj]; exact measP N j HJ.out)
                        | true =>
                          rw [hkj] at ckj
                          obtain ⟨X3, hX3⟩ : ∃ X, wr.setCell ⟨gM + 1 + i, j, none⟩ (.bool true) = X := ⟨_, rfl⟩
                          have HE : Hid (Mx w #[.int .i64 (N : Int), .slice o' m c'] gM N N (qb E k i (j + 1)) X3) := by
                            rw [← hX3]
                            refine (mx.set i j HI2.out.1).congr fun x _ y _ => ?_
                            by_cases q : x = i ∧ y = j
                            · rw [if_pos q]
                              obtain ⟨rfl, rfl⟩ := q
                              unfold qb
                              rw [if_pos (.inr ⟨rfl, by omega⟩)]
                              simp [pb, hik, hkj]
                            · rw [if_neg q]
                              unfold qb
                              by_cases q2 : x < i ∨ (x = i ∧ y < j)
                              · rw [if_pos q2, if_pos (by omega)]
                              · rw [if_neg q2, if_neg (by omega)]
                          clear hj mx HI hik hkj h2
                          go_wp2_with fail
                          go_roundw
                          · exact ⟨j + 1, by go_num, HJ.out, HE.out⟩
                          · first
                              | exact measP N j HJ.out
                              | (rw [wj]; exact measP N j HJ.out)
                      · have j1 : ¬ ((j : Int) < (N : Int)) := by omega
                        have HE : Hid (Mx w #[.int .i64 (N : Int), .slice o' m c'] gM N N (qb E k (i + 1) 0) wr) := mx.congr fun x _ y hy => by
                          unfold qb
                          by_cases q2 : x < i ∨ (x = i ∧ y < j)
                          · rw [if_pos q2, if_pos (by omega)]
                          · rw [if_neg q2, if_neg (by omega)]
                        clear hj mx HI hik h2
                        go_wp2_with fail
                        go_roundw
                        · exact ⟨i + 1, by go_num, HI2.out.1, HE.out⟩
                        · first
                            | exact measP N i HI2.out.1
                            | (rw [wi]; exact measP N i HI2.out.1)
                · have i1 : ¬ ((i : Int) < (N : Int)) := by omega
                  have HE : Hid (Mx w #[.int .i64 (N : Int), .slice o' m c'] gM N N (pb E (k + 1)) wr) := mx.congr fun x hx y _ => by
                    unfold qb
                    rw [if_pos (.inl (by omega))]
                  clear hi mx HI h1
                  go_wp2_with fail
                  go_roundw
                  · exact ⟨k + 1, by go_num, HK.out.1, HE.out⟩
                  · first
                      | exact measP N k HK.out.1
                      | (rw [wk]; exact measP N k HK.out.1)
            · have k1 : ¬ ((k : Int) < (N : Int)) := by omega
              have HE : Hid (Mx w #[.int .i64 (N : Int), .slice o' m c'] gM N N (pb E N) wr) := by
                have e : k = N := by omega
                subst e
                exact mx
              clear hk mx HI h1 HM2
              go_wp2_with fail
              go_ret
              first
                | exact ⟨gM, _, rfl, HE.out⟩
                | exact ⟨gM, rfl, _, HE.out⟩
end
end Go.Proofs.Ytibhjkmbbfgnpaa
