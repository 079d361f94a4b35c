/- Graphs searched: the law's shortest. -/
import Derived.Test.YtibhjkmbbfgnpaaGlP
import Derived.Test.YtibhjkmbbfgnpaaJoA
import Derived.Laws.CopyRow
namespace Go.Proofs.Ytibhjkmbbfgnpaa
open Go.RowKit GM Gl
set_option maxRecDepth 20000
/-- Half a step more: the first i edges are looked at. -/
def qn (E : List (Nat × Nat)) (f : Nat → Bool) (i v : Nat) : Bool := f v || (E.take i).any fun e => f e.1 && decide (e.2 = v)
/-- Within d steps, as truth values. -/
def bb (E : List (Nat × Nat)) (a : Nat) : Nat → Nat → Bool
  | 0, v => decide (v = a)
  | d + 1, v => qn E (bb E a d) E.length v
theorem bb_iff {E : List (Nat × Nat)} {F : Nat → List Nat} (h : Fits E F) {a : Nat} : ∀ d v, bb E a d v = true ↔ Bl F a d v
  | 0, v => by simp [bb, Bl]
  | d + 1, v => by
    show qn E (bb E a d) E.length v = true ↔ Bl F a d v ∨ _
    unfold qn
    rw [Bool.or_eq_true, bb_iff h d v, List.take_length, List.any_eq_true]
    constructor
    · rintro (q | ⟨e, q1, q2⟩)
      · exact .inl q
      · rw [Bool.and_eq_true, bb_iff h d] at q2
        have q3 := of_decide_eq_true q2.2
        exact .inr ⟨e.1, q2.1, (h e.1 v).1 (by rw [← q3]; exact q1)⟩
    · rintro (q | ⟨u, q1, q2⟩)
      · exact .inl q
      · exact .inr ⟨(u, v), (h u v).2 q2, by rw [Bool.and_eq_true, bb_iff h d]; exact ⟨q1, decide_eq_true rfl⟩⟩
theorem qn_step {E : List (Nat × Nat)} {f : Nat → Bool} {i x y : Nat} (h : E[i]? = some (x, y)) (v : Nat) : qn E f (i + 1) v = if v = y then (if f x then true else qn E f i v) else qn E f i v := by
  unfold qn
  rw [List.take_add_one, h, List.any_append]
  simp only [Option.toList, List.any_cons, List.any_nil, Bool.or_false]
  by_cases e : v = y
  · subst e
    cases f x <;> simp
  · have : ¬ y = v := fun q => e q.symm
    simp [e, this]
theorem mkHidF {p : Prop} (h : p) : Hid p := h
/-- What lies while it goes. -/
structure Sb (W : World) (C : Array Value) (N gI : Nat) (f : Nat → Bool) (w : World) : Prop where
  bel : Below W.heap.size W w
  box : w.heap[W.heap.size]? = some (.cells C 24 (0, 0))
  row : w.heap[gI]? = some (.cells (bk N f) 4 (0, 0))
  hg : W.heap.size < gI
theorem Sb.below {W w w' : World} {C : Array Value} {N gI : Nat} {f : Nat → Bool} (h : Sb W C N gI f w) (hb : Below w.heap.size w w') : Sb W C N gI f w' :=
  ⟨h.bel.trans (hb.mono h.bel.size), (hb.block _ (Array.getElem?_eq_some_iff.1 h.box).1).trans h.box, (hb.block _ (Array.getElem?_eq_some_iff.1 h.row).1).trans h.row, h.hg⟩
theorem Sb.set {W w : World} {C : Array Value} {N gI : Nat} {f g : Nat → Bool} (h : Sb W C N gI f w) (j : Nat) (b : Bool) (hg : ∀ y, y < N → g y = if y = j then b else f y) : Sb W C N gI g (w.setCell ⟨gI, j, none⟩ (.bool b)) :=
  ⟨h.bel.setCell (by show W.heap.size ≤ gI; have := h.hg; omega) _, (heap_setCell_other _ _ _ _ (by show W.heap.size ≠ gI; have := h.hg; omega)).trans h.box, by rw [heap_setCell_same _ _ _ _ _ _ h.row, bk_set, bk_congr hg], h.hg⟩
theorem Sb.other {W w : World} {C : Array Value} {N gI k j : Nat} {f : Nat → Bool} (h : Sb W C N gI f w) (b : Value) (hk : k ≠ gI) (hk2 : W.heap.size < k) : Sb W C N gI f (w.setCell ⟨k, j, none⟩ b) :=
  ⟨h.bel.setCell (by show W.heap.size ≤ k; omega) _, (heap_setCell_other _ _ _ _ (by show W.heap.size ≠ k; omega)).trans h.box, (heap_setCell_other _ _ _ _ (by show gI ≠ k; omega)).trans h.row, h.hg⟩
def cpT (ty : Nat) (vs : Array Value) : Sem Value := Builtin.copy_ #[32, 32] ty vs
theorem toCpT (ty : Nat) (vs : Array Value) : Builtin.copy_ #[32, 32] ty vs = cpT ty vs := rfl
set_option maxRecDepth 100000 in
theorem size4 : (Try.prog.info? 4).map (·.size) = some 1 := by kernel_rfl
theorem run_cpT (w : World) (gN gI N ty : Nat) (f g : Nat → Bool) (h1 : w.heap[gN]? = some (.cells (bk N g) 4 (0, 0))) (h2 : w.heap[gI]? = some (.cells (bk N f) 4 (0, 0))) :
    (cpT ty #[.slice (some ⟨gN, 0, none⟩) N N, .slice (some ⟨gI, 0, none⟩) N N]).run Try.prog w = .ok (goInt N) (w.setRow gN (bk N f)) := by
  have hl : (bk N f).toList.length = N := by simp [bk]
  have := run_copy_row (P := Try.prog) w 32 32 ty 4 gN 0 N N ⟨gI, 0, none⟩ N N _ 4 (bk N f).toList Try.underlying32 size4 h1 (by rw [hl]; exact (Nat.min_self _).symm) (fun j v hv => by
    rw [Addr.add_lit, cell_of_row _ _ _ _ _ _ h2, Nat.zero_add]
    rw [← hv]
    simp) (by rw [hl, bk_size]; omega) (fun v hv => by
    simp only [bk, List.mem_map] at hv
    obtain ⟨j, -, rfl⟩ := hv
    rfl)
  rw [hl] at this
  have e : ((bk N g).toList.take 0 ++ (bk N f).toList ++ (bk N g).toList.drop (0 + N)).toArray = bk N f := by
    have : (bk N g).toList.drop (0 + N) = [] := List.drop_eq_nil_of_le (by simp [bk])
    rw [this]
    simp
  rw [e] at this
  exact this
theorem Sb.copy {W w : World} {C : Array Value} {N gI gN : Nat} {f g : Nat → Bool} (h : Sb W C N gI f w) (h1 : w.heap[gN]? = some (.cells (bk N g) 4 (0, 0))) (hne : gN ≠ gI) (hN : W.heap.size < gN) : Sb W C N gI f (w.setRow gN (bk N f)) ∧ Sb W C N gN f (w.setRow gN (bk N f)) := by
  have hb : Below W.heap.size W (w.setRow gN (bk N f)) := by
    refine h.bel.trans ⟨rfl, rfl, rfl, by simp [World.setRow], fun k hk => setRow_other w gN k _ (by omega)⟩
  have bx : (w.setRow gN (bk N f)).heap[W.heap.size]? = some (.cells C 24 (0, 0)) := (setRow_other w gN _ _ (by omega)).trans h.box
  exact ⟨⟨hb, bx, (setRow_other w gN _ _ hne.symm).trans h.row, h.hg⟩, hb, bx, setRow_heap _ _ _ _ _ _ h1, hN⟩
theorem measF (N k : Nat) (h : k < N) : N + 1 - ((k : Int) + 1).toNat < N + 1 - (k : Int).toNat := by omega
theorem measS (N k : Nat) (h : k ≤ N) : N + 1 - ((k : Int) + 1).toNat < N + 1 - (k : Int).toNat := by omega
section
attribute [local go_sem ↓] toMkB toCpT
set_option maxRecDepth 100000 in
set_option maxHeartbeats 6400000 in
theorem lshort_any (N : Nat) (hN : N ≤ 1024) (E : List (Nat × Nat)) (hE : ∀ e ∈ E, e.1 < N ∧ e.2 < N) (hl : E.length ≤ 1000000) (v : Value) (w : World) (hv : El v (zE E) w) (a b : Nat) (ha : a < N) (hb : b < N) (p : Nat → Bool) (hp : ∀ d, bb E a d b = p d) :
    Calls Try.prog 14 #[grV (N : Int) v, .int .i64 (a : Int), .int .i64 (b : Int)] w fun e w' => Below w.heap.size w w' ∧ ((∃ d, d ≤ N ∧ p d = true ∧ (∀ k, k < d → p k = false) ∧ e = .returned (.int .i64 (d : Int))) ∨ (∀ k, k ≤ N → p k = false) ∧ e = .returned (.int .i64 (-1))) := by
  obtain ⟨W0, hW0⟩ : ∃ W0, w.alloc (.cells #[.int .i64 (N : Int), v] 24) = W0 := ⟨_, rfl⟩
  have b0 : Below w.heap.size w W0 := by rw [← hW0]; exact (Below.refl _ w).alloc (Nat.le_refl _) _
  have r0 : W0.heap[w.heap.size]? = some (.cells #[.int .i64 (N : Int), v] 24 (0, 0)) := by rw [← hW0]; exact heap_alloc_new _ _
  have s0 : W0.heap.size = w.heap.size + 1 := by rw [← hW0]; simp
  obtain ⟨o', c', hvf, -, ho⟩ := hv.form
  rw [zE_len] at hvf ho
  subst hvf
  unfold grV
  obtain ⟨m, hm⟩ : ∃ m, E.length = m := ⟨_, rfl⟩
  rw [hm] at hW0 r0 ho hl ⊢
  obtain ⟨W1, q1, q2, q3, q4⟩ := run_mkB W0 N (by omega)
  rw [s0] at q1 q2
  have S1 : Sb w #[.int .i64 (N : Int), .slice o' m c'] N (w.heap.size + 1) (fun _ => false) W1 := ⟨b0.trans (q3.mono b0.size), (q3.block _ (by omega)).trans r0, q2, by omega⟩
  obtain ⟨gI, hgI⟩ : ∃ g, w.heap.size + 1 = g := ⟨_, rfl⟩
  rw [hgI] at S1 q1
  have l0 : W0.cell? ⟨w.heap.size, 0, none⟩ = some (.int .i64 (N : Int)) := (cell_of_row _ _ _ _ _ _ r0).trans rfl
  have l1 : W1.cell? ⟨gI, a, none⟩ = some (.bool false) := (cell_of_row _ _ _ _ _ _ S1.row).trans (bk_get _ _ _ ha)
  have f1 : W1.frozen? ⟨gI, a, none⟩ = false := frozen_of_row _ _ _ _ _ S1.row
  obtain ⟨W2, hW2⟩ : ∃ X, W1.setCell ⟨gI, a, none⟩ (.bool true) = X := ⟨_, rfl⟩
  have H2 : Hid (Sb w #[.int .i64 (N : Int), .slice o' m c'] N gI (bb E a 0) W2) := by
    rw [← hW2]
    exact S1.set a true fun y _ => by
      show decide (y = a) = _
      by_cases e : y = a <;> simp [e]
  have HH : Hid (E.length = m ∧ m ≤ 1000000 ∧ N ≤ 1024 ∧ (∀ e ∈ E, e.1 < N ∧ e.2 < N) ∧ a < N ∧ b < N ∧ (∀ d, bb E a d b = p d) ∧ (0 < m → ∃ b off, o' = some ⟨b, off, none⟩ ∧ b < w.heap.size ∧ ∀ j, j < m → w.cell? ⟨b, off + j * 2, none⟩ = some (.int .i64 ((zE E).getD j (0, 0)).1) ∧ w.cell? ⟨b, off + j * 2 + 1, none⟩ = some (.int .i64 ((zE E).getD j (0, 0)).2))) := ⟨hm, hl, hN, hE, ha, hb, hp, ho⟩
  have a1 := (by omega : (a : Int) < (N : Int))
  have a0 := (by omega : (0 : Int) ≤ (a : Int))
  have b1 := (by omega : (b : Int) < (N : Int))
  have b0' := (by omega : (0 : Int) ≤ (b : Int))
  clear b0 r0 s0 hv ho hm hl hN hE q2 q3 q4 S1 hgI hp ha hb
  go_enter Try.func14, Try.ntmps14
  go_wp2_with fail
  clear hW0 l0 q1 l1 f1 hW2
  go_loopw [8, 7] (fun dv iv wr => ∃ (d gI : Nat), dv = .int .i64 (d : Int) ∧ iv = .slice (some ⟨gI, 0, none⟩) N N ∧ Hid (d ≤ N + 1 ∧ (∀ k, k < d → p k = false) ∧ Sb w #[.int .i64 (N : Int), .slice o' m c'] N gI (bb E a d) wr)) (fun dv _ _ => N + 1 - (intOf dv).toNat)
  case atStart => exact ⟨0, gI, rfl, rfl, by omega, fun k hk => by omega, H2.out⟩
  case round =>
    obtain ⟨d, gI, rfl, rfl, HI⟩ := hrel
    obtain ⟨hd1, hpk, sb⟩ := HI.out
    have cN : wr.cell? ⟨w.heap.size, 0, none⟩ = some (.int .i64 (N : Int)) := (cell_of_row _ _ _ _ _ _ sb.box).trans rfl
    by_cases hd : d ≤ N
    · have i1 : (d : Int) ≤ (N : Int) := by omega
      have cb : wr.cell? ⟨gI, b, none⟩ = some (.bool (p d)) := by rw [← HH.out.2.2.2.2.2.2.1 d]; exact (cell_of_row _ _ _ _ _ _ sb.row).trans (bk_get _ _ _ HH.out.2.2.2.2.2.1)
      cases hpd : p d with
      | true =>
        rw [hpd] at cb
        have HE := mkHidF (And.intro sb.bel (And.intro hd (And.intro hpd hpk)))
        clear hd1 hpk sb hd hpd HI
        go_wp2_with fail
        go_ret
        exact ⟨HE.out.1, .inl ⟨d, HE.out.2.1, HE.out.2.2.1, HE.out.2.2.2, rfl⟩⟩
      | false =>
        rw [hpd] at cb
        obtain ⟨w1, q1, q2, q3, q4⟩ := run_mkB wr N (by have := HH.out.2.2.1; omega)
        have sz : w.heap.size ≤ wr.heap.size := sb.bel.size
        have hgI := (Array.getElem?_eq_some_iff.1 sb.row).1
        obtain ⟨gN, hgN⟩ : ∃ g, wr.heap.size = g := ⟨_, rfl⟩
        have hbx := (Array.getElem?_eq_some_iff.1 sb.box).1
        rw [hgN] at q1 q2
        have sb1 := sb.below q3
        have rc := run_cpT w1 gN gI N 3 _ _ q2 sb1.row
        obtain ⟨k1, k2⟩ := sb1.copy q2 (by omega) (by omega)
        obtain ⟨w2, hw2⟩ : ∃ X, w1.setRow gN (bk N (bb E a d)) = X := ⟨_, rfl⟩
        rw [hw2] at rc k1 k2
        have cN1 : w1.cell? ⟨w.heap.size, 0, none⟩ = some (.int .i64 (N : Int)) := (cell_of_row _ _ _ _ _ _ sb1.box).trans rfl
        have wd : wrap64 ((d : Int) + 1) = (d : Int) + 1 := by unfold wrap64; have := HH.out.2.2.1; omega
        have HK := mkHidF (And.intro hd (And.intro hpk (And.intro hpd (And.intro (show gI ≠ gN by omega) (And.intro k1 (show Sb w #[.int .i64 (N : Int), .slice o' m c'] N gN (qn E (bb E a d) 0) w2 from ⟨k2.bel, k2.box, by rw [k2.row]; congr 2; exact bk_congr fun y _ => by simp [qn], k2.hg⟩))))))
        clear hd1 hpk sb hd hpd HI q2 q3 q4 sz hgI hgN hbx sb1 k1 k2 hw2
        go_wp2_with fail
        clear cN cb q1 rc cN1 i1
        go_loopw [10] (fun iv wr => ∃ (i : Nat), iv = .int .i64 (i : Int) ∧ Hid (i ≤ m ∧ Sb w #[.int .i64 (N : Int), .slice o' m c'] N gI (bb E a d) wr ∧ Sb w #[.int .i64 (N : Int), .slice o' m c'] N gN (qn E (bb E a d) i) wr)) (fun iv _ => m + 1 - (intOf iv).toNat)
        case atStart => exact ⟨0, rfl, Nat.zero_le _, HK.out.2.2.2.2.1, HK.out.2.2.2.2.2⟩
        case round =>
          obtain ⟨i, rfl, HI⟩ := hrel
          obtain ⟨hi, sI, sN⟩ := HI.out
          have cE : wr.cell? ⟨w.heap.size, 1, none⟩ = some (.slice o' m c') := (cell_of_row _ _ _ _ _ _ sI.box).trans rfl
          by_cases hlt : i < m
          · obtain ⟨g1, g2, g3, g4, -, -, -, g5⟩ := HH.out
            obtain ⟨x, y, hxy⟩ : ∃ x y, E[i]? = some (x, y) := ⟨_, _, List.getElem?_eq_getElem (by omega)⟩
            obtain ⟨eb, eo, rfl, e1, e2⟩ := g5 (by omega)
            have c1 := (World.cell?_of_block (w := w) (sI.bel.block eb e1)).trans (e2 i hlt).1
            have c2 := (World.cell?_of_block (w := w) (sI.bel.block eb e1)).trans (e2 i hlt).2
            rw [zE_get E i x y hxy] at c1 c2
            have c1' : wr.cell? ⟨eb, eo + i * 2, none⟩ = some (.int .i64 (x : Int)) := c1
            have c2' : wr.cell? ⟨eb, eo + i * 2 + 1, none⟩ = some (.int .i64 (y : Int)) := c2
            have hx := (g4 _ (List.mem_of_getElem? hxy)).1
            have hy := (g4 _ (List.mem_of_getElem? hxy)).2
            have hx : x < N := hx
            have hy : y < N := hy
            have i0 : (0 : Int) ≤ (i : Int) := by omega
            have i1 : (i : Int) < (m : Int) := by omega
            have x0 : (0 : Int) ≤ (x : Int) := by omega
            have x1 : (x : Int) < (N : Int) := by omega
            have y0 : (0 : Int) ≤ (y : Int) := by omega
            have y1 : (y : Int) < (N : Int) := by omega
            have wi : wrap64 ((i : Int) + 1) = (i : Int) + 1 := by unfold wrap64; omega
            have ci : wr.cell? ⟨gI, x, none⟩ = some (.bool (bb E a d x)) := (cell_of_row _ _ _ _ _ _ sI.row).trans (bk_get _ _ _ hx)
            have cn : wr.cell? ⟨gN, y, none⟩ = some (.bool (qn E (bb E a d) i y)) := (cell_of_row _ _ _ _ _ _ sN.row).trans (bk_get _ _ _ hy)
            have fn : wr.frozen? ⟨gN, y, none⟩ = false := frozen_of_row _ _ _ _ _ sN.row
            have st := qn_step (f := bb E a d) hxy
            cases hb : bb E a d x with
            | true =>
              rw [hb] at ci
              obtain ⟨w3, hw3⟩ : ∃ X, wr.setCell ⟨gN, y, none⟩ (.bool true) = X := ⟨_, rfl⟩
              have HN := mkHidF (And.intro hlt (And.intro (show Sb w #[.int .i64 (N : Int), .slice (some ⟨eb, eo, none⟩) m c'] N gI (bb E a d) w3 by rw [← hw3]; exact sI.other _ (fun e => HK.out.2.2.2.1 e.symm) sN.hg) (show Sb w #[.int .i64 (N : Int), .slice (some ⟨eb, eo, none⟩) m c'] N gN (qn E (bb E a d) (i + 1)) w3 by rw [← hw3]; exact sN.set y true fun z _ => by rw [st z, hb]; simp)))
              clear g1 g2 g3 g4 g5 hxy e1 e2 c1 c2 hx hy st hb hlt sI sN hi HI
              go_wp2_with fail
              go_roundw
              · exact ⟨i + 1, by go_num, HN.out⟩
              · first
                  | exact measF m i HN.out.1
                  | (rw [wi]; exact measF m i HN.out.1)
            | false =>
              rw [hb] at ci
              have HN := mkHidF (And.intro hlt (And.intro sI (show Sb w #[.int .i64 (N : Int), .slice (some ⟨eb, eo, none⟩) m c'] N gN (qn E (bb E a d) (i + 1)) wr from ⟨sN.bel, sN.box, by rw [sN.row]; congr 2; exact bk_congr fun z _ => by rw [st z, hb]; simp, sN.hg⟩)))
              clear g1 g2 g3 g4 g5 hxy e1 e2 c1 c2 hx hy st hb hlt sI sN hi HI cn fn
              go_wp2_with fail
              go_roundw
              · exact ⟨i + 1, by go_num, HN.out⟩
              · first
                  | exact measF m i HN.out.1
                  | (rw [wi]; exact measF m i HN.out.1)
          · have i1 : ¬ ((i : Int) < (m : Int)) := by omega
            have HN := mkHidF (show Sb w #[.int .i64 (N : Int), .slice o' m c'] N gN (bb E a (d + 1)) wr from by
              have e : i = E.length := by have := HH.out.1; omega
              rw [e] at sN
              exact sN)
            clear hi sI sN HI hlt
            go_wp2_with fail
            go_roundw
            · exact ⟨d + 1, gN, by go_num, rfl, by have := HK.out.1; omega, fun k hk => by
                by_cases q : k = d
                · rw [q]; exact HK.out.2.2.1
                · exact HK.out.2.1 k (by omega), HN.out⟩
            · first
                | exact measS N d HK.out.1
                | (rw [wd]; exact measS N d HK.out.1)
    · have i1 : ¬ ((d : Int) ≤ (N : Int)) := by omega
      have HE := mkHidF (And.intro sb.bel (show ∀ k, k ≤ N → p k = false from fun k hk => hpk k (by omega)))
      clear hd1 hpk sb hd HI
      go_wp2_with fail
      go_ret
      exact ⟨HE.out.1, .inr ⟨HE.out.2, rfl⟩⟩
end
end Go.Proofs.Ytibhjkmbbfgnpaa
