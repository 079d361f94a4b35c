/- Several texts in one: GuF, GuG. -/
import Derived.Test.YtgedmfcfhdfoeaaJgC
import Derived.Test.YtgedmfcfhdfoeaaJgA
/- Graphs searched by the document: far: how far each node is from the roots. -/
namespace Go.Proofs.Ytgedmfcfhdfoeaa
open Go.RowKit GM
set_option maxRecDepth 20000
def izU (l : List Int) : Array Value := (l.map (Value.int .i64)).toArray
theorem izU_get (l : List Int) (j : Nat) (h : j < l.length) : (izU l)[j]? = some (.int .i64 (l.getD j 0)) := by simp [izU, List.getD, h]
theorem izU_set (l : List Int) (j : Nat) (b : Int) : (izU l).setIfInBounds j (.int .i64 b) = izU (l.set j b) := by simp [izU, List.map_set]
theorem izU_zero (n : Nat) : izU (List.replicate n 0) = ik (List.replicate n 0) := by simp [izU, ik]
/-- A distance as it lies: -1 where there is none. -/
def dV : Option Nat → Int
  | none => -1
  | some k => (k : Int)
theorem setD_same {l : List Int} {j : Nat} {x : Int} (h : j < l.length) : (l.set j x).getD j 0 = x := by simp [List.getD, h]
theorem setD_ne {l : List Int} {i j : Nat} {x : Int} (h : i ≠ j) : (l.set j x).getD i 0 = l.getD i 0 := by simp [List.getD, Ne.symm h]
/-- The distances and the queue, as they lie. -/
structure Fm (W : World) (gD N : Nat) (f : Nat → Option Nat) (qv : Value) (A : List Nat) (w : World) : Prop where
  bel : Below W.heap.size W w
  row : ∃ dl : List Int, w.heap[gD]? = some (.cells (izU dl) 3 (0, 0)) ∧ dl.length = N ∧ ∀ v, v < N → dl.getD v 0 = dV (f v)
  own : w.ownsRow (gD + 1) 3 1 qv A.length (ik A).toList
  gd : W.heap.size ≤ gD
section
variable {W w w' : World} {gD N m : Nat} {f : Nat → Option Nat} {qv : Value} {A : List Nat} {x k v : Nat}
theorem Fm.lt (h : Fm W gD N f qv A w) : gD < w.heap.size := by
  obtain ⟨dl, h1, -⟩ := h.row
  exact (Array.getElem?_eq_some_iff.1 h1).1
theorem Fm.get (h : Fm W gD N f qv A w) (hv : v < N) : w.cell? ⟨gD, v, none⟩ = some (.int .i64 (dV (f v))) ∧ w.frozen? ⟨gD, v, none⟩ = false := by
  obtain ⟨dl, h1, h2, h3⟩ := h.row
  exact ⟨by rw [← h3 v hv]; exact (cell_of_row _ _ _ _ _ _ h1).trans (izU_get _ _ (by omega)), frozen_of_row _ _ _ _ _ h1⟩
theorem Fm.set (h : Fm W gD N f qv A w) (hx : x < N) (k : Nat) : Fm W gD N (fun y => if y = x then some k else f y) qv A (w.setCell ⟨gD, x, none⟩ (.int .i64 (k : Int))) := by
  obtain ⟨dl, h1, h2, h3⟩ := h.row
  refine ⟨h.bel.setCell (by show W.heap.size ≤ gD; exact h.gd) _, ⟨dl.set x (k : Int), by rw [heap_setCell_same _ _ _ _ _ _ h1, izU_set], by simp [h2], fun v hv => ?_⟩, own_keep2 h.own fun b hb => heap_setCell_other _ _ _ _ (by show b ≠ gD; have := (h.own.lt b hb).1; omega), h.gd⟩
  by_cases e : v = x
  · subst e
    rw [setD_same (by omega), if_pos rfl]
    rfl
  · rw [setD_ne e, if_neg e]
    exact h3 v hv
theorem Fm.push (h : Fm W gD N f qv A w) (x : Nat) (hA : A.length ≤ 1000000000) : ∃ o c w', (apI 32 #[qv, .slice (some ⟨w.heap.size, 0, none⟩) 1 1]).run Try.prog (w.alloc (.cells #[.int .i64 (x : Int)] 3)) = .ok (.slice o (A.length + 1) c) w' ∧ Fm W gD N f (.slice o (A.length + 1) c) (A ++ [x]) w' ∧ Below W.heap.size w w' ∧ w'.heap[gD]? = w.heap[gD]? := by
  obtain ⟨v', w', r1, r2, r3, r4⟩ := run_apI w (gD + 1) A.length 32 qv A x h.own (by omega) h.lt
  obtain ⟨o, c, rfl⟩ := own_size r2
  have lt := h.lt
  have hz : w.heap.size ≤ w'.heap.size := by have := r3.size; simp at this; omega
  have bb : Below W.heap.size w w' := ⟨r3.os, r3.tape, r3.output, hz, fun b hb => grown_oldR r3 b (by have := h.gd; omega) (fun e => by have := (h.own.lt b e).1; have := h.gd; omega)⟩
  have hg : w'.heap[gD]? = w.heap[gD]? := grown_oldR r3 gD lt fun e => by have := (h.own.lt gD e).1; omega
  obtain ⟨dl, h1, h2, h3⟩ := h.row
  exact ⟨o, c, w', r1, ⟨h.bel.trans bb, ⟨dl, hg.trans h1, h2, h3⟩, by rw [List.length_append]; exact r2, h.gd⟩, bb, hg⟩
theorem Fm.qat (h : Fm W gD N f qv A w) {i : Nat} (hi : i < A.length) : ∃ b c, qv = .slice (some ⟨b, 0, none⟩) A.length c ∧ w.cell? ⟨b, i, none⟩ = some (.int .i64 ((A.getD i 0 : Nat) : Int)) := by
  obtain ⟨-, o, c, e, h1⟩ := own_get h.own
  obtain ⟨b, rfl, -, -, h3⟩ := h1 (by omega)
  exact ⟨b, c, e, h3 i hi⟩
theorem Fm.form (h : Fm W gD N f qv A w) : ∃ o c, qv = .slice o A.length c := by
  obtain ⟨-, o, c, e, -⟩ := own_get h.own
  exact ⟨o, c, e⟩
end
/-- Between two rounds of the search; the needs of v are looked at, up to the k-th. -/
def Fr (W : World) (F : Nat → List Nat) (S : List Nat) (gD N i m : Nat) (qv : Value) (w : World) : Prop := ∃ D Q f, D.length = i ∧ (D ++ Q).length = m ∧ Fq F S D Q f ∧ Fm W gD N f qv (D ++ Q) w
def Fk (W : World) (F : Nat → List Nat) (S : List Nat) (gD N : Nat) (D : List Nat) (v d k m : Nat) (qv : Value) (w : World) : Prop := ∃ R f, (D ++ v :: R).length = m ∧ f v = some d ∧ Fq F S D (v :: R) f ∧ Fm W gD N f qv (D ++ v :: R) w ∧ ∀ x, x ∈ (F v).take k → x ∈ D ++ v :: R
section
variable {W w w' : World} {F : Nat → List Nat} {S D : List Nat} {gD N i m k v d x : Nat} {qv : Value}
theorem Fr.open (h : Fr W F S gD N i m qv w) (hi : i < m) (hS : ∀ x ∈ S, x < N) (hF : ∀ v, v < N → ∀ x ∈ F v, x < N) : m ≤ N ∧ ∃ D v d b c, D.length = i ∧ v < N ∧ qv = .slice (some ⟨b, 0, none⟩) m c ∧ w.cell? ⟨b, i, none⟩ = some (.int .i64 (v : Int)) ∧ d ≤ N ∧ Fk W F S gD N D v d 0 m qv w := by
  obtain ⟨D, Q, f, h1, h2, h3, h4⟩ := h
  have hlen := h3.len hS hF
  cases Q with
  | nil => simp at h2; omega
  | cons v R =>
    have hvN := h3.lt hS hF (v := v) (by simp)
    obtain ⟨d, hd1, hd2⟩ := h3.ds (v := v) (by simp)
    obtain ⟨b, c, e, hc⟩ := h4.qat (i := i) (by omega)
    have ev : (D ++ v :: R).getD i 0 = v := by
      rw [← h1]
      simp [List.getD]
    rw [ev] at hc
    have hdN : d ≤ N := by
      obtain ⟨K, k1, k2, k3⟩ := lyr_end (nd := F) (S := S) (N := N) hS hF
      have h0 := lyrS_ds.2 hd2
      by_cases q : d < K
      · omega
      · exfalso
        have z : ∀ j, (lyr F S (K + j)).1 = [] := by
          intro j
          induction j with
          | zero => exact k2
          | succ j ih =>
            show (frs (lyr F S (K + j)).2 ((srt (lyr F S (K + j)).1).flatMap F)).1 = []
            rw [ih]
            simp [srt, frs]
        have := z (d - K)
        rw [show K + (d - K) = d by omega] at this
        rw [this] at h0
        cases h0
    rw [List.length_append] at h2
    exact ⟨by omega, D, v, d, b, c, h1, hvN, by rw [e, List.length_append, h2], hc, hdN, R, f, by rw [List.length_append]; exact h2, hd1, h3, h4, fun x hx => by simp at hx⟩
theorem Fk.look (h : Fk W F S gD N D v d k m qv w) (hv : v < N) : w.cell? ⟨gD, v, none⟩ = some (.int .i64 (d : Int)) := by
  obtain ⟨R, f, h1, h2, h3, h4, h5⟩ := h
  have := (h4.get hv).1
  rw [h2] at this
  exact this
theorem Fk.bel (h : Fk W F S gD N D v d k m qv w) : Below W.heap.size W w := by
  obtain ⟨R, f, h1, h2, h3, h4, h5⟩ := h
  exact h4.bel
theorem Fr.bel (h : Fr W F S gD N i m qv w) : Below W.heap.size W w := by
  obtain ⟨D, Q, f, h1, h2, h3, h4⟩ := h
  exact h4.bel
theorem Fr.form (h : Fr W F S gD N i m qv w) : ∃ o c, qv = .slice o m c := by
  obtain ⟨D, Q, f, h1, h2, h3, h4⟩ := h
  rw [← h2]
  exact h4.form
theorem takeU {l : List Nat} {i : Nat} (h : i < l.length) (y : Nat) : y ∈ l.take (i + 1) → y ∈ l.take i ∨ y = l.getD i 0 := by
  rw [take_snocN h, List.mem_append, List.mem_singleton]
  exact id
/-- A need more: found already, or new. -/
theorem Fk.step (h : Fk W F S gD N D v d k m qv w) (hk : k < (F v).length) (hx : (F v).getD k 0 = x) (hF : ∀ v, v < N → ∀ x ∈ F v, x < N) (hv : v < N) (hm : m ≤ 100000000) :
    (∃ e : Nat, w.cell? ⟨gD, x, none⟩ = some (.int .i64 (e : Int)) ∧ Fk W F S gD N D v d (k + 1) m qv w) ∨
    (w.cell? ⟨gD, x, none⟩ = some (.int .i64 (-1)) ∧ w.frozen? ⟨gD, x, none⟩ = false ∧ ∃ o c w', (apI 32 #[qv, .slice (some ⟨(w.setCell ⟨gD, x, none⟩ (.int .i64 ((d + 1 : Nat) : Int))).heap.size, 0, none⟩) 1 1]).run Try.prog ((w.setCell ⟨gD, x, none⟩ (.int .i64 ((d + 1 : Nat) : Int))).alloc (.cells #[.int .i64 (x : Int)] 3)) = .ok (.slice o (m + 1) c) w' ∧ Fk W F S gD N D v d (k + 1) (m + 1) (.slice o (m + 1) c) w') := by
  obtain ⟨R, f, h1, h2, h3, h4, h5⟩ := h
  have hxF : x ∈ F v := by
    rw [← hx, List.getD_eq_getElem?_getD, List.getElem?_eq_getElem hk]
    exact List.getElem_mem _
  have hxN := hF v hv x hxF
  cases hf : f x with
  | some e =>
    refine .inl ⟨e, by have := (h4.get hxN).1; rw [hf] at this; exact this, R, f, h1, h2, h3, h4, fun y hy => ?_⟩
    rcases takeU hk y hy with q | q
    · exact h5 y q
    · rw [q, hx]
      exact (h3.me x).1 (by rw [hf]; rfl)
  | none =>
    have hg := h4.get hxN
    rw [hf] at hg
    have h3' := h3.add hxF hf h2
    have hset := h4.set hxN (d + 1)
    obtain ⟨o, c, w', r1, r2, r3, r4⟩ := hset.push x (by rw [h1]; omega)
    rw [h1] at r1 r2
    have eA : (D ++ v :: R) ++ [x] = D ++ v :: (R ++ [x]) := by simp
    rw [eA] at r2
    refine .inr ⟨hg.1, hg.2, o, c, w', r1, R ++ [x], _, by rw [← eA, List.length_append, h1]; rfl, ?_, h3', r2, fun y hy => ?_⟩
    · have hxv : v ≠ x := fun e => by rw [e, hf] at h2; cases h2
      rw [if_neg hxv]
      exact h2
    · rw [← eA]
      rcases takeU hk y hy with q | q
      · exact List.mem_append_left _ (h5 y q)
      · rw [q, hx]
        exact List.mem_append_right _ (by simp)
theorem Fk.done (h : Fk W F S gD N D v d (F v).length m qv w) : Fr W F S gD N (D.length + 1) m qv w := by
  obtain ⟨R, f, h1, h2, h3, h4, h5⟩ := h
  have eA : (D ++ [v]) ++ R = D ++ v :: R := by simp
  exact ⟨D ++ [v], R, f, by simp, by rw [eA]; exact h1, h3.next fun x hx => h5 x (by rw [List.take_length]; exact hx), by rw [eA]; exact h4⟩
end
/-- What far answers. -/
def FaP (F : Nat → List Nat) (S : List Nat) (N : Nat) (W : World) (e : Ending) (w : World) : Prop := ∃ (gD : Nat) (f : Nat → Option Nat) (dl : List Int), e = .returned (.slice (some ⟨gD, 0, none⟩) N N) ∧ Below W.heap.size W w ∧ w.heap[gD]? = some (.cells (izU dl) 3 (0, 0)) ∧ dl.length = N ∧ (∀ v, v < N → dl.getD v 0 = dV (f v)) ∧ (∀ v k, f v = some k ↔ DsS F S k v) ∧ W.heap.size ≤ gD
theorem Fr.stop {W w : World} {F : Nat → List Nat} {S : List Nat} {gD N m : Nat} {qv : Value} (h : Fr W F S gD N m m qv w) : FaP F S N W (.returned (.slice (some ⟨gD, 0, none⟩) N N)) w := by
  obtain ⟨D, Q, f, h1, h2, h3, h4⟩ := h
  have hQ : Q = [] := by
    rw [List.length_append] at h2
    exact List.length_eq_zero_iff.1 (by omega)
  subst hQ
  obtain ⟨dl, q1, q2, q3⟩ := h4.row
  exact ⟨gD, f, dl, rfl, h4.bel, q1, q2, q3, h3.stop, h4.gd⟩
/-- The roots are laid, the first i of them. -/
def Fi (W : World) (S : List Nat) (gD N i m : Nat) (qv : Value) (w : World) : Prop := ((frs [] (S.take i)).1).length = m ∧ Fm W gD N (fun v => if v ∈ S.take i then some 0 else none) qv (frs [] (S.take i)).1 w
theorem fm_congr {W w : World} {gD N : Nat} {f g : Nat → Option Nat} {qv : Value} {A : List Nat} (h : Fm W gD N f qv A w) (he : ∀ v, f v = g v) : Fm W gD N g qv A w := by
  have : f = g := funext he
  rw [← this]; exact h
theorem Fi.step {W w : World} {S : List Nat} {gD N i m x : Nat} {qv : Value} (h : Fi W S gD N i m qv w) (hi : i < S.length) (hx : S.getD i 0 = x) (hS : ∀ x ∈ S, x < N) (hm : m ≤ 100000000) :
    (∃ e : Nat, w.cell? ⟨gD, x, none⟩ = some (.int .i64 (e : Int)) ∧ Fi W S gD N (i + 1) m qv w) ∨
    (w.cell? ⟨gD, x, none⟩ = some (.int .i64 (-1)) ∧ w.frozen? ⟨gD, x, none⟩ = false ∧ ∃ o c w', (apI 32 #[qv, .slice (some ⟨(w.setCell ⟨gD, x, none⟩ (.int .i64 0)).heap.size, 0, none⟩) 1 1]).run Try.prog ((w.setCell ⟨gD, x, none⟩ (.int .i64 0)).alloc (.cells #[.int .i64 (x : Int)] 3)) = .ok (.slice o (m + 1) c) w' ∧ Fi W S gD N (i + 1) (m + 1) (.slice o (m + 1) c) w') := by
  obtain ⟨h1, h2⟩ := h
  have et : S.take (i + 1) = S.take i ++ [x] := by rw [take_snocN hi, hx]
  have hxN : x < N := by
    rw [← hx, List.getD_eq_getElem?_getD, List.getElem?_eq_getElem hi]
    exact hS _ (List.getElem_mem _)
  have hg := h2.get hxN
  have hf := frs_snoc [] (S.take i) x
  have hm2 : ∀ y, y ∈ (frs [] (S.take i)).2 ↔ y ∈ S.take i := fun y => by rw [frs_mem]; simp
  by_cases hin : x ∈ S.take i
  · rw [if_pos ((hm2 x).2 hin)] at hf
    refine .inl ⟨0, by have := hg.1; rw [if_pos hin] at this; exact this, ?_, ?_⟩
    · rw [et, hf]; exact h1
    · rw [et, hf]
      refine fm_congr h2 fun v => ?_
      by_cases e : v = x
      · subst e; simp [hin]
      · simp [e]
  · rw [if_neg (fun q => hin ((hm2 x).1 q))] at hf
    rw [if_neg hin] at hg
    have hset := h2.set hxN 0
    obtain ⟨o, c, w', r1, r2, r3, r4⟩ := hset.push x (by rw [h1]; omega)
    rw [h1] at r1 r2
    refine .inr ⟨hg.1, hg.2, o, c, w', r1, ?_, ?_⟩
    · rw [et, hf]; simp [h1]
    · rw [et, hf]
      refine fm_congr r2 fun v => ?_
      by_cases e : v = x
      · subst e; simp
      · simp [e]
theorem Fi.done {W w : World} {F : Nat → List Nat} {S : List Nat} {gD N m : Nat} {qv : Value} (h : Fi W S gD N S.length m qv w) : Fr W F S gD N 0 m qv w := by
  obtain ⟨h1, h2⟩ := h
  rw [List.take_length] at h1 h2
  exact ⟨[], (frs [] S).1, _, rfl, h1, fq_zero F S, h2⟩
end Go.Proofs.Ytgedmfcfhdfoeaa

/- Graphs searched by the document: far, walked. -/
namespace Go.Proofs.Ytgedmfcfhdfoeaa
open Go.RowKit GM
set_option maxRecDepth 20000
/-- The distances while -1 is laid. -/
def Fz (w : World) (gD N i : Nat) (wr : World) : Prop := Below w.heap.size w wr ∧ ∃ dl : List Int, wr.heap[gD]? = some (.cells (izU dl) 3 (0, 0)) ∧ dl.length = N ∧ ∀ j, j < i → dl.getD j 0 = -1
theorem Fz.step {w wr : World} {gD N i : Nat} (h : Fz w gD N i wr) (hi : i < N) (hg : w.heap.size ≤ gD) : (∃ u, wr.cell? ⟨gD, i, none⟩ = some u) ∧ wr.frozen? ⟨gD, i, none⟩ = false ∧ Fz w gD N (i + 1) (wr.setCell ⟨gD, i, none⟩ (.int .i64 (-1))) := by
  obtain ⟨h0, dl, h1, h2, h3⟩ := h
  refine ⟨⟨_, (cell_of_row _ _ _ _ _ _ h1).trans (izU_get _ _ (by omega))⟩, frozen_of_row _ _ _ _ _ h1, h0.setCell (by show w.heap.size ≤ gD; exact hg) _, dl.set i (-1), by rw [heap_setCell_same _ _ _ _ _ _ h1, izU_set], by simp [h2], fun j hj => ?_⟩
  by_cases e : j = i
  · subst e; exact setD_same (by omega)
  · rw [setD_ne e]; exact h3 j (by omega)
theorem Fz.done {w wr : World} {gD N : Nat} {S : List Nat} (h : Fz w gD N N wr) (hg : w.heap.size ≤ gD) : Fi w S gD N 0 0 (.slice none 0 0) wr := by
  obtain ⟨h0, dl, h1, h2, h3⟩ := h
  refine ⟨by simp [frs], h0, ⟨dl, h1, h2, fun v hv => by rw [h3 v hv]; simp [dV]⟩, ?_, hg⟩
  rw [show (frs [] (S.take 0)).1 = [] by simp [frs]]
  exact World.ownsRow_nil _ _ _ _
theorem fi_form {W w : World} {S : List Nat} {gD N i m : Nat} {qv : Value} (h : Fi W S gD N i m qv w) : ∃ o c, qv = .slice o m c := by
  obtain ⟨h1, h2⟩ := h
  rw [← h1]
  exact h2.form
theorem fi_len {W w : World} {S : List Nat} {gD N i m : Nat} {qv : Value} (h : Fi W S gD N i m qv w) (hS : ∀ x ∈ S, x < N) : m ≤ N := by
  rw [← h.1]
  exact nodup_len N _ (frs_nd1 _ _) fun x hx => hS x (List.mem_of_mem_take (frs_sub _ _ x hx))
theorem fk_len {W w : World} {F : Nat → List Nat} {S D : List Nat} {gD N v d k m : Nat} {qv : Value} (h : Fk W F S gD N D v d k m qv w) (hS : ∀ x ∈ S, x < N) (hF : ∀ v, v < N → ∀ x ∈ F v, x < N) : m ≤ N := by
  obtain ⟨R, f, h1, h2, h3, -⟩ := h
  rw [← h1, List.length_append]
  exact h3.len hS hF
theorem addI1 {d : Nat} (h : d ≤ 1000000) : wrap64 ((d : Int) + 1) = ((d + 1 : Nat) : Int) := by unfold wrap64; omega
theorem notNeg (e : Nat) : ¬ ((e : Int) < 0) := by omega
theorem lnU {m N : Nat} (h : m ≤ N) (h2 : N ≤ 8192) : m ≤ 100000000 := by omega
theorem lt9k {i N : Nat} (h : i < N) (h2 : N ≤ 8192) : i < 1000000000 := by omega
theorem le9k {d N : Nat} (h : d ≤ N) (h2 : N ≤ 8192) : d ≤ 1000000 := by omega
theorem measU {N i : Nat} (h : i < N) : N + 1 - ((i : Int) + 1).toNat < N + 1 - (i : Int).toNat := by omega
attribute [local go_sem ↓] toMkI toApI
set_option maxRecDepth 100000 in
set_option maxHeartbeats 6400000 in
theorem far_any (w : World) {g N g0 : Nat} {V : Nat → Value} {F : Nat → List Nat} {rv : Value} {S : List Nat} (hN : N ≤ 8192) (hr : Rws g N F V w) (hF : ∀ v, v < N → ∀ x ∈ F v, x < N) (hFl : ∀ v, (F v).length ≤ N) (hR : Il g0 rv S w) (hS : ∀ x ∈ S, x < N) (hSl : S.length < 1000000000) :
    Calls Try.prog 42 #[.slice (some ⟨g, 0, none⟩) N N, rv] w (FaP F S N w) := by
  obtain ⟨W2, r2, row2, b2⟩ := run_mkI w N (by omega)
  obtain ⟨gD, hgD⟩ : ∃ k, w.heap.size = k := ⟨_, rfl⟩
  rw [hgD] at r2 row2
  have H0 : Hid (Fz w gD N 0 W2) := ⟨b2, List.replicate N 0, by rw [izU_zero]; exact row2, by simp, fun j hj => by omega⟩
  obtain ⟨ro, rc, rfl, hrc⟩ := hR
  obtain ⟨ns, hns⟩ : ∃ n, S.length = n := ⟨_, rfl⟩
  rw [hns] at hrc hSl ⊢
  have HQ := mkHid (And.intro hN (And.intro hr (And.intro hF (And.intro hFl (And.intro hrc (And.intro hS (And.intro hSl (And.intro hns hgD))))))))
  clear row2 b2 hN hr hF hFl hrc hS hSl hns
  go_enter Try.func42, Try.ntmps42
  go_wp2_with fail
  go_loopw [6] (fun iv wr => ∃ i : Nat, iv = .int .i64 (i : Int) ∧ i ≤ N ∧ Hid (Fz w gD N i wr)) (fun iv _ => N - (intOf iv).toNat)
  case atStart => exact ⟨0, rfl, Nat.zero_le _, H0⟩
  case round =>
    clear H0 r2
    obtain ⟨i, rfl, hi, HI⟩ := hrel
    by_cases hlt : i < N
    · obtain ⟨⟨u, c1⟩, c2, c3⟩ := HI.out.step hlt (Nat.le_of_eq HQ.out.2.2.2.2.2.2.2.2)
      have i0 := geI i
      have i1 := ltI hlt
      have wi := wrapI i (by have := HQ.out.1; omega)
      have HN := mkHid (And.intro c3 hlt)
      clear c3 hlt HI hi
      go_wp2_with fail
      exact ⟨⟨i + 1, by first | (rw [wi]; rfl) | rfl, HN.out.2, HN.out.1⟩, by first | (rw [wi]; exact measI _ _ HN.out.2) | exact measI _ _ HN.out.2⟩
    · have i1 := nltI hlt
      have H1 : Hid (Fi w S gD N 0 0 (.slice none 0 0) wr) := by
        have := HI.out
        rw [eqI hi hlt] at this
        exact this.done (Nat.le_of_eq HQ.out.2.2.2.2.2.2.2.2)
      clear hlt HI hi
      go_wp2_with fail
      go_loopw [8, 7] (fun iv qv wr => ∃ (i m c : Nat) (o : Option Addr), iv = .int .i64 (i : Int) ∧ qv = .slice o m c ∧ i ≤ ns ∧ Hid (Fi w S gD N i m (.slice o m c) wr)) (fun iv _ _ => ns - (intOf iv).toNat)
      case atStart => exact ⟨0, 0, 0, _, rfl, rfl, Nat.zero_le _, H1⟩
      case round =>
        clear H1
        obtain ⟨i, m, c, o, rfl, rfl, hi, HI⟩ := hrel
        by_cases hlt : i < ns
        · obtain ⟨hN, hr, hF, hFl, hrc, hS, hSl, hns, hgD'⟩ := HQ.out
          obtain ⟨off, rfl, hg0, hcc⟩ := hrc (by omega)
          obtain ⟨x, hx⟩ : ∃ x, S.getD i 0 = x := ⟨_, rfl⟩
          have cx := cell_belowX HI.out.2.bel (hcc i hlt)
          rw [hx] at cx
          have hxN : x < N := by
            rw [← hx, List.getD_eq_getElem?_getD, List.getElem?_eq_getElem (by omega)]
            exact hS _ (List.getElem_mem _)
          have hst := HI.out.step (by omega) hx hS (lnU (fi_len HI.out hS) hN)
          have i0 := geI i
          have i1 := ltI hlt
          have x0 := geI x
          have x1 := ltI hxN
          have wi := wrapI i (by omega)
          have HL := mkHid hlt
          clear hN hr hF hFl hrc hS hSl hns hgD' hcc hx hxN hi hlt HI hg0
          rcases hst with ⟨e, d1, d2⟩ | ⟨d1, d2, o', c', w', d3, d4⟩
          · have ne := notNeg e
            have HN := mkHid d2
            clear d2
            go_wp2_with fail
            exact ⟨⟨i + 1, m, c, _, by first | (rw [wi]; rfl) | rfl, rfl, HL.out, HN⟩, by first | (rw [wi]; exact measI _ _ HL.out) | exact measI _ _ HL.out⟩
          · have ne : (-1 : Int) < 0 := by omega
            have HN := mkHid d4
            obtain ⟨Z, hZ⟩ : ∃ Z, wr.setCell ⟨gD, x, none⟩ (.int .i64 0) = Z := ⟨_, rfl⟩
            rw [hZ] at d3
            have cx2 : ∀ u, wr.cell? ⟨g0, off + i, none⟩ = some u → g0 ≠ gD → Z.cell? ⟨g0, off + i, none⟩ = some u := fun u h hn => by rw [← hZ]; exact (World.cell?_of_block (w := wr) (a := ⟨g0, off + i, none⟩) (heap_setCell_other _ _ _ _ (by show g0 ≠ gD; exact hn))).trans h
            have hne : g0 ≠ gD := by
              intro e
              obtain ⟨hN, hr, hF, hFl, hrc, hS, hSl, hns, hgD'⟩ := HQ.out
              obtain ⟨off2, e1, hg0, -⟩ := hrc (by have := HL.out; omega)
              omega
            have cx3 := cx2 _ cx hne
            clear d4 cx2 hne
            go_wp2_with fail
            exact ⟨⟨i + 1, m + 1, c', o', by first | (rw [wi]; rfl) | rfl, rfl, HL.out, HN⟩, by first | (rw [wi]; exact measI _ _ HL.out) | exact measI _ _ HL.out⟩
        · have i1 := nltI hlt
          have H2 : Hid (Fr w F S gD N 0 m (.slice o m c) wr) := by
            have := HI.out
            rw [eqI hi hlt, ← HQ.out.2.2.2.2.2.2.2.1] at this
            exact this.done
          clear hlt HI hi
          go_wp2_with fail
          go_loopw [9, 7] (fun iv qv wr => ∃ (i m c : Nat) (o : Option Addr), iv = .int .i64 (i : Int) ∧ qv = .slice o m c ∧ i ≤ m ∧ Hid (Fr w F S gD N i m (.slice o m c) wr)) (fun iv _ _ => N + 1 - (intOf iv).toNat)
          case atStart => exact ⟨0, m, c, _, rfl, rfl, Nat.zero_le _, H2⟩
          case round =>
            clear H2
            obtain ⟨i, m, c, o, rfl, rfl, hi, HI⟩ := hrel
            by_cases hlt : i < m
            · obtain ⟨hN, hr, hF, hFl, hrc, hS, hSl, hns, hgD'⟩ := HQ.out
              obtain ⟨hmN, D, v, d, b, c0, hD, hv, e, cv, hdN, fk⟩ := HI.out.open hlt hS hF
              injection e with e1 e2 e3
              subst e1 e3
              obtain ⟨ln, hln⟩ : ∃ n, (F v).length = n := ⟨_, rfl⟩
              have hln2 := hFl v
              have cV := (hr.below fk.bel).cell v hv |>.1
              obtain ⟨-, oV, cV', eV, hVc⟩ := own_get (hr.own v hv)
              rw [eV, hln] at cV
              have i0 := geI i
              have i1 := ltI hlt
              have v0 := geI v
              have v1 := ltI hv
              have wi := wrapI i (lt9k (Nat.lt_of_lt_of_le hlt hmN) hN)
              have H3 := mkHid (And.intro hD (And.intro hv (And.intro hln (And.intro (hln ▸ hln2 : ln ≤ N) (And.intro eV (And.intro hdN (Nat.lt_of_lt_of_le hlt hmN : i < N)))))))
              have H4 := mkHid fk
              clear hN hr hF hFl hrc hS hSl hns hgD' hmN hD hv e2 hdN fk hln hln2 eV hVc hi hlt HI
              go_wp2_with fail
              go_loopw [11, 7] (fun kv qv wr => ∃ (k m c : Nat) (o : Option Addr), kv = .int .i64 (k : Int) ∧ qv = .slice o m c ∧ k ≤ ln ∧ Hid (Fk w F S gD N D v d k m (.slice o m c) wr)) (fun kv _ _ => ln - (intOf kv).toNat)
              case atStart => exact ⟨0, m, _, _, rfl, rfl, Nat.zero_le _, H4⟩
              case round =>
                clear H4 cv cV
                obtain ⟨k, m, c, o, rfl, rfl, hk, HI⟩ := hrel
                obtain ⟨hN, hr, hF, hFl, hrc, hS, hSl, hns, hgD'⟩ := HQ.out
                obtain ⟨hD, hv, hln, hlnN, eV, hdN, hiN⟩ := H3.out
                have cV := (hr.below HI.out.bel).cell v hv |>.1
                obtain ⟨-, oV, cV', eV', hVc⟩ := own_get (hr.own v hv)
                rw [eV', hln] at cV
                by_cases hlt : k < ln
                · obtain ⟨bV, rfl, hbV, hbg, hcV⟩ := hVc (by omega)
                  obtain ⟨x, hx⟩ : ∃ x, (F v).getD k 0 = x := ⟨_, rfl⟩
                  have cx := cell_belowX HI.out.bel (hcV k (by omega))
                  rw [hx] at cx
                  have hxN : x < N := by
                    rw [← hx, List.getD_eq_getElem?_getD, List.getElem?_eq_getElem (by omega)]
                    exact hF v hv _ (List.getElem_mem _)
                  have hst := HI.out.step (by omega) hx hF hv (lnU (fk_len HI.out hS hF) hN)
                  have cd := HI.out.look hv
                  have wd := addI1 (d := d) (le9k hdN hN)
                  obtain ⟨d1, hd1⟩ : ∃ d1, ((d + 1 : Nat) : Int) = d1 := ⟨_, rfl⟩
                  rw [hd1] at wd hst
                  have k0 := geI k
                  have k1 := ltI hlt
                  have x0 := geI x
                  have x1 := ltI hxN
                  have wk := wrapI k (lt9k (Nat.lt_of_lt_of_le hlt hlnN) hN)
                  have HL := mkHid hlt
                  clear hN hr hF hFl hrc hS hSl hns hgD' hD hln hlnN eV hdN hiN eV' hVc hcV hx hxN hk hlt HI hbV hbg hv hd1
                  rcases hst with ⟨e, q1, q2⟩ | ⟨q1, q2, o', c', w', q3, q4⟩
                  · have ne := notNeg e
                    have HN := mkHid q2
                    clear q2
                    go_wp2_with fail
                    exact ⟨⟨k + 1, m, c, _, by first | (rw [wk]; rfl) | rfl, rfl, HL.out, HN⟩, by first | (rw [wk]; exact measI _ _ HL.out) | exact measI _ _ HL.out⟩
                  · have ne : (-1 : Int) < 0 := by omega
                    have HN := mkHid q4
                    obtain ⟨Z, hZ⟩ : ∃ Z, wr.setCell ⟨gD, x, none⟩ (.int .i64 d1) = Z := ⟨_, rfl⟩
                    rw [hZ] at q3
                    clear q4
                    go_wp2_with fail
                    exact ⟨⟨k + 1, m + 1, c', o', by first | (rw [wk]; rfl) | rfl, rfl, HL.out, HN⟩, by first | (rw [wk]; exact measI _ _ HL.out) | exact measI _ _ HL.out⟩
                · have k1 := nltI hlt
                  have HZ : Hid (Fr w F S gD N (i + 1) m (.slice o m c) wr ∧ i + 1 ≤ m) := by
                    have h := HI.out
                    rw [eqI hk hlt, ← hln] at h
                    have := h.done
                    rw [hD] at this
                    refine ⟨this, ?_⟩
                    obtain ⟨R, f, h1, -⟩ := h
                    rw [List.length_append, List.length_cons] at h1
                    omega
                  have HL := mkHid hiN
                  clear hN hr hF hFl hrc hS hSl hns hgD' hD hln hlnN eV hdN hiN eV' hVc hk hlt HI hv
                  go_wp2_with fail
                  exact ⟨⟨i + 1, m, c, o, by first | (rw [wi]; rfl) | rfl, rfl, HZ.out.2, HZ.out.1⟩, by first | (rw [wi]; exact measU HL.out) | exact measU HL.out⟩
            · have i1 := nltI hlt
              have HZ : Hid (FaP F S N w (.returned (.slice (some ⟨gD, 0, none⟩) N N)) wr) := by
                have h := HI.out
                rw [eqI hi hlt] at h
                exact h.stop
              clear hlt HI hi
              go_wp2_with fail
              go_ret
              exact HZ.out
end Go.Proofs.Ytgedmfcfhdfoeaa
