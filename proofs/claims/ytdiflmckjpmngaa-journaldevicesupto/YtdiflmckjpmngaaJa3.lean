/- JournalDevices: both devices beside one another. -/
import Derived.Test.YtdiflmckjpmngaaJv8
import Derived.Test.YtdiflmckjpmngaaJvL
namespace Go.Proofs.Ytdiflmckjpmngaa
open Go.RowKit
/-- Blocks that begin with a byte. -/
def U8 (W : World) (g : Nat) : Prop := ∃ n : Int, W.cell? ⟨g, 0, none⟩ = some (.int .u8 n)
theorem u8_of {W : World} {g : Nat} {l : List Nat} {y : Value} (hy : (bs l)[0]? = some y) (h : W.cell? ⟨g, 0, none⟩ = some y) : U8 W g := by
  obtain ⟨q, _, rfl⟩ := List.mem_map.1 (List.mem_of_getElem? hy)
  exact ⟨_, h⟩
theorem bs_ne {l : List Nat} {j : Nat} {u : Value} (h : (bs l)[j]? = some u) : ∃ y, (bs l)[0]? = some y :=
  ⟨_, List.getElem?_eq_getElem (by have := (List.getElem?_eq_some_iff.1 h).1; omega)⟩
theorem cell_lt {w : World} {a : Addr} {v : Value} (h : w.cell? a = some v) : a.block < w.heap.size := by
  rcases Nat.lt_or_ge a.block w.heap.size with h1 | h1
  · exact h1
  · exfalso
    unfold World.cell? at h
    simp [Array.getElem?_eq_none h1] at h
theorem Ch.kind {Q Q' : Nat → Prop} {W W' : World} (h1 : ∀ (g : Nat) C, W.heap[g]? = some (.cells C 71 (0, 0)) → W'.heap[g]? = W.heap[g]?) (h2 : ∀ g, U8 W g → W'.heap[g]? = W.heap[g]?) (hq : ∀ j, Q j → Q' j) {p : Option Addr} {d : List Nat} (h : Ch Q W p d) : Ch Q' W' p d := by
  induction h with
  | nil => exact .nil
  | cons g b cap k ah pre D q1 q2 q3 q4 q5 q6 q7 q8 q9 _ ih =>
    obtain ⟨y, hy⟩ : ∃ y, (bs D)[0]? = some y := ⟨_, List.getElem?_eq_getElem (by rw [bs_len]; omega)⟩
    have hb := h2 b (u8_of hy (q6 0 y hy))
    exact .cons g b cap k ah pre D (hq g q1) (hq b q2) ((h1 g _ q3).trans q3) q4 q5 (fun j u hu => (World.cell?_of_block (w := W) (a := ⟨b, j, none⟩) hb).trans (q6 j u hu)) q7 q8 q9 ih
theorem Bq.kind {Q Q' : Nat → Prop} {W W' : World} (h2 : ∀ g, U8 W g → W'.heap[g]? = W.heap[g]?) (hq : ∀ j, Q j → Q' j) {v : Value} {l : List Nat} (h : Bq Q W v l) : Bq Q' W' v l := by
  obtain ⟨oa, cap, q1, q2, q3, q4, q5, q6⟩ := h
  refine ⟨oa, cap, q1, q2, q3, q4, q5, fun j u hu => ?_⟩
  obtain ⟨g, o, e1, e2, e3⟩ := q6 j u hu
  have ho : o = 0 := by
    have := q2.2 _ e1
    injection this
  subst ho
  obtain ⟨y, hy⟩ := bs_ne hu
  obtain ⟨g', o', e1', e2', e3'⟩ := q6 0 y hy
  have hgo : g' = g ∧ o' = 0 := by
    have := e1.symm.trans e1'
    injection this with this
    injection this with a b
    exact ⟨a.symm, b.symm⟩
  obtain ⟨rfl, rfl⟩ := hgo
  exact ⟨_, 0, e1, hq _ e2, (World.cell?_of_block (w := W) (a := ⟨_, 0 + j, none⟩) (h2 _ (u8_of hy e3'))).trans e3⟩
theorem Dv.kind [Inhabited HoleT] {lo v : Nat} {W W' : World} {lv : Value} {f : Array Value} {ms : List (Array Value)} {sp : List Sp} (h : Dv lo W v lv f ms sp) (hs : W.heap.size ≤ W'.heap.size) (hv : W'.heap[v]? = W.heap[v]?) (hl : ∀ g, lv.ownBlock = some g → W'.heap[g]? = W.heap[g]?) (h1 : ∀ (g : Nat) C, W.heap[g]? = some (.cells C 71 (0, 0)) → W'.heap[g]? = W.heap[g]?) (h2 : ∀ g, U8 W g → W'.heap[g]? = W.heap[g]?) : Dv lo W' v lv f ms sp := by
  refine ⟨hv.trans h.row, own_keep h.own hl, h.len, fun i m s q1 q2 => ?_, h.lov, Nat.le_trans h.hb hs⟩
  obtain ⟨p0, p1, r1, ⟨pa, qa, ca, da⟩, ⟨pb, qb, cb, db⟩⟩ := h.each i m s q1 q2
  have hq : ∀ j, Qd lo W v lv j → Qd lo W' v lv j := fun j hj => ⟨hj.1, Nat.lt_of_lt_of_le hj.2.1 hs, hj.2.2⟩
  exact ⟨p0, p1, r1, ⟨pa, qa, ca.kind h1 h2 hq, da⟩, ⟨pb, qb, cb.kind h1 h2 hq, db⟩⟩
theorem Ro.kind [Inhabited HoleT] {lo v : Nat} {W W' : World} {ov : Value} {B : List Nat × List Nat} {s : Fl × Fl} {xs : List (Array Value)} {os : List Opn} (h : Ro lo W v ov B s xs os) (hs : W.heap.size ≤ W'.heap.size) (hv : W'.heap[v]? = W.heap[v]?) (hl : ∀ g, ov.ownBlock = some g → W'.heap[g]? = W.heap[g]?) (h2 : ∀ g, U8 W g → W'.heap[g]? = W.heap[g]?) : Ro lo W' v ov B s xs os := by
  have hq : ∀ j, Qd lo W v ov j → Qd lo W' v ov j := fun j hj => ⟨hj.1, Nat.lt_of_lt_of_le hj.2.1 hs, hj.2.2⟩
  obtain ⟨b0, b1, s0, s1, l0, l1, hr, hb0, hb1, hs0, hs1, hl0, hl1⟩ := h.rw.row
  refine ⟨⟨⟨b0, b1, s0, s1, l0, l1, hv.trans hr, hb0.kind h2 hq, hb1.kind h2 hq, hs0.kind h2 hq, hs1.kind h2 hq, hl0.kind h2 hq, hl1.kind h2 hq⟩, h.rw.lov, h.rw.lims⟩, own_keep h.own hl, h.len, Nat.le_trans h.hb hs, fun i a o q1 q2 => ?_⟩
  obtain ⟨pv, e, q⟩ := h.each i a o q1 q2
  exact ⟨pv, e, q.kind h2 hq⟩
theorem cell0 {W : World} {g : Nat} {C : Array Value} {t : Nat} {u : Value} (h : W.heap[g]? = some (.cells C t (0, 0))) (hu : C[0]? = some u) : W.cell? ⟨g, 0, none⟩ = some u := by
  rw [cell_of_row _ _ _ _ _ _ h]
  exact hu
theorem not_u8 {W : World} {g : Nat} {u : Value} (h : W.cell? ⟨g, 0, none⟩ = some u) (hu : ∀ n, u ≠ .int .u8 n) : ¬ U8 W g := fun ⟨n, hn⟩ => by
  rw [h] at hn
  injection hn with e
  exact hu n e
/-- The code's device: its own two blocks begin with no byte. -/
theorem Dv.n8 [Inhabited HoleT] {lo v : Nat} {W : World} {lv : Value} {f : Array Value} {ms : List (Array Value)} {sp : List Sp} (h : Dv lo W v lv f ms sp) (h0 : ms = [] → lv = .slice none 0 0) : ¬ U8 W v ∧ ∀ g, lv.ownBlock = some g → ¬ U8 W g := by
  have hl0 : 0 < sp.length := by rw [h.len]; omega
  obtain ⟨p0, p1, hf, -⟩ := h.each 0 f sp[0] rfl (List.getElem?_eq_getElem hl0)
  refine ⟨not_u8 (u := .pointer p0) (cell0 h.row (by rw [hf]; rfl)) (fun n e => by cases e), fun g hg => ?_⟩
  cases ms with
  | nil => rw [h0 rfl] at hg; cases hg
  | cons m ms =>
    have hl1 : 1 < sp.length := by rw [h.len]; simp
    obtain ⟨q0, q1, hm, -⟩ := h.each 1 m sp[1] rfl (List.getElem?_eq_getElem hl1)
    have := h.own.cells hg 0 (.pointer q0) (by rw [hm]; rfl)
    exact not_u8 (u := .pointer q0) this (fun n e => by cases e)
theorem Ro.n8 [Inhabited HoleT] {lo v : Nat} {W : World} {ov : Value} {B : List Nat × List Nat} {s : Fl × Fl} {xs : List (Array Value)} {os : List Opn} (h : Ro lo W v ov B s xs os) (h0 : xs = [] → ov = .slice none 0 0) : ¬ U8 W v ∧ ∀ g, ov.ownBlock = some g → ¬ U8 W g := by
  obtain ⟨b0, b1, s0, s1, l0, l1, hr, hb0, -⟩ := h.rw.row
  obtain ⟨oa, cap, e, -⟩ := hb0
  refine ⟨not_u8 (u := b0) (cell0 hr rfl) (fun n q => by rw [e] at q; cases q), fun g hg => ?_⟩
  cases xs with
  | nil => rw [h0 rfl] at hg; cases hg
  | cons a xs =>
    cases os with
    | nil => have := h.len; simp at this
    | cons o os =>
      obtain ⟨pv, ha, -⟩ := h.each 0 a o rfl rfl
      have := h.own.cells hg 0 (.int .i64 (o.1 : Int)) (by rw [ha]; rfl)
      exact not_u8 this (fun n e => by cases e)
theorem Ro.tag [Inhabited HoleT] {lo v : Nat} {W : World} {ov : Value} {B : List Nat × List Nat} {s : Fl × Fl} {xs : List (Array Value)} {os : List Opn} (h : Ro lo W v ov B s xs os) : (∃ C, W.heap[v]? = some (.cells C 64 (0, 0))) ∧ ∀ g, ov.ownBlock = some g → lo ≤ g ∧ ∃ C, W.heap[g]? = some (.cells C 68 (0, 0)) := by
  obtain ⟨b0, b1, s0, s1, l0, l1, hr, -⟩ := h.rw.row
  refine ⟨⟨_, hr⟩, fun g hg => ?_⟩
  rcases h.own.2 with ⟨h1, _⟩ | ⟨g', cap, cur, h1, h2, h3, _⟩
  · rw [h1] at hg; cases hg
  · rw [h1] at hg
    obtain rfl : g' = g := by simpa [Value.ownBlock] using hg
    exact ⟨h2, _, h3⟩
theorem tag_ne {W : World} {g h : Nat} {C D : Array Value} {s t : Nat} (h1 : W.heap[g]? = some (.cells C s (0, 0))) (h2 : W.heap[h]? = some (.cells D t (0, 0))) (hst : s ≠ t) : g ≠ h := fun e => by
  subst e
  have := h1.symm.trans h2
  injection this with e1
  injection e1 with e1 e2
  exact hst e2

/-- Both devices: the code's has been through sp, the document's has done os. -/
structure Pr [Inhabited HoleT] (W : World) (v vr : Nat) (B : List Nat × List Nat) (sp : List Sp) (os : List Opn) (w : World) : Prop where
  bel : Below W.heap.size W w
  ex : ∃ lo lr lv f ms ov xs, Dv lo w v lv f ms sp ∧ Ro lr w vr ov B (stt B os) xs os ∧ W.heap.size ≤ lo ∧ W.heap.size ≤ lr ∧ lo ≤ w.heap.size ∧ lr ≤ w.heap.size ∧ (ms = [] → lv = .slice none 0 0) ∧ (xs = [] → ov = .slice none 0 0)
theorem Pr.below [Inhabited HoleT] {W w w' : World} {v vr : Nat} {B : List Nat × List Nat} {sp : List Sp} {os : List Opn} (h : Pr W v vr B sp os w) (hb : Below w.heap.size w w') : Pr W v vr B sp os w' := by
  obtain ⟨lo, lr, lv, f, ms, ov, xs, h1, h2, h3, h4, h5, h6, h7, h8⟩ := h.ex
  exact ⟨h.bel.trans (hb.mono h.bel.size), lo, lr, lv, f, ms, ov, xs, h1.below hb, h2.below hb, h3, h4, Nat.le_trans h5 hb.size, Nat.le_trans h6 hb.size, h7, h8⟩
/-- The code's operation leaves the document's device as it was. -/
theorem fr_bel {W w w' : World} {v : Nat} {lv : Value} (hb : Below W.heap.size W w) (hf : Fr w w' v lv) (hv : W.heap.size ≤ v) (hl : ∀ g, lv.ownBlock = some g → W.heap.size ≤ g) : Below W.heap.size W w' :=
  ⟨hf.os.trans hb.os, hf.tape.trans hb.tape, hf.output.trans hb.output, Nat.le_trans hb.size hf.size, fun j hj => (hf.block j (Nat.lt_of_lt_of_le hj hb.size) (fun e => by omega) (fun e => by have := hl j e; omega)).trans (hb.block j hj)⟩
theorem Pr.code [Inhabited HoleT] {W w w' : World} {v vr : Nat} {B : List Nat × List Nat} {sp : List Sp} {os : List Opn} {lo lr : Nat} {lv : Value} {f : Array Value} {ms : List (Array Value)} {ov : Value} {xs : List (Array Value)} (hb : Below W.heap.size W w) (hd : Dv lo w v lv f ms sp) (hr : Ro lr w vr ov B (stt B os) xs os) (h3 : W.heap.size ≤ lo) (h4 : W.heap.size ≤ lr) (h5 : lo ≤ w.heap.size) (h6 : lr ≤ w.heap.size) (h7 : ms = [] → lv = .slice none 0 0) (h8 : xs = [] → ov = .slice none 0 0) {x' : Sp} {e : Ending} (hP : DoP lo w v lv f ms sp x' e w') : Pr W v vr B (sp ++ [x']) os w' := by
  obtain ⟨-, lv', m', hd', hf⟩ := hP
  have hlb : ∀ g, lv.ownBlock = some g → W.heap.size ≤ g := fun g hg => Nat.le_trans h3 (hd.ownrow hg).2.1
  have ht := hr.tag
  have h8' := hd.n8 h7
  have hB : ∀ g, U8 w g → w'.heap[g]? = w.heap[g]? := fun g hg => hf.block g (by
    obtain ⟨n, hn⟩ := hg
    exact (cell_lt hn)) (fun e => h8'.1 (by rw [← e]; exact hg)) (fun e => h8'.2 g e hg)
  obtain ⟨C, hC⟩ := ht.1
  refine ⟨fr_bel hb hf (Nat.le_trans h3 hd.lov) hlb, lo, lr, lv', f, ms ++ [m'], ov, xs, hd', hr.kind hf.size ?_ ?_ hB, h3, h4, Nat.le_trans h5 hf.size, Nat.le_trans h6 hf.size, fun e => by simp at e, h8⟩
  · exact hf.block vr (Array.getElem?_eq_some_iff.1 hC).1 (tag_ne hC hd.row (by decide)) (fun e => by
      obtain ⟨_, _, cur, hc⟩ := hd.ownrow e
      exact tag_ne hC hc (by decide) rfl)
  · intro g hg
    obtain ⟨_, D, hD⟩ := ht.2 g hg
    exact hf.block g (Array.getElem?_eq_some_iff.1 hD).1 (tag_ne hD hd.row (by decide)) (fun e => by
      obtain ⟨_, _, cur, hc⟩ := hd.ownrow e
      exact tag_ne hD hc (by decide) rfl)
theorem Pr.doc [Inhabited HoleT] {W w w' : World} {v vr : Nat} {B : List Nat × List Nat} {sp : List Sp} {os : List Opn} {lo lr : Nat} {lv : Value} {f : Array Value} {ms : List (Array Value)} {ov : Value} {xs : List (Array Value)} (hb : Below W.heap.size W w) (hd : Dv lo w v lv f ms sp) (hr : Ro lr w vr ov B (stt B os) xs os) (h3 : W.heap.size ≤ lo) (h4 : W.heap.size ≤ lr) (h5 : lo ≤ w.heap.size) (h6 : lr ≤ w.heap.size) (h7 : ms = [] → lv = .slice none 0 0) (h8 : xs = [] → ov = .slice none 0 0) {o : Opn} {e : Ending} (hP : DnP lr w vr ov B (stt B os) xs os o e w') : Pr W v vr B sp (os ++ [o]) w' := by
  obtain ⟨-, ov', a, hr', hf⟩ := hP
  have ht := hr.tag
  have hlb : ∀ g, ov.ownBlock = some g → W.heap.size ≤ g := fun g hg => Nat.le_trans h4 (ht.2 g hg).1
  have h8' := hr.n8 h8
  have hB : ∀ g, U8 w g → w'.heap[g]? = w.heap[g]? := fun g hg => hf.block g (by
    obtain ⟨n, hn⟩ := hg
    exact (cell_lt hn)) (fun e => h8'.1 (by rw [← e]; exact hg)) (fun e => h8'.2 g e hg)
  obtain ⟨C, hC⟩ := ht.1
  have hK : ∀ (g : Nat) D (t : Nat), w.heap[g]? = some (.cells D t (0, 0)) → t ≠ 64 → t ≠ 68 → w'.heap[g]? = w.heap[g]? := fun g D t hD n1 n2 => hf.block g (Array.getElem?_eq_some_iff.1 hD).1 (tag_ne hD hC n1) (fun e => by
    obtain ⟨_, D2, hD2⟩ := ht.2 g e
    exact tag_ne hD hD2 n2 rfl)
  have hs : stt B (os ++ [o]) = stepD o (stt B os) := by unfold stt; rw [List.foldl_append]; rfl
  refine ⟨fr_bel hb hf (Nat.le_trans h4 hr.rw.lov) hlb, lo, lr, lv, f, ms, ov', xs ++ [a], hd.kind hf.size (hK v _ _ hd.row (by decide) (by decide)) (fun g hg => ?_) (fun g C hC2 => hK g C _ hC2 (by decide) (by decide)) hB, by rw [hs]; exact hr', h3, h4, Nat.le_trans h5 hf.size, Nat.le_trans h6 hf.size, h7, fun e => by simp at e⟩
  obtain ⟨_, _, cur, hc⟩ := hd.ownrow hg
  exact hK g cur _ hc (by decide) (by decide)
/-- No hole. -/
abbrev H0 : Inhabited HoleT := ⟨⟨fun _ => False, 0, fun _ _ h => h⟩⟩
/-- What came between two worlds. -/
abbrev H1 (a b : Nat) : Inhabited HoleT := ⟨⟨fun g => a ≤ g ∧ g < b, b, fun _ hg h => by omega⟩⟩
theorem Dv.swap {i1 i2 : Inhabited HoleT} {lo v : Nat} {W W' : World} {lv : Value} {f : Array Value} {ms : List (Array Value)} {sp : List Sp} (h : @Dv i1 lo W v lv f ms sp) (hb : Below W.heap.size W W') (hq : ∀ g, g < W.heap.size → ¬ @inHole i1 g → ¬ @inHole i2 g) (hB : @holeB i2 ≤ W'.heap.size) : @Dv i2 lo W' v lv f ms sp := by
  have h' := @Dv.below i1 _ _ _ _ _ _ _ _ h hb
  exact @Dv.mk i2 _ _ _ _ _ _ _ (@Dv.row i1 _ _ _ _ _ _ _ h') (@Dv.own i1 _ _ _ _ _ _ _ h') (@Dv.len i1 _ _ _ _ _ _ _ h') (fun i m s q1 q2 => (@Dv.each i1 _ _ _ _ _ _ _ h i m s q1 q2).keep (fun j hj => hb.block j hj.2.1) (fun j hj => ⟨⟨hj.1.1, hq j hj.2.1 hj.1.2⟩, Nat.lt_of_lt_of_le hj.2.1 hb.size, hj.2.2⟩)) (@Dv.lov i1 _ _ _ _ _ _ _ h') hB
theorem Ro.swap {i1 i2 : Inhabited HoleT} {lo v : Nat} {W W' : World} {ov : Value} {B : List Nat × List Nat} {s : Fl × Fl} {xs : List (Array Value)} {os : List Opn} (h : @Ro i1 lo W v ov B s xs os) (hb : Below W.heap.size W W') (hq : ∀ g, g < W.heap.size → ¬ @inHole i1 g → ¬ @inHole i2 g) (hB : @holeB i2 ≤ W'.heap.size) : @Ro i2 lo W' v ov B s xs os := by
  have h' := @Ro.below i1 _ _ _ _ _ _ _ _ _ h hb
  have k : ∀ {u l}, Bq (@Qd i1 lo W v ov) W u l → Bq (@Qd i2 lo W' v ov) W' u l := fun q => q.keep (fun j hj => hb.block j hj.2.1) (fun j hj => ⟨⟨hj.1.1, hq j hj.2.1 hj.1.2⟩, Nat.lt_of_lt_of_le hj.2.1 hb.size, hj.2.2⟩)
  obtain ⟨b0, b1, s0, s1, l0, l1, hr, hb0, hb1, hs0, hs1, hl0, hl1⟩ := @Rw.row i1 _ _ _ _ _ _ _ (@Ro.rw i1 _ _ _ _ _ _ _ _ h)
  exact @Ro.mk i2 _ _ _ _ _ _ _ _ (@Rw.mk i2 _ _ _ _ _ _ _ ⟨b0, b1, s0, s1, l0, l1, (hb.block v (Array.getElem?_eq_some_iff.1 hr).1).trans hr, k hb0, k hb1, k hs0, k hs1, k hl0, k hl1⟩ (@Rw.lov i1 _ _ _ _ _ _ _ (@Ro.rw i1 _ _ _ _ _ _ _ _ h)) (@Rw.lims i1 _ _ _ _ _ _ _ (@Ro.rw i1 _ _ _ _ _ _ _ _ h))) (@Ro.own i1 _ _ _ _ _ _ _ _ h') (@Ro.len i1 _ _ _ _ _ _ _ _ h') hB (fun i a o q1 q2 => by
    obtain ⟨pv, e, q⟩ := @Ro.each i1 _ _ _ _ _ _ _ _ h i a o q1 q2
    exact ⟨pv, e, k q⟩)
theorem Pr.swap {i1 i2 : Inhabited HoleT} {W w w' : World} {v vr : Nat} {B : List Nat × List Nat} {sp : List Sp} {os : List Opn} (h : @Pr i1 W v vr B sp os w) (hb : Below w.heap.size w w') (hq : ∀ g, g < w.heap.size → ¬ @inHole i1 g → ¬ @inHole i2 g) (hB : @holeB i2 ≤ w'.heap.size) : @Pr i2 W v vr B sp os w' := by
  obtain ⟨lo, lr, lv, f, ms, ov, xs, h1, h2, h3, h4, h5, h6, h7, h8⟩ := @Pr.ex i1 _ _ _ _ _ _ _ h
  exact @Pr.mk i2 _ _ _ _ _ _ _ ((@Pr.bel i1 _ _ _ _ _ _ _ h).trans (hb.mono (@Pr.bel i1 _ _ _ _ _ _ _ h).size)) ⟨lo, lr, lv, f, ms, ov, xs, h1.swap hb hq hB, h2.swap hb hq hB, h3, h4, Nat.le_trans h5 hb.size, Nat.le_trans h6 hb.size, h7, h8⟩
/-- A hole is opened over what is new. -/
theorem Pr.enter {W w w' : World} {v vr : Nat} {B : List Nat × List Nat} {sp : List Sp} {os : List Opn} (h : @Pr H0 W v vr B sp os w) (hb : Below w.heap.size w w') : @Pr (H1 w.heap.size w'.heap.size) W v vr B sp os w' :=
  h.swap hb (fun _ hg _ q => by have := q.1; omega) (Nat.le_refl _)
theorem Pr.leave {i : Inhabited HoleT} {W w : World} {v vr : Nat} {B : List Nat × List Nat} {sp : List Sp} {os : List Opn} (h : @Pr i W v vr B sp os w) : @Pr H0 W v vr B sp os w :=
  h.swap (Below.refl _ w) (fun _ _ _ q => q) (Nat.zero_le _)
/-- Bytes in the hole are written over. -/
theorem Pr.hset {i : Inhabited HoleT} {W w : World} {v vr : Nat} {B : List Nat × List Nat} {sp : List Sp} {os : List Opn} (h : @Pr i W v vr B sp os w) {g : Nat} (hg : inHole g) (hW : W.heap.size ≤ g) {C : Array Value} (hC : w.heap[g]? = some (.cells C 5 (0, 0))) (k : Nat) (x : Value) : @Pr i W v vr B sp os (w.setCell ⟨g, k, none⟩ x) := by
  obtain ⟨lo, lr, lv, f, ms, ov, xs, h1, h2, h3, h4, h5, h6, h7, h8⟩ := h.ex
  have oth : ∀ j, j ≠ g → (w.setCell ⟨g, k, none⟩ x).heap[j]? = w.heap[j]? := fun j hj => heap_setCell_other _ _ _ _ (by show j ≠ g; exact hj)
  have hs : (w.setCell ⟨g, k, none⟩ x).heap.size = w.heap.size := by simp
  have ht := h2.tag
  obtain ⟨D, hD⟩ := ht.1
  refine ⟨h.bel.setCell (by show W.heap.size ≤ g; exact hW) _, lo, lr, lv, f, ms, ov, xs, ⟨(oth v (tag_ne h1.row hC (by decide))).trans h1.row, own_keep h1.own (fun j hj => oth j ?_), h1.len, fun i m s q1 q2 => (h1.each i m s q1 q2).keep (fun j hj => oth j (fun e => hj.1.2 (by rw [e]; exact hg))) (fun j hj => ⟨hj.1, by rw [hs]; exact hj.2.1, hj.2.2⟩), h1.lov, by rw [hs]; exact h1.hb⟩, ?_, h3, h4, by rw [hs]; exact h5, by rw [hs]; exact h6, h7, h8⟩
  · obtain ⟨_, _, cur, hcu⟩ := h1.ownrow hj
    exact tag_ne hcu hC (by decide)
  · have kk : ∀ {u l}, Bq (Qd lr w vr ov) w u l → Bq (Qd lr (w.setCell ⟨g, k, none⟩ x) vr ov) (w.setCell ⟨g, k, none⟩ x) u l := fun q => q.keep (fun j hj => oth j (fun e => hj.1.2 (by rw [e]; exact hg))) (fun j hj => ⟨hj.1, by rw [hs]; exact hj.2.1, hj.2.2⟩)
    obtain ⟨b0, b1, s0, s1, l0, l1, hr, hb0, hb1, hs0, hs1, hl0, hl1⟩ := h2.rw.row
    exact ⟨⟨⟨b0, b1, s0, s1, l0, l1, (oth vr (tag_ne hr hC (by decide))).trans hr, kk hb0, kk hb1, kk hs0, kk hs1, kk hl0, kk hl1⟩, h2.rw.lov, h2.rw.lims⟩, own_keep h2.own (fun j hj => by
      obtain ⟨_, cur, hcu⟩ := ht.2 j hj
      exact oth j (tag_ne hcu hC (by decide))), h2.len, by rw [hs]; exact h2.hb, fun i a o q1 q2 => by
      obtain ⟨pv, e, q⟩ := h2.each i a o q1 q2
      exact ⟨pv, e, kk q⟩⟩
end Go.Proofs.Ytdiflmckjpmngaa
