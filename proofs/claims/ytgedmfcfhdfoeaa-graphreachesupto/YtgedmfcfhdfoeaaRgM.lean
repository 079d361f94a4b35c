/- A range over a function whose iterator keeps state and hands out memory: an own law, by the number of the round, with the blocks that the one who asks may change (his own, and what he is handed). -/
import Derived.RangeFuncNested
import Derived.RangeFuncBound
import Derived.RangeFuncCalls
import Derived.RangeFuncLeaves
import Derived.Shelf.Abstract
import Derived.Shelf.RegionOpen
import Derived.WalkKit
import Derived.OwnWalkIn
import Derived.TacticsInMore
import Derived.LoopNIn
import Derived.LoopIn
namespace Go.Proofs.Ytgedmfcfhdfoeaa.Rm
open Go.RowKit
variable {F : Fence} {n : Nat} {P : Program}
/-- The blocks of X stay. -/
structure Agr (X : Nat → Prop) (A B : World) : Prop where
  os : B.os = A.os
  tape : B.tape = A.tape
  output : B.output = A.output
  size : A.heap.size ≤ B.heap.size
  blk : ∀ k, k < A.heap.size → X k → B.heap[k]? = A.heap[k]?
/-- All blocks stay but those of X. -/
structure Frm (X : Nat → Prop) (A B : World) : Prop where
  os : B.os = A.os
  tape : B.tape = A.tape
  output : B.output = A.output
  size : A.heap.size ≤ B.heap.size
  blk : ∀ k, k < A.heap.size → ¬ X k → B.heap[k]? = A.heap[k]?
theorem Agr.refl (X : Nat → Prop) (A : World) : Agr X A A := ⟨rfl, rfl, rfl, Nat.le_refl _, fun _ _ _ => rfl⟩
theorem Agr.trans {X : Nat → Prop} {A B C : World} (h : Agr X A B) (k : Agr X B C) : Agr X A C :=
  ⟨k.os.trans h.os, k.tape.trans h.tape, k.output.trans h.output, Nat.le_trans h.size k.size, fun i hi hx => (k.blk i (Nat.lt_of_lt_of_le hi h.size) hx).trans (h.blk i hi hx)⟩
theorem Agr.weak {X Y : Nat → Prop} {A B : World} (h : Agr X A B) (hY : ∀ k, k < A.heap.size → Y k → X k) : Agr Y A B := ⟨h.os, h.tape, h.output, h.size, fun k hk hy => h.blk k hk (hY k hk hy)⟩
theorem Frm.refl (X : Nat → Prop) (A : World) : Frm X A A := ⟨rfl, rfl, rfl, Nat.le_refl _, fun _ _ _ => rfl⟩
theorem Frm.trans {X : Nat → Prop} {A B C : World} (h : Frm X A B) (k : Frm X B C) : Frm X A C :=
  ⟨k.os.trans h.os, k.tape.trans h.tape, k.output.trans h.output, Nat.le_trans h.size k.size, fun i hi hx => (k.blk i (Nat.lt_of_lt_of_le hi h.size) hx).trans (h.blk i hi hx)⟩
theorem Frm.wide {X Y : Nat → Prop} {A B : World} (h : Frm Y A B) (hY : ∀ k, k < A.heap.size → Y k → X k) : Frm X A B := ⟨h.os, h.tape, h.output, h.size, fun k hk hx => h.blk k hk (fun hy => hx (hY k hk hy))⟩
theorem Frm.agr {X Y : Nat → Prop} {A B : World} (h : Frm X A B) (hY : ∀ k, k < A.heap.size → Y k → ¬ X k) : Agr Y A B := ⟨h.os, h.tape, h.output, h.size, fun k hk hy => h.blk k hk (hY k hk hy)⟩
theorem Agr.of_below {X : Nat → Prop} {A B : World} (h : Below A.heap.size A B) : Agr X A B := ⟨h.os, h.tape, h.output, h.size, fun k hk _ => h.block k hk⟩
theorem Frm.of_below {X : Nat → Prop} {A B : World} (h : Below A.heap.size A B) : Frm X A B := ⟨h.os, h.tape, h.output, h.size, fun k hk _ => h.block k hk⟩
theorem Frm.put {X : Nat → Prop} {A : World} {l : Nat} (hl : X l) (o : Obj) : Frm X A (A.putObj l o) := ⟨rfl, rfl, rfl, by simp [World.putObj], fun _ _ hx => World.putObj_heap_other (fun e => hx (by rw [e]; exact hl))⟩
theorem Agr.put {X : Nat → Prop} {A : World} {l : Nat} (hl : ¬ X l) (o : Obj) : Agr X A (A.putObj l o) := ⟨rfl, rfl, rfl, by simp [World.putObj], fun _ _ hx => World.putObj_heap_other (fun e => hl (by rw [← e]; exact hx))⟩
theorem Frm.below {X : Nat → Prop} {A B : World} (h : Frm X A B) {b : Nat} (hb : b ≤ A.heap.size) (hX : ∀ k, X k → b ≤ k) : Below b A B := ⟨h.os, h.tape, h.output, h.size, fun k hk => h.blk k (by omega) (fun hx => by have := hX k hx; omega)⟩
/-- An iterator of N rounds: its i-th is handed what V says; H: the blocks that are handed over, R: what they must hold behind the round. It changes no block that lay there when it was called, and none that the one who asks holds (X), who holds none of the iterator's own (Da). -/
def Iter (F : Fence) (n : Nat) (P : Program) (gf : Nat) (lb : Array Value) (N : Nat) (V : Nat → Array Value → World → Prop) (H : Array Value → Nat → Prop) (R : Nat → Array Value → World → Prop) (w0 : World) (Da : Nat → Prop) : Prop :=
  ∀ (l : Nat) (J : Nat → (Nat → Prop) → World → Prop) (Jx : (Nat → Prop) → World → Prop) (W : World) (X0 : Nat → Prop), Below w0.heap.size w0 W →
    (∀ i X A B, J i X A → Agr (fun k => k < W.heap.size ∨ X k) A B → J i X B) → (∀ X A B, Jx X A → Agr (fun k => k < W.heap.size ∨ X k) A B → Jx X B) →
    (∀ i x X W1, i < N → J i X W1 → W.heap.size ≤ W1.heap.size → V i x W1 → (∀ k, H x k → W.heap.size ≤ k ∧ ¬ X k) → YieldAt F (n - 1) P l x W1 fun e W' => ∃ X' : Nat → Prop, Frm (fun k => X k ∨ H x k) W1 W' ∧ (∀ k, X' k → (X k ∨ W1.heap.size ≤ k) ∧ k < W'.heap.size) ∧ ((e = .returned (.bool true) ∧ J (i + 1) X' W' ∧ R i x W') ∨ (e = .returned (.bool false) ∧ Jx X' W'))) →
    J 0 X0 W → (∀ k, X0 k → k < W.heap.size) → (∀ k, X0 k → ¬ Da k) → CallsIn F n P gf (#[.func (.yield l) #[] #[]] ++ lb) W fun e W' => (∃ v, e = .returned v) ∧ ∃ X : Nat → Prop, (∀ k, X k → X0 k ∨ W.heap.size ≤ k) ∧ Frm X0 W W' ∧ (J N X W' ∨ Jx X W')
/-- The loop's own record. -/
def recd (a : Act) (ps : Array Tmp) (assign body : Code) (D : Nat) (fn : FuncId) (st : LoopState) (pe : Option Code) : Loop := { state := st, pending := pe, fn := fn, tmps := a.tmps, params := ps, assign := assign, body := body, defers := D }
/-- How a round may be left. -/
def Lft (X : Nat → Prop) (H : Array Value → Nat → Prop) (R : Nat → Array Value → World → Prop) (I : Nat → (Nat → Prop) → World → Prop) (Ix : Code → (Nat → Prop) → World → Prop) (i : Nat) (x : Array Value) (W : World) : Exit → Act → World → Prop
  | .normal, _, W' => ∃ X' : Nat → Prop, Frm (fun k => X k ∨ H x k) W W' ∧ (∀ k, X' k → (X k ∨ W.heap.size ≤ k) ∧ k < W'.heap.size) ∧ I (i + 1) X' W' ∧ R i x W'
  | .ret, _, W' => ∃ X' : Nat → Prop, Frm (fun k => X k ∨ H x k) W W' ∧ (∀ k, X' k → (X k ∨ W.heap.size ≤ k) ∧ k < W'.heap.size) ∧ Ix .ret X' W'
  | .exit k, _, W' => ∃ X' : Nat → Prop, Frm (fun k => X k ∨ H x k) W W' ∧ (∀ k, X' k → (X k ∨ W.heap.size ≤ k) ∧ k < W'.heap.size) ∧ Ix (.exit k) X' W'
  | .goto t, _, W' => ∃ X' : Nat → Prop, Frm (fun k => X k ∨ H x k) W W' ∧ (∀ k, X' k → (X k ∨ W.heap.size ≤ k) ∧ k < W'.heap.size) ∧ Ix (.goto t) X' W'
  | .panic _, _, _ => False
  | .outgrown, _, _ => False
theorem loop_R {g : Operand} {ps : Array Tmp} {assign body : Code} {Q : Exit → Act → World → Prop} {a : Act} {w : World}
    (l D : Nat) (mark : List Deferred) (E : FuncId → World) (Z : World → Prop)
    (hent : ∀ fn, (Instr.enterLoop fn a.tmps ps assign body F.round).run P w = .ok (l, mark) (E fn))
    (hEb : ∀ fn, Below w.heap.size w (E fn)) (hEl : ∀ fn, (E fn).heap[l]? = some (.loop (recd a ps assign body D fn .ready none))) (hlw : w.heap.size ≤ l) (hEz : ∀ fn, (E fn).heap.size = l + 1) (hZ0 : ∀ fn, Z (E fn))
    (hZk : ∀ A B, Z A → (∀ k, k < l → k < A.heap.size → w.heap.size ≤ k → B.heap[k]? = A.heap[k]?) → Z B)
    (h1 : 1 ≤ n) {gf : Nat} {lb : Array Value} (hg : a.eval g = .func (.func gf) #[] lb) (hFg : F.fn gf) (eg : ∀ args w, (callFunc gf args).run P w = .ok (.enter gf args) w)
    {N : Nat} {V : Nat → Array Value → World → Prop} {H : Array Value → Nat → Prop} {R : Nat → Array Value → World → Prop} {w0 : World} {Da : Nat → Prop} (hit : Iter F (n - 1) P gf lb N V H R w0 Da) (hDa : ∀ k, Da k → k < w0.heap.size) (hb0 : Below w0.heap.size w0 w)
    (hV : ∀ i x W l o o', V i x W → W.heap[l]? = some o → o.isCells = false → V i x (W.putObj l o')) (hR : ∀ i x W l o o', R i x W → W.heap[l]? = some o → o.isCells = false → R i x (W.putObj l o')) (hVs : ∀ i x W, V i x W → x.size = ps.size)
    (I : Nat → (Nat → Prop) → World → Prop) (Ix : Code → (Nat → Prop) → World → Prop) (X0 : Nat → Prop)
    (hI : ∀ i X A B, I i X A → Agr (fun k => k < w.heap.size ∨ X k) A B → I i X B) (hIx : ∀ c X A B, Ix c X A → Agr (fun k => k < w.heap.size ∨ X k) A B → Ix c X B) (h0 : I 0 X0 w) (hX0 : ∀ k, X0 k → k < w.heap.size) (hX1 : ∀ k, X0 k → ¬ Da k)
    (hround : ∀ i x X W, i < N → V i x W → assign.wpIn (F.inRound l) (n - 1 - 1) P (Exit.then (fun a' W' => W' = W ∧ ∀ W2, (∃ r, W2.heap[l]? = some (.loop r)) → l < W2.heap.size → I i X W2 → V i x W2 → (∀ k, H x k → l < k ∧ ¬ X k) → (∀ k, X k → k < w.heap.size ∨ l < k) → body.wpIn (F.inRound l) (n - 1 - 1) P (Lft X H R I Ix i x W2) a' W2) (fun _ _ _ => False)) { tmps := (ps.zip x).foldl (fun t (p, v) => t.setIfInBounds p v) a.tmps, defers := [] } W)
    (hdone : ∀ X W, I N X W → Frm X0 w W → (∀ k, X k → X0 k ∨ l < k) → Z W → Q .normal { a with defers := mark ++ a.defers } W)
    (hstop : ∀ c X W, Ix c X W → Frm X0 w W → (∀ k, X k → X0 k ∨ l < k) → Z W → c.wpIn F n P Q { a with defers := mark ++ a.defers } W) :
    (Code.rangeFunc g ps assign body).wpIn F n P Q a w := by
  refine wpIn_rangeFunc (fun fn hfn => ⟨l, mark, E fn, { target := .fn (.func gf) lb, args := #[.func (.yield l) #[] #[]] }, E fn, gf, #[.func (.yield l) #[] #[]] ++ lb, E fn, hent fn, ?_, ?_, ?_, fun _ => h1, ?_⟩)
  · simp only [resolve, hg]
    simp [go_sem]
  · intro f' hf'
    simp [Target.leads] at hf'
    subst hf'
    exact hFg
  · simp [invoke, go_sem, eg]
  have hz := hEz fn
  have sub : ∀ {X : Nat → Prop} {A B : World}, Agr (fun k => k < (E fn).heap.size ∨ X k ∨ k = l) A B → Agr (fun k => k < w.heap.size ∨ X k) A B := fun h => h.weak (fun k _ hk => by
    rcases hk with q | q
    · exact .inl (by omega)
    · exact .inr (.inl q))
  have frmE : Frm X0 w (E fn) := Frm.of_below (hEb fn)
  refine (hit l (fun i X W => ∃ X' : Nat → Prop, (∀ k, X k ↔ X' k ∨ k = l) ∧ I i X' W ∧ (∀ k, X' k → k < w.heap.size ∨ l < k) ∧ W.heap[l]? = some (.loop (recd a ps assign body D fn .ready none)) ∧ Z W) (fun X W => ∃ (X' : Nat → Prop) (c : Code), (∀ k, X k ↔ X' k ∨ k = l) ∧ Ix c X' W ∧ (∀ k, X' k → k < w.heap.size ∨ l < k) ∧ W.heap[l]? = some (.loop (recd a ps assign body D fn .done (some c))) ∧ Z W) (E fn) (fun k => X0 k ∨ k = l) (hb0.trans ((hEb fn).mono hb0.size))
    (fun i X A B hJ hg => by
      obtain ⟨X', q1, q2, q3, q4, q5⟩ := hJ
      have hlt := (Array.getElem?_eq_some_iff.1 q4).1
      have hg' : Agr (fun k => k < (E fn).heap.size ∨ X' k ∨ k = l) A B := hg.weak (fun k _ hk => hk.imp id (fun h => (q1 k).2 h))
      exact ⟨X', q1, hI i X' A B q2 (sub hg'), q3, (hg.blk l hlt (.inl (by omega))).trans q4, hZk A B q5 (fun k k1 k2 _ => hg.blk k k2 (.inl (by omega)))⟩)
    (fun X A B hJ hg => by
      obtain ⟨X', c, q1, q2, q3, q4, q5⟩ := hJ
      have hlt := (Array.getElem?_eq_some_iff.1 q4).1
      have hg' : Agr (fun k => k < (E fn).heap.size ∨ X' k ∨ k = l) A B := hg.weak (fun k _ hk => hk.imp id (fun h => (q1 k).2 h))
      exact ⟨X', c, q1, hIx c X' A B q2 (sub hg'), q3, (hg.blk l hlt (.inl (by omega))).trans q4, hZk A B q5 (fun k k1 k2 _ => hg.blk k k2 (.inl (by omega)))⟩)
    ?_ ⟨X0, fun k => Iff.rfl, hI 0 X0 w (E fn) h0 (Agr.of_below (hEb fn)), fun k hk => .inl (hX0 k hk), hEl fn, hZ0 fn⟩ (fun k hk => by
      rcases hk with q | q
      · have := hX0 k q
        omega
      · omega) (fun k hk hd => by
      rcases hk with q | q
      · exact hX1 k q hd
      · have := hDa k hd
        have := hb0.size
        omega)).mono ?_
  · rintro i x X W hi ⟨X', qX, qI, qb, ql, qZ⟩ hW hv hH
    have hs := hVs i x W hv
    refine ⟨fn, _, assign, body, run_yield (P := P) (args := x) ql hs, roundIn_of_wpIn hfn (wpIn_mono (hround i x X' W hi hv) ?_)⟩
    rintro e a' W' hp
    cases e with
    | ret => exact hp.elim
    | exit k => exact hp.elim
    | goto t => exact hp.elim
    | panic c => exact hp.elim
    | outgrown => exact hp.elim
    | normal => ?_
    obtain ⟨eW, hbody⟩ := hp
    replace eW := eW.symm
    subst eW
    refine ⟨_, run_beginRound ql rfl, ?_⟩
    have hlt := (Array.getElem?_eq_some_iff.1 ql).1
    have ql2 : (W.putObj l (.loop (recd a ps assign body D fn .busy none))).heap[l]? = some (.loop (recd a ps assign body D fn .busy none)) := World.putObj_heap_same hlt
    have hXl : ¬ X' l := fun h => by have := qb l h; omega
    have hXl2 : ¬ (l < w.heap.size ∨ X' l) := fun h => h.elim (by omega) hXl
    have hHl : ∀ k, H x k → l < k ∧ ¬ X' k := fun k hk => ⟨by have := (hH k hk).1; omega, fun h => (hH k hk).2 ((qX k).2 (.inl h))⟩
    have hHl2 : ¬ H x l := fun h => by have := (hHl l h).1; omega
    have zp : ∀ A o, (A : World).heap.size = (A.putObj l o).heap.size := fun A o => by simp [World.putObj]
    refine wpIn_mono (hbody _ ⟨_, ql2⟩ (by rw [← zp]; exact hlt) (hI i X' W _ qI (Agr.put hXl2 _)) (hV i x W l _ _ hv ql rfl) hHl qb) ?_
    -- what a round leaves
    have out : ∀ (W3 : World) (X3 : Nat → Prop) (j : Option Code), Frm (fun k => X' k ∨ H x k) (W.putObj l (.loop (recd a ps assign body D fn .busy none))) W3 → (∀ k, X3 k → (X' k ∨ (W.putObj l (.loop (recd a ps assign body D fn .busy none))).heap.size ≤ k) ∧ k < W3.heap.size) →
        W3.heap[l]? = some (.loop (recd a ps assign body D fn .busy none)) ∧ (Instr.endRound l j).run P W3 = .ok (.bool j.isNone) (W3.putObj l (.loop (recd a ps assign body D fn (if j.isNone then .ready else .done) j))) ∧
        (W3.putObj l (.loop (recd a ps assign body D fn (if j.isNone then .ready else .done) j))).heap[l]? = some (.loop (recd a ps assign body D fn (if j.isNone then .ready else .done) j)) ∧ Z (W3.putObj l (.loop (recd a ps assign body D fn (if j.isNone then .ready else .done) j))) ∧
        Frm (fun k => X k ∨ H x k) W (W3.putObj l (.loop (recd a ps assign body D fn (if j.isNone then .ready else .done) j))) ∧ (∀ k, (X3 k ∨ k = l) → (X k ∨ W.heap.size ≤ k) ∧ k < (W3.putObj l (.loop (recd a ps assign body D fn (if j.isNone then .ready else .done) j))).heap.size) ∧ (∀ k, X3 k → k < w.heap.size ∨ l < k) ∧ Agr (fun k => k < w.heap.size ∨ X3 k) W3 (W3.putObj l (.loop (recd a ps assign body D fn (if j.isNone then .ready else .done) j))) := fun W3 X3 j hk hx => by
      have q3 := (hk.blk l (by rw [← zp]; exact hlt) (fun h => h.elim hXl hHl2)).trans ql2
      have hl3 := (Array.getElem?_eq_some_iff.1 q3).1
      have hXt : ∀ k, X3 k → k < w.heap.size ∨ l < k := fun k h => by
        rcases (hx k h).1 with q | q
        · exact qb k q
        · rw [← zp] at q
          exact .inr (by omega)
      refine ⟨q3, run_endRound j q3, World.putObj_heap_same hl3, hZk W _ qZ (fun k k1 k2 k3 => ?_), ?_, fun k h => ?_, hXt, Agr.put (fun h => h.elim (by omega) (fun h => by have := hXt l h; omega)) _⟩
      · rw [World.putObj_heap_other (by omega), hk.blk k (by rw [← zp]; exact k2) (fun h => by
          rcases h with q | q
          · have := qb k q
            omega
          · have := (hHl k q).1
            omega), World.putObj_heap_other (by omega)]
      · have f1 : Frm (fun k => X k ∨ H x k) W (W.putObj l (.loop (recd a ps assign body D fn .busy none))) := Frm.put (.inl ((qX l).2 (.inr rfl))) _
        have f2 : Frm (fun k => X k ∨ H x k) (W.putObj l (.loop (recd a ps assign body D fn .busy none))) W3 := hk.wide (fun k _ h => h.imp (fun q => (qX k).2 (.inl q)) id)
        exact (f1.trans f2).trans (Frm.put (.inl ((qX l).2 (.inr rfl))) _)
      · refine ⟨?_, ?_⟩
        · rcases h with q | q
          · rcases (hx k q).1 with q | q
            · exact .inl ((qX k).2 (.inl q))
            · rw [← zp] at q
              exact .inr q
          · exact .inl ((qX k).2 (.inr q))
        · rw [← zp]
          rcases h with q | q
          · exact (hx k q).2
          · rw [q]
            exact hl3
    have jump : ∀ (W3 : World) (c : Code), (∃ X3 : Nat → Prop, Frm (fun k => X' k ∨ H x k) (W.putObj l (.loop (recd a ps assign body D fn .busy none))) W3 ∧ (∀ k, X3 k → (X' k ∨ (W.putObj l (.loop (recd a ps assign body D fn .busy none))).heap.size ≤ k) ∧ k < W3.heap.size) ∧ Ix c X3 W3) → ∃ b W4, (Instr.endRound l (some c)).run P W3 = .ok b W4 ∧ ∃ X4 : Nat → Prop, Frm (fun k => X k ∨ H x k) W W4 ∧ (∀ k, X4 k → (X k ∨ W.heap.size ≤ k) ∧ k < W4.heap.size) ∧ ((Ending.returned b = .returned (.bool true) ∧ (∃ X5 : Nat → Prop, (∀ k, X4 k ↔ X5 k ∨ k = l) ∧ I (i + 1) X5 W4 ∧ (∀ k, X5 k → k < w.heap.size ∨ l < k) ∧ W4.heap[l]? = some (.loop (recd a ps assign body D fn .ready none)) ∧ Z W4) ∧ R i x W4) ∨ (Ending.returned b = .returned (.bool false) ∧ ∃ (X5 : Nat → Prop) (c : Code), (∀ k, X4 k ↔ X5 k ∨ k = l) ∧ Ix c X5 W4 ∧ (∀ k, X5 k → k < w.heap.size ∨ l < k) ∧ W4.heap[l]? = some (.loop (recd a ps assign body D fn .done (some c))) ∧ Z W4)) := fun W3 c h => by
      obtain ⟨X3, k1, k2, k3⟩ := h
      obtain ⟨q3, q4, q5, q6, q7, q8, q9, q10⟩ := out W3 X3 (some c) k1 k2
      exact ⟨_, _, q4, fun k => X3 k ∨ k = l, q7, q8, .inr ⟨rfl, X3, c, fun k => Iff.rfl, hIx c X3 W3 _ k3 q10, q9, q5, q6⟩⟩
    rintro e a3 W3 hp
    cases e with
    | normal =>
      obtain ⟨X3, p1, p2, p3, p4⟩ := hp
      obtain ⟨q3, q4, q5, q6, q7, q8, q9, q10⟩ := out W3 X3 none p1 p2
      exact ⟨_, _, q4, fun k => X3 k ∨ k = l, q7, q8, .inl ⟨rfl, ⟨X3, fun k => Iff.rfl, hI (i + 1) X3 W3 _ p3 q10, q9, q5, q6⟩, hR i x W3 l _ _ p4 q3 rfl⟩⟩
    | ret => exact jump W3 _ hp
    | exit k => exact jump W3 _ hp
    | goto t => exact jump W3 _ hp
    | panic c => exact hp.elim
    | outgrown => exact hp.elim
  · rintro e W2 ⟨⟨v, rfl⟩, X, hX, hF, ⟨X', q1, qI, qb, ql, qZ⟩ | ⟨X', c, q1, qI, qb, ql, qZ⟩⟩
    all_goals
      have fr : ∀ o, Frm X0 w (W2.putObj l o) := fun o =>
        have f0 : Frm X0 w W2 := ⟨hF.os.trans frmE.os, hF.tape.trans frmE.tape, hF.output.trans frmE.output, Nat.le_trans frmE.size hF.size, fun k hk hx => (hF.blk k (by omega) (fun h => h.elim hx (by omega))).trans (frmE.blk k hk hx)⟩
        ⟨f0.os, f0.tape, f0.output, by simpa [World.putObj] using f0.size, fun k hk hx => (World.putObj_heap_other (by omega)).trans (f0.blk k hk hx)⟩
      have gr : ∀ k, X' k → X0 k ∨ l < k := fun k h => by
        rcases hX k ((q1 k).2 (.inl h)) with (q | q) | q
        · exact .inl q
        · have := qb k h
          omega
        · exact .inr (by omega)
      have hXl : ∀ o, Agr (fun k => k < w.heap.size ∨ X' k) W2 (W2.putObj l o) := fun o => Agr.put (fun h => h.elim (by omega) (fun h => by have := qb l h; omega)) _
      have hz2 : ∀ o, Z (W2.putObj l o) := fun o => hZk W2 _ qZ (fun k k1 _ _ => World.putObj_heap_other (by omega))
    · exact ⟨none, _, run_endLoop (P := P) ql (by simp [recd]), hdone X' _ (hI N X' W2 _ qI (hXl _)) (fr _) gr (hz2 _)⟩
    · exact ⟨some c, _, run_endLoop (P := P) ql (by simp [recd]), hstop c X' _ (hIx c X' W2 _ qI (hXl _)) (fr _) gr (hz2 _)⟩
/-- At a loop within no other. -/
theorem loop_out {g : Operand} {ps : Array Tmp} {assign body : Code} {Q : Exit → Act → World → Prop} {a : Act} {w : World} (hro : F.round = none)
    (h1 : 1 ≤ n) {gf : Nat} {lb : Array Value} (hg : a.eval g = .func (.func gf) #[] lb) (hFg : F.fn gf) (eg : ∀ args w, (callFunc gf args).run P w = .ok (.enter gf args) w)
    {N : Nat} {V : Nat → Array Value → World → Prop} {H : Array Value → Nat → Prop} {R : Nat → Array Value → World → Prop} {w0 : World} {Da : Nat → Prop} (hit : Iter F (n - 1) P gf lb N V H R w0 Da) (hDa : ∀ k, Da k → k < w0.heap.size) (hb0 : Below w0.heap.size w0 w)
    (hV : ∀ i x W l o o', V i x W → W.heap[l]? = some o → o.isCells = false → V i x (W.putObj l o')) (hR : ∀ i x W l o o', R i x W → W.heap[l]? = some o → o.isCells = false → R i x (W.putObj l o')) (hVs : ∀ i x W, V i x W → x.size = ps.size)
    (I : Nat → (Nat → Prop) → World → Prop) (Ix : Code → (Nat → Prop) → World → Prop) (X0 : Nat → Prop)
    (hI : ∀ i X A B, I i X A → Agr (fun k => k < w.heap.size ∨ X k) A B → I i X B) (hIx : ∀ c X A B, Ix c X A → Agr (fun k => k < w.heap.size ∨ X k) A B → Ix c X B) (h0 : I 0 X0 w) (hX0 : ∀ k, X0 k → k < w.heap.size) (hX1 : ∀ k, X0 k → ¬ Da k)
    (hround : ∀ l i x X W, i < N → V i x W → assign.wpIn (F.inRound l) (n - 1 - 1) P (Exit.then (fun a' W' => W' = W ∧ ∀ W2, (∃ r, W2.heap[l]? = some (.loop r)) → w.heap.size ≤ l → l < W2.heap.size → I i X W2 → V i x W2 → (∀ k, H x k → l < k ∧ ¬ X k) → (∀ k, X k → k < w.heap.size ∨ l < k) → body.wpIn (F.inRound l) (n - 1 - 1) P (Lft X H R I Ix i x W2) a' W2) (fun _ _ _ => False)) { tmps := (ps.zip x).foldl (fun t (p, v) => t.setIfInBounds p v) a.tmps, defers := [] } W)
    (hdone : ∀ X W, I N X W → Frm X0 w W → (∀ k, X k → X0 k ∨ w.heap.size + 1 < k) → W.heap[w.heap.size]? = some (.deferred (some [])) → Q .normal { a with defers := { target := .collected w.heap.size, args := #[] } :: a.defers } W)
    (hstop : ∀ c X W, Ix c X W → Frm X0 w W → (∀ k, X k → X0 k ∨ w.heap.size + 1 < k) → W.heap[w.heap.size]? = some (.deferred (some [])) → c.wpIn F n P Q { a with defers := { target := .collected w.heap.size, args := #[] } :: a.defers } W) :
    (Code.rangeFunc g ps assign body).wpIn F n P Q a w := by
  have e1 := World.alloc_heap_new w (.deferred (some []))
  refine loop_R (w.heap.size + 1) w.heap.size [{ target := .collected w.heap.size, args := #[] }] (fun fn => (w.alloc (.deferred (some []))).alloc (.loop (recd a ps assign body w.heap.size fn .ready none))) (fun W => W.heap[w.heap.size]? = some (.deferred (some [])))
    (fun fn => by rw [hro]; exact run_enterLoop_outer _ _ _ _ _) (fun fn => ((Below.refl _ w).alloc (Nat.le_refl _) _).alloc (by simp) _) (fun fn => ?_) (Nat.le_succ _) (fun fn => by simp) (fun fn => ?_) (fun A B hA hk => (hk _ (by omega) (Array.getElem?_eq_some_iff.1 hA).1 (Nat.le_refl _)).trans hA)
    h1 hg hFg eg hit hDa hb0 hV hR hVs I Ix X0 hI hIx h0 hX0 hX1 (fun i x X W h2 h3 => wpIn_mono (hround (w.heap.size + 1) i x X W h2 h3) ?_) hdone hstop
  · have := World.alloc_heap_new (w.alloc (.deferred (some []))) (.loop (recd a ps assign body w.heap.size fn .ready none))
    rwa [World.size_alloc] at this
  · exact (Below.heap_alloc _ _ _ (by simp)).trans e1
  · rintro e a' W' hp
    cases e with
    | normal => exact ⟨hp.1, fun W2 k1 => hp.2 W2 k1 (by omega)⟩
    | ret => exact hp
    | exit k => exact hp
    | goto t => exact hp
    | panic c => exact hp
    | outgrown => exact hp
/-- At a loop within a round of loop l₀. -/
theorem loop_in {g : Operand} {ps : Array Tmp} {assign body : Code} {Q : Exit → Act → World → Prop} {a : Act} {w : World} {l₀ : Nat} {r₀ : Loop} (hro : F.round = some l₀) (hl₀ : w.heap[l₀]? = some (.loop r₀))
    (h1 : 1 ≤ n) {gf : Nat} {lb : Array Value} (hg : a.eval g = .func (.func gf) #[] lb) (hFg : F.fn gf) (eg : ∀ args w, (callFunc gf args).run P w = .ok (.enter gf args) w)
    {N : Nat} {V : Nat → Array Value → World → Prop} {H : Array Value → Nat → Prop} {R : Nat → Array Value → World → Prop} {w0 : World} {Da : Nat → Prop} (hit : Iter F (n - 1) P gf lb N V H R w0 Da) (hDa : ∀ k, Da k → k < w0.heap.size) (hb0 : Below w0.heap.size w0 w)
    (hV : ∀ i x W l o o', V i x W → W.heap[l]? = some o → o.isCells = false → V i x (W.putObj l o')) (hR : ∀ i x W l o o', R i x W → W.heap[l]? = some o → o.isCells = false → R i x (W.putObj l o')) (hVs : ∀ i x W, V i x W → x.size = ps.size)
    (I : Nat → (Nat → Prop) → World → Prop) (Ix : Code → (Nat → Prop) → World → Prop) (X0 : Nat → Prop)
    (hI : ∀ i X A B, I i X A → Agr (fun k => k < w.heap.size ∨ X k) A B → I i X B) (hIx : ∀ c X A B, Ix c X A → Agr (fun k => k < w.heap.size ∨ X k) A B → Ix c X B) (h0 : I 0 X0 w) (hX0 : ∀ k, X0 k → k < w.heap.size) (hX1 : ∀ k, X0 k → ¬ Da k)
    (hround : ∀ l i x X W, i < N → V i x W → assign.wpIn (F.inRound l) (n - 1 - 1) P (Exit.then (fun a' W' => W' = W ∧ ∀ W2, (∃ r, W2.heap[l]? = some (.loop r)) → w.heap.size ≤ l → l < W2.heap.size → I i X W2 → V i x W2 → (∀ k, H x k → l < k ∧ ¬ X k) → (∀ k, X k → k < w.heap.size ∨ l < k) → body.wpIn (F.inRound l) (n - 1 - 1) P (Lft X H R I Ix i x W2) a' W2) (fun _ _ _ => False)) { tmps := (ps.zip x).foldl (fun t (p, v) => t.setIfInBounds p v) a.tmps, defers := [] } W)
    (hdone : ∀ X W, I N X W → Frm X0 w W → (∀ k, X k → X0 k ∨ w.heap.size < k) → Q .normal a W) (hstop : ∀ c X W, Ix c X W → Frm X0 w W → (∀ k, X k → X0 k ∨ w.heap.size < k) → c.wpIn F n P Q a W) :
    (Code.rangeFunc g ps assign body).wpIn F n P Q a w := by
  refine loop_R w.heap.size r₀.defers [] (fun fn => w.alloc (.loop (recd a ps assign body r₀.defers fn .ready none))) (fun _ => True)
    (fun fn => by rw [hro]; exact run_enterLoop_inner hl₀ _ _ _ _ _) (fun fn => (Below.refl _ w).alloc (Nat.le_refl _) _) (fun fn => World.alloc_heap_new w _) (Nat.le_refl _) (fun fn => by simp) (fun _ => trivial) (fun _ _ _ _ => trivial)
    h1 hg hFg eg hit hDa hb0 hV hR hVs I Ix X0 hI hIx h0 hX0 hX1 (fun i x X W h2 h3 => wpIn_mono (hround w.heap.size i x X W h2 h3) ?_) (fun X W q q1 q2 _ => hdone X W q q1 q2) (fun c X W q q1 q2 _ => hstop c X W q q1 q2)
  rintro e a' W' hp
  cases e with
  | normal => exact ⟨hp.1, fun W2 k1 => hp.2 W2 k1 (Nat.le_refl _)⟩
  | ret => exact hp
  | exit k => exact hp
  | goto t => exact hp
  | panic c => exact hp
  | outgrown => exact hp
end Go.Proofs.Ytgedmfcfhdfoeaa.Rm
