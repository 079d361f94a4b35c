/- Several texts in one: JzA, JzB, RgL, JeA, JeB, JeD. -/
import Derived.RangeFuncNested
import Derived.RangeFuncBound
import Derived.RangeFuncCalls
import Derived.RangeFuncLeaves
import Derived.Shelf.Abstract
import Derived.Shelf.RegionOpen
import Derived.WalkKit
import Derived.OwnWalkIn
import Derived.TacticsInMore
import Derived.LoopNIn
import Derived.LoopIn
import Derived.Test.YtfimaflglnemdaaDoorJuT
import Derived.Test.YtfimaflglnemdaaDoorJuZ
/- A range over a function whose iterator hands out memory: an own law, by the number of the round; what a round is handed is known in the world at hand. -/
namespace Go.Proofs.YtfimaflglnemdaaDoor.Rg
open Go.RowKit
variable {F : Fence} {n : Nat} {P : Program}
theorem grown_below {W W' : World} (h : Below W.heap.size W W') : W.grownBy W' none := ⟨h.os, h.tape, h.output, h.size, fun k hk _ => h.block k hk⟩
/-- It abides new memory. -/
def Gro (J : World → Prop) : Prop := ∀ A B : World, J A → A.grownBy B none → J B
/-- An iterator of N rounds: its i-th is handed what V says. -/
def Iter (F : Fence) (n : Nat) (P : Program) (gf : Nat) (lb : Array Value) (N : Nat) (V : Nat → Array Value → World → Prop) (Kp : World → World → Prop) (w0 : World) : Prop :=
  ∀ (l : Nat) (J : Nat → World → Prop) (Jx : World → Prop) (W : World), Below w0.heap.size w0 W → (∀ i, Gro (J i)) → Gro Jx →
    (∀ i x W1, i < N → J i W1 → V i x W1 → YieldAt F (n - 1) P l x W1 fun e W' => (e = .returned (.bool true) ∧ J (i + 1) W' ∧ Kp W1 W') ∨ (e = .returned (.bool false) ∧ Jx W')) →
    J 0 W → CallsIn F n P gf (#[.func (.yield l) #[] #[]] ++ lb) W fun e W' => (∃ v, e = .returned v) ∧ (J N W' ∨ Jx W')
/-- The loop's own record. -/
def recd (a : Act) (ps : Array Tmp) (assign body : Code) (D : Nat) (fn : FuncId) (st : LoopState) (pe : Option Code) : Loop := { state := st, pending := pe, fn := fn, tmps := a.tmps, params := ps, assign := assign, body := body, defers := D }
/-- How a round may be left. -/
def Lft (B : Nat) (Kp : World → World → Prop) (I : Nat → World → Prop) (Ix : Code → World → Prop) (i : Nat) (W : World) : Exit → Act → World → Prop
  | .normal, _, W' => KeepsFrom B W W' ∧ Kp W W' ∧ I (i + 1) W'
  | .ret, _, W' => KeepsFrom B W W' ∧ Ix .ret W'
  | .exit k, _, W' => KeepsFrom B W W' ∧ Ix (.exit k) W'
  | .goto t, _, W' => KeepsFrom B W W' ∧ Ix (.goto t) W'
  | .panic _, _, _ => False
  | .outgrown, _, _ => False
theorem loop_R {g : Operand} {ps : Array Tmp} {assign body : Code} {Q : Exit → Act → World → Prop} {a : Act} {w : World}
    (l D : Nat) (mark : List Deferred) (E : FuncId → World) (Z : World → Prop)
    (hent : ∀ fn, (Instr.enterLoop fn a.tmps ps assign body F.round).run P w = .ok (l, mark) (E fn))
    (hEb : ∀ fn, Below w.heap.size w (E fn)) (hEl : ∀ fn, (E fn).heap[l]? = some (.loop (recd a ps assign body D fn .ready none))) (hlw : w.heap.size ≤ l) (hZ0 : ∀ fn, Z (E fn))
    (hZk : ∀ A B, Z A → KeepsFrom w.heap.size A B → Z B) (hZp : ∀ A o, Z A → Z (A.putObj l o))
    (h1 : 1 ≤ n) {gf : Nat} {lb : Array Value} (hg : a.eval g = .func (.func gf) #[] lb) (hFg : F.fn gf) (eg : ∀ args w, (callFunc gf args).run P w = .ok (.enter gf args) w)
    {N : Nat} {V : Nat → Array Value → World → Prop} {Kp : World → World → Prop} {w0 : World} (hit : Iter F (n - 1) P gf lb N V Kp w0) (hb0 : Below w0.heap.size w0 w)
    (hKt : ∀ {A B C : World}, Kp A B → Kp B C → Kp A C) (hKb : ∀ (W : World) (o o' : Obj), W.heap[l]? = some o → o.isCells = false → Kp W (W.putObj l o'))
    (hV : ∀ i x, OwnFrom w.heap.size (fun (_ : Unit) W => V i x W)) (hVs : ∀ i x W, V i x W → x.size = ps.size)
    (I : Nat → World → Prop) (Ix : Code → World → Prop) (hI : OwnFrom w.heap.size I) (hIx : ∀ c, OwnFrom w.heap.size (fun (_ : Unit) W => Ix c W)) (h0 : I 0 w)
    (hround : ∀ i x W, i < N → V i x W → assign.wpIn (F.inRound l) (n - 1 - 1) P (Exit.then (fun a' W' => W' = W ∧ ∀ W2, (∃ r, W2.heap[l]? = some (.loop r)) → I i W2 → V i x W2 → body.wpIn (F.inRound l) (n - 1 - 1) P (Lft w.heap.size Kp I Ix i W2) a' W2) (fun _ _ _ => False)) { tmps := (ps.zip x).foldl (fun t (p, v) => t.setIfInBounds p v) a.tmps, defers := [] } W)
    (hdone : ∀ W, I N W → Z W → Q .normal { a with defers := mark ++ a.defers } W)
    (hstop : ∀ c W, Ix c W → Z W → c.wpIn F n P Q { a with defers := mark ++ a.defers } W) :
    (Code.rangeFunc g ps assign body).wpIn F n P Q a w := by
  refine wpIn_rangeFunc (fun fn hfn => ⟨l, mark, E fn, { target := .fn (.func gf) lb, args := #[.func (.yield l) #[] #[]] }, E fn, gf, #[.func (.yield l) #[] #[]] ++ lb, E fn, hent fn, ?_, ?_, ?_, fun _ => h1, ?_⟩)
  · simp only [resolve, hg]
    simp [go_sem]
  · intro f' hf'
    simp [Target.leads] at hf'
    subst hf'
    exact hFg
  · simp [invoke, go_sem, eg]
  have keeps : ∀ {A B : World}, A.grownBy B none → KeepsFrom w.heap.size A B := fun hg => ⟨hg.size, fun k o _ hk _ => (hg.block k (Array.getElem?_eq_some_iff.1 hk).1 (by simp)).trans hk⟩
  have stays : ∀ {A B : World} {o : Obj}, A.grownBy B none → A.heap[l]? = some o → B.heap[l]? = some o := fun hg hk => (hg.block l (Array.getElem?_eq_some_iff.1 hk).1 (by simp)).trans hk
  refine (hit l (fun i W => I i W ∧ W.heap[l]? = some (.loop (recd a ps assign body D fn .ready none)) ∧ Z W) (fun W => ∃ c, Ix c W ∧ W.heap[l]? = some (.loop (recd a ps assign body D fn .done (some c))) ∧ Z W) (E fn) (hb0.trans ((hEb fn).mono hb0.size))
    (fun i A B hJ hg => ⟨hI i A B none hJ.1 hg (fun r e => by cases e), stays hg hJ.2.1, hZk A B hJ.2.2 (keeps hg)⟩)
    (fun A B hJ hg => by
      obtain ⟨c, q1, q2, q3⟩ := hJ
      exact ⟨c, hIx c () A B none q1 hg (fun r e => by cases e), stays hg q2, hZk A B q3 (keeps hg)⟩)
    ?_ ⟨hI 0 w (E fn) none h0 (grown_below (hEb fn)) (fun r e => by cases e), hEl fn, hZ0 fn⟩).mono ?_
  · rintro i x W hi ⟨qI, ql, qZ⟩ hv
    have hs := hVs i x W hv
    refine ⟨fn, _, assign, body, run_yield (P := P) (args := x) ql hs, roundIn_of_wpIn hfn (wpIn_mono (hround i x W hi hv) ?_)⟩
    rintro e a' W' hp
    cases e with
    | ret => exact hp.elim
    | exit k => exact hp.elim
    | goto t => exact hp.elim
    | panic c => exact hp.elim
    | outgrown => exact hp.elim
    | normal => ?_
    obtain ⟨eW, hbody⟩ := hp
    replace eW := eW.symm
    subst eW
    refine ⟨_, run_beginRound ql rfl, ?_⟩
    have hlt := (Array.getElem?_eq_some_iff.1 ql).1
    have ql2 : (W.putObj l (.loop (recd a ps assign body D fn .busy none))).heap[l]? = some (.loop (recd a ps assign body D fn .busy none)) := World.putObj_heap_same hlt
    have k2 := hKb W _ (.loop (recd a ps assign body D fn .busy none)) ql rfl
    refine wpIn_mono (hbody _ ⟨_, ql2⟩ (hI.putObj _ qI hlw ql rfl) ((hV i x).putObj (s := ()) _ hv hlw ql rfl)) ?_
    have out : ∀ (W3 : World) (j : Option Code), KeepsFrom w.heap.size (W.putObj l (.loop (recd a ps assign body D fn .busy none))) W3 →
        W3.heap[l]? = some (.loop (recd a ps assign body D fn .busy none)) ∧ (Instr.endRound l j).run P W3 = .ok (.bool j.isNone) (W3.putObj l (.loop (recd a ps assign body D fn (if j.isNone then .ready else .done) j))) ∧
        (W3.putObj l (.loop (recd a ps assign body D fn (if j.isNone then .ready else .done) j))).heap[l]? = some (.loop (recd a ps assign body D fn (if j.isNone then .ready else .done) j)) ∧ Z (W3.putObj l (.loop (recd a ps assign body D fn (if j.isNone then .ready else .done) j))) := fun W3 j hk => by
      have q3 := hk.same l _ hlw ql2 rfl
      exact ⟨q3, run_endRound j q3, World.putObj_heap_same (Array.getElem?_eq_some_iff.1 q3).1, hZp _ _ (hZk _ _ (hZp _ _ qZ) hk)⟩
    have jump : ∀ (W3 : World) (c : Code), KeepsFrom w.heap.size (W.putObj l (.loop (recd a ps assign body D fn .busy none))) W3 ∧ Ix c W3 → ∃ b W4, (Instr.endRound l (some c)).run P W3 = .ok b W4 ∧ ((Ending.returned b = .returned (.bool true) ∧ (I (i + 1) W4 ∧ W4.heap[l]? = some (.loop (recd a ps assign body D fn .ready none)) ∧ Z W4) ∧ Kp W W4) ∨ (Ending.returned b = .returned (.bool false) ∧ ∃ c, Ix c W4 ∧ W4.heap[l]? = some (.loop (recd a ps assign body D fn .done (some c))) ∧ Z W4)) := fun W3 c h => by
      obtain ⟨q3, q4, q5, q6⟩ := out W3 (some c) h.1
      exact ⟨_, _, q4, .inr ⟨rfl, c, (hIx c).putObj (s := ()) _ h.2 hlw q3 rfl, q5, q6⟩⟩
    rintro e a3 W3 hp
    cases e with
    | normal =>
      obtain ⟨p1, p2, p3⟩ := hp
      obtain ⟨q3, q4, q5, q6⟩ := out W3 none p1
      exact ⟨_, _, q4, .inl ⟨rfl, ⟨hI.putObj _ p3 hlw q3 rfl, q5, q6⟩, hKt (hKt k2 p2) (hKb W3 _ _ q3 rfl)⟩⟩
    | ret => exact jump W3 _ hp
    | exit k => exact jump W3 _ hp
    | goto t => exact jump W3 _ hp
    | panic c => exact hp.elim
    | outgrown => exact hp.elim
  · rintro e W2 ⟨⟨v, rfl⟩, ⟨qI, ql, qZ⟩ | ⟨c, qI, ql, qZ⟩⟩
    · exact ⟨none, _, run_endLoop (P := P) ql (by simp [recd]), hdone _ (hI.putObj _ qI hlw ql rfl) (hZp _ _ qZ)⟩
    · exact ⟨some c, _, run_endLoop (P := P) ql (by simp [recd]), hstop c _ ((hIx c).putObj (s := ()) _ qI hlw ql rfl) (hZp _ _ qZ)⟩
/-- At a loop within no other. -/
theorem loop_out {g : Operand} {ps : Array Tmp} {assign body : Code} {Q : Exit → Act → World → Prop} {a : Act} {w : World} (hro : F.round = none)
    (h1 : 1 ≤ n) {gf : Nat} {lb : Array Value} (hg : a.eval g = .func (.func gf) #[] lb) (hFg : F.fn gf) (eg : ∀ args w, (callFunc gf args).run P w = .ok (.enter gf args) w)
    {N : Nat} {V : Nat → Array Value → World → Prop} {Kp : World → World → Prop} {w0 : World} (hit : Iter F (n - 1) P gf lb N V Kp w0) (hb0 : Below w0.heap.size w0 w)
    (hKt : ∀ {A B C : World}, Kp A B → Kp B C → Kp A C) (hKb : ∀ (W : World) (l : Nat) (o o' : Obj), W.heap[l]? = some o → o.isCells = false → Kp W (W.putObj l o'))
    (hV : ∀ i x, OwnFrom w.heap.size (fun (_ : Unit) W => V i x W)) (hVs : ∀ i x W, V i x W → x.size = ps.size)
    (I : Nat → World → Prop) (Ix : Code → World → Prop) (hI : OwnFrom w.heap.size I) (hIx : ∀ c, OwnFrom w.heap.size (fun (_ : Unit) W => Ix c W)) (h0 : I 0 w)
    (hround : ∀ l i x W, i < N → V i x W → assign.wpIn (F.inRound l) (n - 1 - 1) P (Exit.then (fun a' W' => W' = W ∧ ∀ W2, (∃ r, W2.heap[l]? = some (.loop r)) → I i W2 → V i x W2 → body.wpIn (F.inRound l) (n - 1 - 1) P (Lft w.heap.size Kp I Ix i W2) a' W2) (fun _ _ _ => False)) { tmps := (ps.zip x).foldl (fun t (p, v) => t.setIfInBounds p v) a.tmps, defers := [] } W)
    (hdone : ∀ W, I N W → W.heap[w.heap.size]? = some (.deferred (some [])) → Q .normal { a with defers := { target := .collected w.heap.size, args := #[] } :: a.defers } W)
    (hstop : ∀ c W, Ix c W → W.heap[w.heap.size]? = some (.deferred (some [])) → c.wpIn F n P Q { a with defers := { target := .collected w.heap.size, args := #[] } :: a.defers } W) :
    (Code.rangeFunc g ps assign body).wpIn F n P Q a w := by
  refine loop_R (w.heap.size + 1) w.heap.size [{ target := .collected w.heap.size, args := #[] }] (fun fn => (w.alloc (.deferred (some []))).alloc (.loop (recd a ps assign body w.heap.size fn .ready none))) (fun W => W.heap[w.heap.size]? = some (.deferred (some [])))
    (fun fn => by rw [hro]; exact run_enterLoop_outer _ _ _ _ _) (fun fn => ((Below.refl _ w).alloc (Nat.le_refl _) _).alloc (by simp) _) (fun fn => ?_) (Nat.le_succ _) (fun fn => ?_) (fun A B hA hk => hk.same _ _ (Nat.le_refl _) hA rfl) (fun A o hA => (World.putObj_heap_other (by omega)).trans hA)
    h1 hg hFg eg hit hb0 hKt (fun W o o' => hKb W _ o o') hV hVs I Ix hI hIx h0 (hround _) hdone hstop
  · have := World.alloc_heap_new (w.alloc (.deferred (some []))) (.loop (recd a ps assign body w.heap.size fn .ready none))
    rwa [World.size_alloc] at this
  · exact (Below.heap_alloc _ _ _ (by simp)).trans (World.alloc_heap_new w _)
/-- At a loop within a round of loop l₀. -/
theorem loop_in {g : Operand} {ps : Array Tmp} {assign body : Code} {Q : Exit → Act → World → Prop} {a : Act} {w : World} {l₀ : Nat} {r₀ : Loop} (hro : F.round = some l₀) (hl₀ : w.heap[l₀]? = some (.loop r₀))
    (h1 : 1 ≤ n) {gf : Nat} {lb : Array Value} (hg : a.eval g = .func (.func gf) #[] lb) (hFg : F.fn gf) (eg : ∀ args w, (callFunc gf args).run P w = .ok (.enter gf args) w)
    {N : Nat} {V : Nat → Array Value → World → Prop} {Kp : World → World → Prop} {w0 : World} (hit : Iter F (n - 1) P gf lb N V Kp w0) (hb0 : Below w0.heap.size w0 w)
    (hKt : ∀ {A B C : World}, Kp A B → Kp B C → Kp A C) (hKb : ∀ (W : World) (l : Nat) (o o' : Obj), W.heap[l]? = some o → o.isCells = false → Kp W (W.putObj l o'))
    (hV : ∀ i x, OwnFrom w.heap.size (fun (_ : Unit) W => V i x W)) (hVs : ∀ i x W, V i x W → x.size = ps.size)
    (I : Nat → World → Prop) (Ix : Code → World → Prop) (hI : OwnFrom w.heap.size I) (hIx : ∀ c, OwnFrom w.heap.size (fun (_ : Unit) W => Ix c W)) (h0 : I 0 w)
    (hround : ∀ l i x W, i < N → V i x W → assign.wpIn (F.inRound l) (n - 1 - 1) P (Exit.then (fun a' W' => W' = W ∧ ∀ W2, (∃ r, W2.heap[l]? = some (.loop r)) → I i W2 → V i x W2 → body.wpIn (F.inRound l) (n - 1 - 1) P (Lft w.heap.size Kp I Ix i W2) a' W2) (fun _ _ _ => False)) { tmps := (ps.zip x).foldl (fun t (p, v) => t.setIfInBounds p v) a.tmps, defers := [] } W)
    (hdone : ∀ W, I N W → Q .normal a W) (hstop : ∀ c W, Ix c W → c.wpIn F n P Q a W) :
    (Code.rangeFunc g ps assign body).wpIn F n P Q a w := by
  refine loop_R w.heap.size r₀.defers [] (fun fn => w.alloc (.loop (recd a ps assign body r₀.defers fn .ready none))) (fun _ => True)
    (fun fn => by rw [hro]; exact run_enterLoop_inner hl₀ _ _ _ _ _) (fun fn => (Below.refl _ w).alloc (Nat.le_refl _) _) (fun fn => World.alloc_heap_new w _) (Nat.le_refl _) (fun _ => trivial) (fun _ _ _ _ => trivial) (fun _ _ _ => trivial)
    h1 hg hFg eg hit hb0 hKt (fun W o o' => hKb W _ o o') hV hVs I Ix hI hIx h0 (hround _) (fun W q _ => hdone W q) (fun c W q _ => hstop c W q)
end Go.Proofs.YtfimaflglnemdaaDoor.Rg

/- The journal's rows: the journal with its device's whole history; Compact with it. -/
namespace Go.Proofs.YtfimaflglnemdaaDoor
open Go.RowKit
open JM
set_option maxRecDepth 20000
namespace Dev
/-- A journal as it lies, with all moments of its device. -/
structure Jh [Inhabited HoleT] (lo : Nat) (W : World) (j v lim live gen last : Nat) (sp : List Sp) : Prop where
  dv : ∃ lv f ms, Dv lo W v lv f ms sp
  row : W.heap[j]? = some (.cells (jrow v lim live gen last) 101 (0, 0))
  hole : inHole j
  hlo : lo ≤ W.heap.size
  loj : lo ≤ j
  big : sp.length ≤ 1000000
  live1 : live ≤ 1
section
variable [Inhabited HoleT] {lo j v lim live gen last n : Nat} {W : World} {x : Sp} {sp pre : List Sp}
theorem Jh.jn (h : Jh lo W j v lim live gen last (pre ++ [x])) : Jn lo W j v lim live gen last pre.length x := by
  obtain ⟨lv, f, ms, h1⟩ := h.dv
  have hl := h1.len
  have hb := h.big
  rw [List.length_append, List.length_singleton] at hl hb
  exact ⟨⟨lv, f, ms, pre ++ [x], h1, by omega, by rw [List.getElem?_append_right (Nat.le_refl _), Nat.sub_self]; rfl⟩, h.row, h.hole, h.hlo, h.loj, by omega, h.live1⟩
theorem Jh.below {W' : World} (h : Jh lo W j v lim live gen last sp) (hb : Below W.heap.size W W') : Jh lo W' j v lim live gen last sp := by
  obtain ⟨lv, f, ms, h1⟩ := h.dv
  exact ⟨⟨lv, f, ms, h1.below hb⟩, (hb.block j (Array.getElem?_eq_some_iff.1 h.row).1).trans h.row, h.hole, Nat.le_trans h.hlo hb.size, h.loj, h.big, h.live1⟩
theorem Jh.fz (h : Jh lo W j v lim live gen last sp) (k : Nat) : W.frozen? ⟨j, k, none⟩ = false := frozen_of_row _ _ _ _ _ h.row
theorem Jh.put (h : Jh lo W j v lim live gen last sp) (R : Array Value) : Fo lo W (W.setRow j R) ∧ ∃ lv f ms, Dv lo (W.setRow j R) v lv f ms sp := by
  obtain ⟨lv, f, ms, h1⟩ := h.dv
  refine ⟨⟨rfl, rfl, rfl, by rw [size_setRow]; exact Nat.le_refl _, fun k hk _ => setRow_other _ _ _ _ (by have := h.loj; omega), fun k c t hc _ _ ht => setRow_other _ _ _ _ (row_ne hc h.row ht), fun k o hk ho => (setRow_other _ _ _ _ (fun e => by
    rw [e, h.row] at hk
    injection hk with hk
    subst hk
    exact ho _ _ rfl)).trans hk⟩, lv, f, ms, ?_⟩
  refine h1.keepH (j := j) (by rw [size_setRow]; exact Nat.le_refl _) (fun k _ hk => setRow_other _ _ _ _ hk) h.hole (row_ne h1.row h.row (by decide)) (fun e => ?_)
  obtain ⟨-, -, cur, h5⟩ := h1.ownrow e
  exact row_ne h5 h.row (by decide) rfl
theorem Jh.setL (h : Jh lo W j v lim live gen last sp) (i : Nat) (hi : i ≤ 1) : Jh lo (W.setCell ⟨j, 2, none⟩ (.int .i64 (i : Int))) j v lim i gen last sp ∧ Fo lo W (W.setCell ⟨j, 2, none⟩ (.int .i64 (i : Int))) := by
  rw [setCell_eq_setRow W j 2 _ _ _ _ h.row]
  obtain ⟨p1, p2⟩ := h.put (jrow v lim i gen last)
  exact ⟨⟨p2, setRow_heap _ _ _ _ _ _ h.row, h.hole, by rw [size_setRow]; exact h.hlo, h.loj, h.big, hi⟩, p1⟩
theorem Jh.setG (h : Jh lo W j v lim live gen last sp) (g : Nat) : Jh lo (W.setCell ⟨j, 3, none⟩ (.int .i64 (g : Int))) j v lim live g last sp ∧ Fo lo W (W.setCell ⟨j, 3, none⟩ (.int .i64 (g : Int))) := by
  rw [setCell_eq_setRow W j 3 _ _ _ _ h.row]
  obtain ⟨p1, p2⟩ := h.put (jrow v lim live g last)
  exact ⟨⟨p2, setRow_heap _ _ _ _ _ _ h.row, h.hole, by rw [size_setRow]; exact h.hlo, h.loj, h.big, h.live1⟩, p1⟩
theorem Jh.setN (h : Jh lo W j v lim live gen last sp) (g : Nat) : Jh lo (W.setCell ⟨j, 4, none⟩ (.int .i64 (g : Int))) j v lim live gen g sp ∧ Fo lo W (W.setCell ⟨j, 4, none⟩ (.int .i64 (g : Int))) := by
  rw [setCell_eq_setRow W j 4 _ _ _ _ h.row]
  obtain ⟨p1, p2⟩ := h.put (jrow v lim live gen g)
  exact ⟨⟨p2, setRow_heap _ _ _ _ _ _ h.row, h.hole, by rw [size_setRow]; exact h.hlo, h.loj, h.big, h.live1⟩, p1⟩
theorem Jh.did (h : Jh lo W j v lim live gen last sp) (hn : sp.length < 1000000) {lv : Value} {f : Array Value} {ms : List (Array Value)} (hd : Dv lo W v lv f ms sp) {x' : Sp} {e : Ending} {w' : World} (hp : DoP lo W v lv f ms sp x' e w') : e = .returned (.int .i64 0) ∧ Jh lo w' j v lim live gen last (sp ++ [x']) ∧ Fo lo W w' := by
  obtain ⟨h1, lv', m', h2, h3⟩ := hp
  have hjv : j ≠ v := row_ne h.row hd.row (by decide)
  have hjl : lv.ownBlock ≠ some j := fun e => by
    obtain ⟨-, -, cur, h5⟩ := hd.ownrow e
    exact row_ne h5 h.row (by decide) rfl
  exact ⟨h1, ⟨⟨lv', f, ms ++ [m'], h2⟩, (h3.block j (Array.getElem?_eq_some_iff.1 h.row).1 hjv hjl).trans h.row, h.hole, Nat.le_trans h.hlo h3.size, h.loj, by rw [List.length_append, List.length_singleton]; omega, h.live1⟩, h3.fo hd⟩
theorem Jh.last_at {lv : Value} {f : Array Value} {ms : List (Array Value)} (h1 : Dv lo W v lv f ms (pre ++ [x])) : (pre ++ [x])[ms.length]? = some x := by
  have hl := h1.len
  rw [List.length_append, List.length_singleton] at hl
  have rfl' : ms.length = pre.length := by omega
  rw [rfl', List.getElem?_append_right (Nat.le_refl _), Nat.sub_self]
  rfl
theorem Jh.append (h : Jh lo W j v lim live gen last (pre ++ [x])) (hn : pre.length + 1 < 1000000) (i : Nat) (hi : i ≤ 1) (u : Value) (l : List Nat) (hl : Bl W u l) (hroom : (fl x i).1.length + l.length ≤ 67108864) : Calls Tryd.prog 29 #[.pointer (some ⟨v, 0, none⟩), .int .i64 (i : Int), u] W fun e w' => e = .returned (.int .i64 0) ∧ Jh lo w' j v lim live gen last ((pre ++ [x]) ++ [up x i ((fl x i).1 ++ l, (fl x i).2)]) ∧ Fo lo W w' := by
  obtain ⟨lv, f, ms, h1⟩ := h.dv
  have hm := h1.len
  rw [List.length_append, List.length_singleton] at hm
  exact (appendI h1 h.hlo x (Jh.last_at h1) (by omega) i hi u l hl hroom).mono (fun e w' hp => h.did (by rw [List.length_append, List.length_singleton]; omega) h1 hp)
theorem Jh.sync (h : Jh lo W j v lim live gen last (pre ++ [x])) (hn : pre.length + 1 < 1000000) (i : Nat) (hi : i ≤ 1) : Calls Tryd.prog 30 #[.pointer (some ⟨v, 0, none⟩), .int .i64 (i : Int)] W fun e w' => e = .returned (.int .i64 0) ∧ Jh lo w' j v lim live gen last ((pre ++ [x]) ++ [up x i ((fl x i).1, (fl x i).1.length)]) ∧ Fo lo W w' := by
  obtain ⟨lv, f, ms, h1⟩ := h.dv
  have hm := h1.len
  rw [List.length_append, List.length_singleton] at hm
  exact (syncI h1 h.hlo x (Jh.last_at h1) (by omega) i hi).mono (fun e w' hp => h.did (by rw [List.length_append, List.length_singleton]; omega) h1 hp)
theorem Jh.cut (h : Jh lo W j v lim live gen last (pre ++ [x])) (hn : pre.length + 1 < 1000000) (i : Nat) (hi : i ≤ 1) : Calls Tryd.prog 31 #[.pointer (some ⟨v, 0, none⟩), .int .i64 (i : Int), .int .i64 0] W fun e w' => e = .returned (.int .i64 0) ∧ Jh lo w' j v lim live gen last ((pre ++ [x]) ++ [up x i ([], 0)]) ∧ Fo lo W w' := by
  obtain ⟨lv, f, ms, h1⟩ := h.dv
  have hm := h1.len
  rw [List.length_append, List.length_singleton] at hm
  exact (cutI h1 h.hlo x (Jh.last_at h1) (by omega) i hi).mono (fun e w' hp => h.did (by rw [List.length_append, List.length_singleton]; omega) h1 hp)
set_option maxRecDepth 100000 in
set_option maxHeartbeats 1600000 in
theorem Compact_hist {B o : Nat} {u : Value} {ls : List (List Nat)} (h : Jh lo W j v lim live gen last (pre ++ [x])) (ho : o ≤ 1) (hol : o + live = 1) (hu : Ll B W u ls) (hg : Gl ls) (hT : Tc W) (h0 : 0 < lo) (hgen : gen < 4611686018427387904) (hlast : last < 4611686018427387904) (hs : sizes ls < 70000000) (hL : (fl x o).1 = []) (hlim : lim ≤ 67108864) (hfit : 52 + sizes ls ≤ lim) (hn : pre.length + 3 < 1000000) :
    Calls Tryd.prog 23 #[.pointer (some ⟨j, 0, none⟩), u] W fun e w' => e = .returned (.int .i64 0) ∧ Jh lo w' j v lim o (gen + 1) last (pre ++ [x] ++ [up x o (basew (gen + 1) (last + 1) ls, (fl x o).2)] ++ [up x o (basew (gen + 1) (last + 1) ls, (basew (gen + 1) (last + 1) ls).length)] ++ [up (up x o (basew (gen + 1) (last + 1) ls, (basew (gen + 1) (last + 1) ls).length)) live ([], 0)]) ∧ Fo lo W w' := by
  have C1 := tooLong_no W hu.lr hg
  have C2 := other_any (live : Int) (by omega) (by omega) W
  have C3 := base_size W hu.lr (by omega)
  have C4 := fits_any h.jn o ho (52 + sizes ls) (by omega) (by rw [hL]; simp)
  rw [hL, List.length_nil, Nat.zero_add, decide_eq_true hfit] at C4
  obtain ⟨z, hz⟩ : ∃ z, 52 + sizes ls = z := ⟨_, rfl⟩
  rw [hz] at C3 C4
  have hoi : 1 - (live : Int) = (o : Int) := by omega
  rw [hoi] at C2
  have c2 := h.jn.c2
  have c3 := h.jn.c3
  have c4 := h.jn.c4
  have hl3 : Hid (decide ((4611686018427387904 : Int) ≤ (gen : Int)) = false) := by show decide _ = false; rw [decide_eq_false]; omega
  have hl4 : Hid (decide ((4611686018427387904 : Int) ≤ (last : Int)) = false) := by show decide _ = false; rw [decide_eq_false]; omega
  have hl5 : last < 9000000000000000000 := by omega
  have hl6 : gen < 9000000000000000000 := by omega
  obtain ⟨ou, cu, rfl⟩ := hu.sl
  replace C4 := mkHid C4
  have HH := mkHid (And.intro h (And.intro hu (And.intro hT hoi)))
  have HS := mkHid (And.intro hs (And.intro hL (And.intro hlim (And.intro hfit (And.intro ho hol)))))
  clear h hu hg hlast hs hL hfit hz hgen hol ho hlim hT hoi
  go_enter Tryd.func23, Tryd.ntmps23
  go_wp2_with fail
  refine C1.mono ?_
  rintro e w ⟨rfl, rfl⟩
  clear C1
  go_upto_region 5 with fail
  have hq3 := hl3.out
  have hq4 := hl4.out
  clear hl3 hl4
  go_upto_region 7 with fail
  clear hq3 hq4
  go_wp2_with fail
  refine C2.mono ?_
  rintro e w2 ⟨rfl, rfl⟩
  clear C2
  go_wp2_with fail
  refine C3.mono ?_
  rintro e w3 ⟨rfl, rfl⟩
  clear C3
  go_wp2_with fail
  refine C4.out.mono ?_
  rintro e w4 ⟨rfl, hb⟩
  clear C4
  have h2 := HH.out.1.below hb
  have e2 := h2.jn.c2
  have C5 := other_any (live : Int) (by have := HS.out; omega) (by have := HS.out; omega) w4
  rw [HH.out.2.2.2] at C5
  clear c2 c3 c4
  go_upto_region 10 with fail
  go_wp2_with fail
  refine C5.mono ?_
  rintro e w5 ⟨rfl, hw5⟩
  subst hw5
  clear C5
  have f2 := h2.fz 2
  obtain ⟨h3, fo3⟩ := h2.setL o HS.out.2.2.2.2.1
  obtain ⟨Y, hY⟩ : ∃ Y, w5.setCell ⟨j, 2, none⟩ (.int .i64 (o : Int)) = Y := ⟨_, rfl⟩
  rw [hY] at h3 fo3
  have g3 := h3.jn.c3
  have fg3 := h3.fz 3
  obtain ⟨h4, fo4⟩ := h3.setG (gen + 1)
  rw [Int.natCast_succ] at h4 fo4
  obtain ⟨Z, hZ⟩ : ∃ Z, Y.setCell ⟨j, 3, none⟩ (.int .i64 ((gen : Int) + 1)) = Z := ⟨_, rfl⟩
  rw [hZ] at h4 fo4
  have fo : Fo lo w3 Z := (Fo.of_below hb).trans (fo3.trans fo4)
  have hu3 := HH.out.2.1.keep (fo.stay ll_ty)
  have hT3 := HH.out.2.2.1.below (fo.below HH.out.1.hlo) h0
  have h3d := h4.below (below_drew Z)
  have CC : Hid (Calls Tryd.prog 52 #[.int .i64 ((gen : Int) + 1), .int .i64 (IntKind.i64.wrap ((last : Int) + 1)), .slice ou ls.length cu] Z.drew fun e w1 => ∃ v', e = .returned v' ∧ Hid (Bl w1 v' (basew (gen + 1) (last + 1) ls) ∧ Below Z.heap.size Z w1) ∧ (w1.cell? ⟨j, 0, none⟩ = some (.pointer (some ⟨v, 0, none⟩)) ∧ w1.cell? ⟨j, 2, none⟩ = some (.int .i64 (o : Int)) ∧ w1.cell? ⟨j, 3, none⟩ = some (.int .i64 ((gen : Int) + 1)) ∧ w1.cell? ⟨j, 4, none⟩ = some (.int .i64 (last : Int)))) := by
    rw [show IntKind.i64.wrap ((last : Int) + 1) = ((last + 1 : Nat) : Int) by rw [IntKind.wrap_i64]; omega]
    refine (base_lay (gen + 1) (last + 1) Z.drew (hu3.lr.below (below_drew Z)) (hT3.below (below_drew Z) hT3.sz) HS.out.1).mono ?_
    rintro e w1 ⟨v', e1, e2, e3⟩
    exact ⟨v', e1, ⟨e2.bl, (below_drew Z).trans e3⟩, (h3d.below e3).jn.c0, (h3d.below e3).jn.c2, (h3d.below e3).jn.c3, (h3d.below e3).jn.c4⟩
  have CD : Hid (∀ w1 v', Hid (Bl w1 v' (basew (gen + 1) (last + 1) ls) ∧ Below Z.heap.size Z w1) → Calls Tryd.prog 29 #[.pointer (some ⟨v, 0, none⟩), .int .i64 (o : Int), v'] w1 fun e w' => e = .returned (.int .i64 0) ∧ Hid (Jh lo w' j v lim o (gen + 1) last (pre ++ [x] ++ [up x o (basew (gen + 1) (last + 1) ls, (fl x o).2)]) ∧ Fo lo w3 w') ∧ (w'.cell? ⟨j, 0, none⟩ = some (.pointer (some ⟨v, 0, none⟩)) ∧ w'.cell? ⟨j, 2, none⟩ = some (.int .i64 (o : Int)) ∧ w'.cell? ⟨j, 3, none⟩ = some (.int .i64 ((gen : Int) + 1)) ∧ w'.cell? ⟨j, 4, none⟩ = some (.int .i64 (last : Int)))) := by
    rintro w1 v' ⟨k1, k2⟩
    have hL := HS.out.2.1
    refine ((h4.below k2).append (by omega) o h4.live1 v' _ k1 (by rw [basew_len, hL, List.length_nil]; have := HS.out; omega)).mono ?_
    rintro e w' ⟨e1, e2, e3⟩
    rw [hL, List.nil_append] at e2
    exact ⟨e1, ⟨e2, fo.trans ((Fo.of_below k2).trans e3)⟩, e2.jn.c0, e2.jn.c2, e2.jn.c3, e2.jn.c4⟩
  have d0 : Z.drew.cell? ⟨j, 0, none⟩ = some (.pointer (some ⟨v, 0, none⟩)) ∧ Z.drew.cell? ⟨j, 2, none⟩ = some (.int .i64 (o : Int)) ∧ Z.drew.cell? ⟨j, 3, none⟩ = some (.int .i64 ((gen : Int) + 1)) ∧ Z.drew.cell? ⟨j, 4, none⟩ = some (.int .i64 (last : Int)) := ⟨h3d.jn.c0, h3d.jn.c2, h3d.jn.c3, h3d.jn.c4⟩
  clear h2 h3 fo3 fo4 h4 fo hu3 hT3 h3d HH hb
  go_upto_region 12 with fail
  go_region_held3 (fun w' => w'.cell? ⟨j, 0, none⟩ = some (.pointer (some ⟨v, 0, none⟩)) ∧ w'.cell? ⟨j, 2, none⟩ = some (.int .i64 (o : Int)) ∧ w'.cell? ⟨j, 3, none⟩ = some (.int .i64 ((gen : Int) + 1)) ∧ w'.cell? ⟨j, 4, none⟩ = some (.int .i64 (last : Int))) (first | assumption | exact d0)
    (first
      | (go_at_call 52; with_reducible refine Calls.mono CC.out ?_; rintro e wx ⟨v3, rfl, k3, s3⟩)
      | (go_at_call 29; with_reducible refine Calls.mono (CD.out _ _ k3) ?_; rintro e w4 ⟨rfl, k4, s4⟩))
  have h4d := k4.out.1.below (below_drew w4)
  have CE : Hid (Calls Tryd.prog 30 #[.pointer (some ⟨v, 0, none⟩), .int .i64 (o : Int)] w4.drew fun e w' => e = .returned (.int .i64 0) ∧ Hid (Jh lo w' j v lim o (gen + 1) last (pre ++ [x] ++ [up x o (basew (gen + 1) (last + 1) ls, (fl x o).2)] ++ [up x o (basew (gen + 1) (last + 1) ls, (basew (gen + 1) (last + 1) ls).length)]) ∧ Fo lo w3 w') ∧ (w'.cell? ⟨j, 0, none⟩ = some (.pointer (some ⟨v, 0, none⟩)) ∧ w'.cell? ⟨j, 2, none⟩ = some (.int .i64 (o : Int)))) := by
    refine (h4d.sync (by simp; omega) o h4d.live1).mono ?_
    rintro e w' ⟨e1, e2, e3⟩
    rw [fl_same, up_up] at e2
    exact ⟨e1, ⟨e2, k4.out.2.trans ((Fo.of_below (below_drew w4)).trans e3)⟩, e2.jn.c0, e2.jn.c2⟩
  have d5 : w4.drew.cell? ⟨j, 0, none⟩ = some (.pointer (some ⟨v, 0, none⟩)) ∧ w4.drew.cell? ⟨j, 2, none⟩ = some (.int .i64 (o : Int)) := ⟨s4.1, s4.2.1⟩
  clear h4d CC CD k3 s3 d0
  go_upto_region 13 with fail
  go_region_held3 (fun w' => w'.cell? ⟨j, 0, none⟩ = some (.pointer (some ⟨v, 0, none⟩)) ∧ w'.cell? ⟨j, 2, none⟩ = some (.int .i64 (o : Int))) (first | assumption | exact d5)
    (first
      | (go_at_call 30; with_reducible refine Calls.mono CE.out ?_; rintro e w6 ⟨rfl, k6, s6⟩))
  obtain ⟨s60, -⟩ := s6
  have CF := k6.out.1.cut (by simp; omega) live (by have := HS.out; omega)
  go_wp2_with fail
  refine CF.mono ?_
  rintro e w7 ⟨rfl, k7, k8⟩
  have HE := mkHid (And.intro k7 (k6.out.2.trans k8))
  clear CF k7 k8
  go_wp2_with fail
  go_ret
  exact ⟨rfl, HE.out⟩
end
end Dev
end Go.Proofs.YtfimaflglnemdaaDoor

/- The journal's rows: trim in all its cases; resume; Open of a disk that has a journal. -/
namespace Go.Proofs.YtfimaflglnemdaaDoor
open Go.RowKit
open JM
set_option maxRecDepth 20000
namespace Dev
/-- What a trim does: the moment behind it, and the moments that it adds. -/
def trx (x : Sp) (i n : Nat) : Sp := if n < (fl x i).1.length then up x i ((fl x i).1.take n, min (fl x i).2 n) else x
def trs (x : Sp) (i n : Nat) : List Sp := if n < (fl x i).1.length then [up x i ((fl x i).1.take n, min (fl x i).2 n)] else []
theorem trs_pre (pre : List Sp) (x : Sp) (i n : Nat) : ∃ pre', pre ++ [x] ++ trs x i n = pre' ++ [trx x i n] ∧ pre'.length ≤ pre.length + 1 := by
  unfold trs trx
  split
  · exact ⟨pre ++ [x], rfl, by simp⟩
  · exact ⟨pre, by simp, by omega⟩
section
variable {lo v : Nat} {W : World} {lv : Value} {f : Array Value} {ms : List (Array Value)} {pre : List Sp} {x : Sp}
theorem trim_any {i0 : Inhabited HoleT} (h : @Dv i0 lo W v lv f ms (pre ++ [x])) (hlo : lo ≤ W.heap.size) (hbig : pre.length + 1 < 1000000) (i : Nat) (hi : i ≤ 1) (n : Nat) :
    Calls Tryd.prog 64 #[.pointer (some ⟨v, 0, none⟩), .int .i64 (i : Int), .int .i64 (n : Int)] W fun e w' => e = .returned (.tuple #[]) ∧ (∃ lv' ms', @Dv i0 lo w' v lv' f ms' (pre ++ [x] ++ trs x i n)) ∧ Fo lo W w' := by
  letI := i0
  have hm := h.len
  rw [List.length_append, List.length_singleton] at hm
  have hx := Jh.last_at h
  by_cases hc : n < (fl x i).1.length
  · have e1 : trs x i n = [up x i ((fl x i).1.take n, min (fl x i).2 n)] := if_pos hc
    rw [e1]
    obtain rfl | rfl : i = 0 ∨ i = 1 := by omega
    · refine (trim0_cut h hlo x hx (by omega) n hc).mono ?_
      rintro e w' ⟨rfl, w, hb, hd⟩
      obtain ⟨-, lv', m', h2, h3⟩ := hd
      exact ⟨rfl, ⟨lv', _, h2⟩, (Fo.of_below hb).trans (h3.fo (h.below hb))⟩
    · refine (trim1_cut h hlo x hx (by omega) n hc).mono ?_
      rintro e w' ⟨rfl, w, hb, hd⟩
      obtain ⟨-, lv', m', h2, h3⟩ := hd
      exact ⟨rfl, ⟨lv', _, h2⟩, (Fo.of_below hb).trans (h3.fo (h.below hb))⟩
  · have e1 : trs x i n = [] := if_neg hc
    rw [e1, List.append_nil]
    obtain rfl | rfl : i = 0 ∨ i = 1 := by omega
    · refine (trim0_no h x hx (by omega) n (Nat.le_of_not_lt hc)).mono ?_
      rintro e w' ⟨rfl, hb⟩
      exact ⟨rfl, ⟨lv, _, h.below hb⟩, Fo.of_below hb⟩
    · refine (trim1_no h x hx (by omega) n (Nat.le_of_not_lt hc)).mono ?_
      rintro e w' ⟨rfl, hb⟩
      exact ⟨rfl, ⟨lv, _, h.below hb⟩, Fo.of_below hb⟩
end
/-- The moments behind resume. -/
def rsx (x : Sp) (i n : Nat) : Sp := trx (trx x i n) (1 - i) 0
def rss (x : Sp) (i n : Nat) : List Sp := trs x i n ++ trs (trx x i n) (1 - i) 0
set_option maxRecDepth 100000 in
set_option maxHeartbeats 1600000 in
theorem resume_any {i0 : Inhabited HoleT} {lo v lim : Nat} {W : World} {lv : Value} {f : Array Value} {ms : List (Array Value)} {pre : List Sp} {x : Sp} {B i good gen first : Nat} {t4 t5 : Value} {bl : List (List Nat)} {bt : List (List (List Nat))} (h : @Dv i0 lo W v lv f ms (pre ++ [x])) (hlo : lo ≤ W.heap.size) (hbig : pre.length + 3 < 1000000) (hi : i ≤ 1) (h4 : Ll B W t4 bl) (h5 : Lb B W t5 bt) (hf1 : 1 ≤ first) (hf2 : first + bt.length < 9000000000000000000) :
    Calls Tryd.prog 42 #[.pointer (some ⟨v, 0, none⟩), .int .i64 (lim : Int), .agg (styA i good gen first t4 t5)] W fun e w' => ∃ j, e = .returned (.pointer (some ⟨j, 0, none⟩)) ∧ @Jh (hJ j) lo w' j v lim i gen (first - 1 + bt.length) (pre ++ [x] ++ rss x i good) ∧ Fo lo W w' := by
  obtain ⟨o4, c4, rfl⟩ := h4.sl
  obtain ⟨o5, c5, rfl⟩ := h5.sl
  obtain ⟨N, hN⟩ : ∃ N, bt.length = N := ⟨_, rfl⟩
  rw [hN] at hf2
  rw [hN]
  obtain ⟨V, hV⟩ : ∃ V, W.alloc (.cells #[.int .i64 (i : Int), .int .i64 (good : Int), .int .i64 (gen : Int), .int .i64 (first : Int), .slice o4 bl.length c4, .slice o5 N c5] 47) = V := ⟨_, rfl⟩
  have bV : Below W.heap.size W V := by rw [← hV]; exact (Below.refl _ W).alloc (Nat.le_refl _) _
  have rV : V.heap[W.heap.size]? = some (.cells #[.int .i64 (i : Int), .int .i64 (good : Int), .int .i64 (gen : Int), .int .i64 (first : Int), .slice o4 bl.length c4, .slice o5 N c5] 47 (0, 0)) := by rw [← hV]; exact heap_alloc_new _ _
  have c0 : V.cell? ⟨W.heap.size, 0, none⟩ = some (.int .i64 (i : Int)) := (cell_of_row _ _ _ _ _ _ rV).trans rfl
  have c1 : V.cell? ⟨W.heap.size, 1, none⟩ = some (.int .i64 (good : Int)) := (cell_of_row _ _ _ _ _ _ rV).trans rfl
  have C1 := trim_any (@Dv.below i0 _ _ _ _ _ _ _ _ h bV) (Nat.le_trans hlo bV.size) (by omega) i hi good
  obtain ⟨pre', hp, hpl⟩ := trs_pre pre x i good
  rw [hp] at C1
  have e1i : (1 : Int) - (i : Int) = ((1 - i : Nat) : Int) := by omega
  have wf : IntKind.i64.wrap ((first : Int) - 1) = ((first - 1 : Nat) : Int) := by rw [IntKind.wrap_i64]; omega
  have wl : IntKind.i64.wrap (((first - 1 : Nat) : Int) + (N : Int)) = ((first - 1 + N : Nat) : Int) := by rw [IntKind.wrap_i64]; omega
  have HH := mkHid (And.intro bV (And.intro rV (And.intro hlo (And.intro hbig (And.intro hi (And.intro hp hpl))))))
  have hi0 : (0 : Int) ≤ (i : Int) := by omega
  have hi1 : (i : Int) ≤ 1 := by omega
  clear h h4 h5 hlo hbig hi hf1 hf2 hp hpl bV rV
  unfold styA
  go_enter Tryd.func42, Tryd.ntmps42
  go_upto_region 1 with fail
  try rw [hV]
  go_wp2_with fail
  refine C1.mono ?_
  rintro e w1 ⟨rfl, ⟨lv1, ms1, d1⟩, fo1⟩
  clear C1 c0 c1 hV
  have r1 := fo1.row HH.out.2.1 (by decide) (by decide) (by decide)
  have c0 : w1.cell? ⟨W.heap.size, 0, none⟩ = some (.int .i64 (i : Int)) := (cell_of_row _ _ _ _ _ _ r1).trans rfl
  have C2 := other_any (i : Int) hi0 hi1 w1
  rw [e1i] at C2
  have C3 := trim_any d1 (Nat.le_trans HH.out.2.2.1 (Nat.le_trans HH.out.1.size fo1.size)) (by have := HH.out; omega) (1 - i) (by omega) 0
  rw [show ((0 : Nat) : Int) = 0 from rfl] at C3
  have H1 := mkHid (And.intro r1 fo1)
  clear d1 r1 fo1
  go_wp2_with fail
  refine C2.mono ?_
  rintro e w1' ⟨rfl, hw⟩
  subst hw
  clear C2
  go_wp2_with fail
  refine C3.mono ?_
  rintro e w2 ⟨rfl, ⟨lv2, ms2, d2⟩, fo2⟩
  clear C3 c0
  have r2 := fo2.row H1.out.1 (by decide) (by decide) (by decide)
  have c0 : w2.cell? ⟨W.heap.size, 0, none⟩ = some (.int .i64 (i : Int)) := (cell_of_row _ _ _ _ _ _ r2).trans rfl
  have c2 : w2.cell? ⟨W.heap.size, 2, none⟩ = some (.int .i64 (gen : Int)) := (cell_of_row _ _ _ _ _ _ r2).trans rfl
  have c3 : w2.cell? ⟨W.heap.size, 3, none⟩ = some (.int .i64 (first : Int)) := (cell_of_row _ _ _ _ _ _ r2).trans rfl
  have c5 : w2.cell? ⟨W.heap.size, 5, none⟩ = some (.slice o5 N c5) := (cell_of_row _ _ _ _ _ _ r2).trans rfl
  have H2 := mkHid (And.intro d2 (H1.out.2.trans fo2))
  clear d2 r2 fo2
  go_wp2_with fail
  rw [show ((first - 1 : Nat) : Int) + (N : Int) = ((first - 1 + N : Nat) : Int) from (Int.natCast_add _ _).symm]
  obtain ⟨Z, hZ⟩ : ∃ Z, w2.alloc (.cells #[.pointer (some ⟨v, 0, none⟩), .int .i64 (lim : Int), .int .i64 (i : Int), .int .i64 (gen : Int), .int .i64 ((first - 1 + N : Nat) : Int)] 101) = Z := ⟨_, rfl⟩
  have bZ : Below w2.heap.size w2 Z := by rw [← hZ]; exact (Below.refl _ w2).alloc (Nat.le_refl _) _
  have rZ : Z.heap[w2.heap.size]? = some (.cells (jrow v lim i gen (first - 1 + N)) 101 (0, 0)) := by rw [← hZ]; exact heap_alloc_new _ _
  rw [hZ]
  go_ret
  obtain ⟨d2, fo2⟩ := H2.out
  have fo : Fo lo W Z := ((Fo.of_below HH.out.1).trans fo2).trans (Fo.of_below bZ)
  have hlo2 : lo ≤ w2.heap.size := Nat.le_trans HH.out.2.2.1 (Nat.le_trans HH.out.1.size fo2.size)
  have dZ : @Dv (hJ w2.heap.size) lo Z v lv2 _ ms2 _ := Dv.toJ d2 bZ (Nat.le_refl _) (Array.getElem?_eq_some_iff.1 rZ).1
  have hl : (pre ++ [x] ++ rss x i good).length ≤ 1000000 := by
    have := HH.out.2.2.2.1
    unfold rss trs
    split <;> split <;> simp <;> omega
  refine ⟨w2.heap.size, rfl, ?_, fo⟩
  letI := hJ w2.heap.size
  refine ⟨⟨lv2, f, ms2, ?_⟩, rZ, rfl, Nat.le_trans hlo2 bZ.size, hlo2, hl, HH.out.2.2.2.2.1⟩
  rw [rss, ← List.append_assoc, HH.out.2.2.2.2.2.1]
  exact dZ
attribute [local go_sem ↓] toStSt toLdSt in
set_option maxRecDepth 100000 in
set_option maxHeartbeats 1600000 in
theorem Open_story {i0 : Inhabited HoleT} {lo v lim : Nat} {W : World} {lv : Value} {f : Array Value} {ms : List (Array Value)} {pre : List Sp} {x : Sp} {i : Nat} {s : St} (h : @Dv i0 lo W v lv f ms (pre ++ [x])) (hlo : lo ≤ W.heap.size) (hbig : pre.length + 3 < 1000000) (hT : Tc W) (hlim : lim ≤ 67108864) (hlim2 : 64 ≤ lim) (b0 : Byt x.1.1) (b1 : Byt x.2.1) (l0 : x.1.1.length ≤ 67108864) (l1 : x.2.1.length ≤ 67108864) (hr : rep x.1.1 x.2.1 = .story i s) (hi : i ≤ 1) (hf1 : 1 ≤ s.first) (hf2 : s.first + s.batches.length < 9000000000000000000) :
    Calls Tryd.prog 13 #[.pointer (some ⟨v, 0, none⟩), .int .i64 (lim : Int)] W fun e w' => ∃ j, e = .returned (.tuple #[.pointer (some ⟨j, 0, none⟩), .int .i64 0, .int .i64 0, .int .i64 0]) ∧ @Jh (hJ j) lo w' j v lim i s.gen (s.first - 1 + s.batches.length) (pre ++ [x] ++ rss x i s.good) ∧ Fo lo W w' := by
  have hm := @Dv.len i0 _ _ _ _ _ _ _ h
  rw [List.length_append, List.length_singleton] at hm
  have C1 := @Disk_any i0 _ _ _ _ _ _ _ h _ (@Jh.last_at i0 _ _ _ _ _ _ _ _ h) (by omega)
  have q1 : ¬ (lim : Int) < 64 := by omega
  have q2 : ¬ (67108864 : Int) < (lim : Int) := by omega
  have q3 : ¬ (i : Int) < 0 := by omega
  have HH := mkHid (And.intro h (And.intro hlo (And.intro hbig (And.intro hT (And.intro b0 (And.intro b1 (And.intro l0 (And.intro l1 (And.intro hr (And.intro hi (And.intro hf1 hf2)))))))))))
  replace C1 := mkHid C1
  clear h hlo hbig hT b0 b1 l0 l1 hr hm hi hf1 hf2
  go_enter Tryd.func13, Tryd.ntmps13
  go_wp2_with fail
  refine C1.out.mono ?_
  rintro e w1 ⟨cc, rfl, g0, g1, rfl, r0, r1, p0, p1, p2, bD⟩
  clear C1
  have T1 := HH.out.2.2.2.1.below bD HH.out.2.2.2.1.sz
  have C2 := replay_story w1 (bl_row r0 HH.out.2.2.2.2.1 (by have := HH.out.2.2.2.2.2.2.1; unfold maxLen; omega)) (bl_row r1 HH.out.2.2.2.2.2.1 (by have := HH.out.2.2.2.2.2.2.2.1; unfold maxLen; omega)) T1 HH.out.2.2.2.2.2.2.2.2.1
  replace C2 := mkHid C2
  have HB := mkHid bD
  clear r0 r1 p0 p1 p2 bD T1
  unfold dkA
  go_wp2_with fail
  refine C2.out.mono ?_
  rintro e w2 ⟨t4, t5, rfl, h4, h5, b2⟩
  clear C2
  have hone := styA_one (i := i) (good := s.good) (gen := s.gen) (first := s.first) h4 h5
  have s1 := st_Sn w2 (styA i s.good s.gen s.first t4 t5) rfl hone
  obtain ⟨E, hE⟩ : ∃ E, w2.alloc (.cells (styA i s.good s.gen s.first t4 t5) 47) = E := ⟨_, rfl⟩
  have bE : Below w2.heap.size w2 E := by rw [← hE]; exact (Below.refl _ w2).alloc (Nat.le_refl _) _
  have rE : E.heap[w2.heap.size]? = some (.cells (styA i s.good s.gen s.first t4 t5) 47 (0, 0)) := by rw [← hE]; exact heap_alloc_new _ _
  rw [hE] at s1
  have c0 : E.cell? ⟨w2.heap.size, 0, none⟩ = some (.int .i64 (i : Int)) := (cell_of_row _ _ _ _ _ _ rE).trans rfl
  have ldE := ld_Sr E w2.heap.size (styA i s.good s.gen s.first t4 t5) rfl rE
  have b0E : Below W.heap.size W E := HB.out.trans ((b2.trans (bE.mono b2.size)).mono HB.out.size)
  have C3 := resume_any (lim := lim) (@Dv.below i0 _ _ _ _ _ _ _ _ HH.out.1 b0E) (Nat.le_trans HH.out.2.1 b0E.size) HH.out.2.2.1 HH.out.2.2.2.2.2.2.2.2.2.1 (h4.keep (stay_below bE)) (h5.keep (stay_below bE)) HH.out.2.2.2.2.2.2.2.2.2.2.1 HH.out.2.2.2.2.2.2.2.2.2.2.2 (good := s.good) (gen := s.gen)
  have HE := mkHid b0E
  obtain ⟨p4, d4, e4⟩ := h4.sl
  obtain ⟨p5, d5, e5⟩ := h5.sl
  subst e4 e5
  unfold styA at s1 c0 ldE C3
  unfold styA
  clear b0E rE bE b2 h4 h5 hone hE
  go_wp2_with fail
  refine C3.mono ?_
  rintro e w3 ⟨j, rfl, k1, k2⟩
  have HF := mkHid (And.intro k1 ((Fo.of_below HE.out).trans k2))
  clear C3 k1 k2
  go_wp2_with fail
  refine bodyPost_ret (results_tmp4 rfl _ _ _) rfl ?_
  exact ⟨j, rfl, HF.out⟩
end Dev
end Go.Proofs.YtfimaflglnemdaaDoor

/- Each of a journal: what its iterator hands out. -/
namespace Go.Proofs.YtfimaflglnemdaaDoor
open Go.RowKit
open JM
set_option maxRecDepth 20000
namespace Dev
/-- Cells' blocks from B on stay, but for those of a device, of its moments and of a journal. -/
structure KpB (B : Nat) (W W' : World) : Prop where
  size : W.heap.size ≤ W'.heap.size
  same : ∀ (k : Nat) (c : Array Value) (t : Nat), B ≤ k → W.heap[k]? = some (.cells c t (0, 0)) → (t ≠ 93 ∧ t ≠ 90 ∧ t ≠ 101) → W'.heap[k]? = some (.cells c t (0, 0))
theorem KpB.refl (B : Nat) (W : World) : KpB B W W := ⟨Nat.le_refl _, fun _ _ _ _ h _ => h⟩
theorem KpB.trans {B : Nat} {X Y Z : World} (h : KpB B X Y) (k : KpB B Y Z) : KpB B X Z := ⟨Nat.le_trans h.size k.size, fun i c t hB hi ht => k.same i c t hB (h.same i c t hB hi ht) ht⟩
theorem KpB.put (B : Nat) (W : World) (l : Nat) (o o' : Obj) (h : W.heap[l]? = some o) (ho : o.isCells = false) : KpB B W (W.putObj l o') := by
  refine ⟨by simp [World.putObj], fun k c t _ hk _ => ?_⟩
  by_cases e : k = l
  · subst e
    rw [h] at hk
    injection hk with hk
    subst hk
    cases ho
  · exact (World.putObj_heap_other e).trans hk
theorem KpB.below {B : Nat} {W W' : World} (h : Below W.heap.size W W') : KpB B W W' := ⟨h.size, fun k _ _ _ hk _ => (h.block k (Array.getElem?_eq_some_iff.1 hk).1).trans hk⟩
theorem KpB.fo {B lo : Nat} {W W' : World} (h : Fo lo W W') : KpB B W W' := ⟨h.size, fun k c t _ hk ht => (h.oth k c t hk ht.1 ht.2.1 ht.2.2).trans hk⟩
theorem KpB.stay {B B' : Nat} {W W' : World} (h : KpB B W W') (hB : B ≤ B') {T : Nat → Prop} (hT : ∀ t, T t → t ≠ 93 ∧ t ≠ 90 ∧ t ≠ 101) : Stay B' T W W' := fun k c t hk ht hc => (h.same k c t (Nat.le_trans hB hk) hc (hT t ht)).trans hc.symm
/-- What the i-th round is handed: its number, its batch. -/
def Vb (B first : Nat) (bt : List (List (List Nat))) (i : Nat) (x : Array Value) (W : World) : Prop := ∃ (y : Value) (h : i < bt.length), x = #[.int .i64 ((first : Int) + (i : Int)), y] ∧ Ll B W y bt[i]
set_option maxRecDepth 100000 in
set_option maxHeartbeats 1600000 in
theorem each_iter [Inhabited HoleT] {lo j v lim live gen last nn : Nat} {w0 : World} {x : Sp} {i : Nat} {s : St} (n b : Nat) (h : Jn lo w0 j v lim live gen last nn x) (hT : Tc w0) (hB0 : Byt x.1.1) (hB1 : Byt x.2.1) (hl0 : x.1.1.length ≤ 67108864) (hl1 : x.2.1.length ≤ 67108864) (hr : rep x.1.1 x.2.1 = .story i s) (hf : s.first + s.batches.length ≤ 1000000) (hb : w0.cell? ⟨b, 0, none⟩ = some (.pointer (some ⟨j, 0, none⟩))) :
    Rg.Iter Fence.wide n Tryd.prog 43 #[.pointer (some ⟨b, 0, none⟩)] s.batches.length (Vb w0.heap.size s.first s.batches) (KpB w0.heap.size) w0 := by
  intro l J Jx W hW hJ hJx hY h0
  have cB := cell_below hW hb
  have C1 := Story_any (h.below hW) (hT.below hW hT.sz) hB0 hB1 hl0 hl1 hr
  have HY := mkHid (And.intro hJ (And.intro hJx (And.intro hY h0)))
  clear h hT hB0 hB1 hl0 hl1 hr hb hJ hJx hY h0
  show CallsIn _ _ _ _ #[.func (.yield l) #[] #[], .pointer (some ⟨b, 0, none⟩)] W _
  refine callsIn_of_wp Tryd.func43 rfl trivial ?_ rfl
  simp only [Tryd.ntmps43, List.size_toArray, List.length_cons, List.length_nil, Nat.reduceAdd, Nat.reduceSub, Array.replicate_succ, Array.replicate_zero, List.push_toArray, List.append_toArray, List.nil_append, List.cons_append]
  gi_wp2
  refine ⟨trivial, fun h => (by cases h), callsIn_wide.2 (C1.mono ?_)⟩
  rintro e w1 ⟨t4, t5, rfl, h4, h5, b1⟩
  clear C1
  obtain ⟨o4, c4, e4⟩ := h4.sl
  obtain ⟨o5, c5, e5⟩ := h5.sl
  subst e4 e5
  obtain ⟨N, hN⟩ : ∃ N, s.batches.length = N := ⟨_, rfl⟩
  rw [hN] at HY hf
  rw [hN]
  obtain ⟨w2, hw2⟩ : ∃ w2, w1.alloc (.cells (styA i s.good s.gen s.first (.slice o4 s.base.length c4) (.slice o5 N c5)) 47) = w2 := ⟨_, rfl⟩
  have b12 : Below w1.heap.size w1 w2 := by rw [← hw2]; exact (Below.refl _ w1).alloc (Nat.le_refl _) _
  have r2 : w2.heap[w1.heap.size]? = some (.cells (styA i s.good s.gen s.first (.slice o4 s.base.length c4) (.slice o5 N c5)) 47 (0, 0)) := by rw [← hw2]; exact heap_alloc_new _ _
  obtain ⟨ks, hks⟩ : ∃ k, w1.heap.size = k := ⟨_, rfl⟩
  rw [hks] at r2
  have hWk : w0.heap.size ≤ ks := by rw [← hks]; exact Nat.le_trans hW.size b1.size
  have bW2 : Below W.heap.size W w2 := b1.trans (b12.mono b1.size)
  have c3 : w2.cell? ⟨ks, 3, none⟩ = some (.int .i64 (s.first : Int)) := (cell_of_row _ _ _ _ _ _ r2).trans rfl
  have c5' : w2.cell? ⟨ks, 5, none⟩ = some (.slice o5 N c5) := (cell_of_row _ _ _ _ _ _ r2).trans rfl
  have hJ0 := HY.out.1 0 W w2 HY.out.2.2.2 (Rg.grown_below bW2)
  have h52 : Lb w0.heap.size w2 (.slice o5 N c5) s.batches := by
    have := (h5.keep (stay_below b12)).mono hW.size
    rwa [hN] at this
  have HS := mkHid (And.intro r2 (And.intro h52 hJ0))
  unfold styA at hw2
  replace hw2 := mkHid hw2
  clear h4 h5 b1 b12 r2 bW2 h52 hJ0
  unfold styA
  gi_wp2
  try rw [hw2.out]
  try rw [hks]
  gi_loopw [11] (fun iv wr => ∃ q : Nat, iv = .int .i64 (q : Int) ∧ q ≤ N ∧ Hid (wr.heap[ks]? = some (.cells (styA i s.good s.gen s.first (.slice o4 s.base.length c4) (.slice o5 N c5)) 47 (0, 0)) ∧ Lb w0.heap.size wr (.slice o5 N c5) s.batches ∧ J q wr)) (fun iv _ => N - (intOf iv).toNat)
  case atStart => exact ⟨0, rfl, Nat.zero_le _, HS⟩
  case round =>
    obtain ⟨q, rfl, hq, HI⟩ := hrel
    by_cases hlt : q < N
    · have hlt2 : (q : Int) < (N : Int) := by omega
      have hq0 : (0 : Int) ≤ (q : Int) := by omega
      obtain ⟨ga, cc, y, e5, cy, ly⟩ := HI.out.2.1.get (i := q) (by rw [hN]; exact hlt)
      injection e5 with e5 el ec
      clear el
      subst e5 ec
      have f3 : wr.cell? ⟨ks, 3, none⟩ = some (.int .i64 (s.first : Int)) := (cell_of_row _ _ _ _ _ _ HI.out.1).trans rfl
      have wq : IntKind.i64.wrap ((s.first : Int) + (q : Int)) = (s.first : Int) + (q : Int) := by rw [IntKind.wrap_i64]; omega
      obtain ⟨fn, tmps, assign, body, hy, hR⟩ := HY.out.2.2.1 q #[.int .i64 ((s.first : Int) + (q : Int)), y] wr hlt HI.out.2.2 ⟨y, by rw [hN]; exact hlt, rfl, ly⟩
      obtain ⟨oy, cy2, ey⟩ := ly.sl
      subst ey
      clear ly
      gi_wp2
      refine ⟨fun h => (by cases h), hR.mono ?_⟩
      rintro e W3 (⟨rfl, hJ3, hk3⟩ | ⟨rfl, hJx3⟩)
      · have r3 := hk3.same ks _ _ hWk HI.out.1 (by decide)
        have l3 := HI.out.2.1.keep (hk3.stay (Nat.le_refl _) lb_ty)
        have HI3 := mkHid (And.intro r3 (And.intro l3 hJ3))
        clear r3 l3 hJ3 hk3
        gi_wp2
        go_roundw
        case rel => exact ⟨q + 1, by simp, by omega, HI3⟩
        case measure => simp only [intOf]; omega
      · gi_wp2
        refine bodyPost_ret (results_none rfl _ _ _) rfl ?_
        exact ⟨⟨_, rfl⟩, .inr hJx3⟩
    · have hlt2 : ¬ (q : Int) < (N : Int) := by omega
      obtain rfl : q = N := by omega
      gi_wp2
      go_end0
      exact ⟨⟨_, rfl⟩, .inl HI.out.2.2⟩
end Dev
end Go.Proofs.YtfimaflglnemdaaDoor

/- JournalEach: frames; Each's iterator over a journal. -/
namespace Go.Proofs.YtfimaflglnemdaaDoor
open Go.RowKit
open JM
set_option maxRecDepth 20000
namespace Dev
/-- All blocks stay but those of X. -/
structure Frm (X : Nat → Prop) (A B : World) : Prop where
  os : B.os = A.os
  tape : B.tape = A.tape
  output : B.output = A.output
  size : A.heap.size ≤ B.heap.size
  blk : ∀ k, k < A.heap.size → ¬ X k → B.heap[k]? = A.heap[k]?
theorem Frm.refl (X : Nat → Prop) (A : World) : Frm X A A := ⟨rfl, rfl, rfl, Nat.le_refl _, fun _ _ _ => rfl⟩
theorem Frm.trans {X : Nat → Prop} {A B C : World} (h : Frm X A B) (k : Frm X B C) : Frm X A C :=
  ⟨k.os.trans h.os, k.tape.trans h.tape, k.output.trans h.output, Nat.le_trans h.size k.size, fun i hi hx => (k.blk i (Nat.lt_of_lt_of_le hi h.size) hx).trans (h.blk i hi hx)⟩
theorem Frm.of_below {X : Nat → Prop} {A B : World} (h : Below A.heap.size A B) : Frm X A B := ⟨h.os, h.tape, h.output, h.size, fun k hk _ => h.block k hk⟩
/-- What changes lies beyond A. -/
theorem Frm.wide {X Y : Nat → Prop} {A B : World} (h : Frm Y A B) (hY : ∀ k, k < A.heap.size → Y k → X k) : Frm X A B := ⟨h.os, h.tape, h.output, h.size, fun k hk hx => h.blk k hk (fun hy => hx (hY k hk hy))⟩
theorem Frm.setC {X : Nat → Prop} {A B : World} (h : Frm X A B) {k i : Nat} (hk : X k) (u : Value) : Frm X A (B.setCell ⟨k, i, none⟩ u) :=
  ⟨h.os, h.tape, h.output, by simpa using h.size, fun q hq hx => (heap_setCell_other B ⟨k, i, none⟩ q u (fun e => hx (by rw [e]; exact hk))).trans (h.blk q hq hx)⟩
theorem Frm.row {X : Nat → Prop} {A B : World} (h : Frm X A B) {k : Nat} {o : Obj} (hk : A.heap[k]? = some o) (hx : ¬ X k) : B.heap[k]? = some o := (h.blk k (Array.getElem?_eq_some_iff.1 hk).1 hx).trans hk
theorem Frm.own {X : Nat → Prop} {A : World} {B' : Nat} (hB : A.heap.size ≤ B') {β : Type} : OwnFrom B' (fun (_ : β) W => Frm X A W) :=
  fun _ U V row hs hg hr => ⟨hg.os.trans hs.os, hg.tape.trans hs.tape, hg.output.trans hs.output, Nat.le_trans hs.size hg.size, fun k hk hx => (hg.block k (Nat.lt_of_lt_of_le hk hs.size) (fun e => by have := (hr k e.symm).1; omega)).trans (hs.blk k hk hx)⟩
theorem Frm.keeps {X : Nat → Prop} {A B : World} (h : Frm X A B) (hX : ∀ k, X k → ∃ C t, A.heap[k]? = some (.cells C t (0, 0))) (b : Nat) : KeepsFrom b A B :=
  ⟨h.size, fun k o _ hk ho => h.row hk (fun hx => by
    obtain ⟨C, t, q⟩ := hX k hx
    rw [hk] at q
    injection q with q
    rw [q] at ho
    cases ho)⟩
theorem Frm.kp {X : Nat → Prop} {A B : World} (h : Frm X A B) {b : Nat} (hX : ∀ k, X k → k < b) : KpB b A B := ⟨h.size, fun k _ _ hb hk _ => h.row hk (fun hx => by have := hX k hx; omega)⟩
theorem Frm.fre {X : Nat → Prop} {A B : World} (h : Frm X A B) (hX : ∀ k, X k → ∃ C t, A.heap[k]? = some (.cells C t (0, 0)) ∧ (t ≠ 120 ∧ t ≠ 93 ∧ t ≠ 90 ∧ t ≠ 101) ∧ ∀ m, C[0]? ≠ some (.int .u8 m)) : Fre A B :=
  ⟨h.size, fun g hg => by
    by_cases hx : X g
    · exact .inr (hX g hx)
    · exact .inl (h.blk g hg hx)⟩
theorem Frm.stay {X : Nat → Prop} {A B : World} (h : Frm X A B) {b : Nat} {T : Nat → Prop} (hX : ∀ k c t, X k → T t → A.heap[k]? ≠ some (.cells c t (0, 0))) : Stay b T A B := fun k c t _ ht hc => (h.row hc (fun hx => hX k c t hx ht hc)).trans hc.symm
/-- Where what changes lies beyond a world, that world stays. -/
theorem Frm.bel {X : Nat → Prop} {C A B : World} (h : Frm X A B) (hb : Below C.heap.size C A) (hX : ∀ k, X k → C.heap.size ≤ k) : Below C.heap.size C B :=
  ⟨h.os.trans hb.os, h.tape.trans hb.tape, h.output.trans hb.output, Nat.le_trans hb.size h.size, fun k hk => (h.blk k (Nat.lt_of_lt_of_le hk hb.size) (fun hx => by have := hX k hx; omega)).trans (hb.block k hk)⟩
/-- A row speaks of cells alone. -/
theorem row_own {β : Type} {B' k t : Nat} {c : β → Array Value} : OwnFrom B' (fun (s : β) W => W.heap[k]? = some (.cells (c s) t (0, 0))) := fun _ U V row hs hg hr =>
  (hg.block k (Array.getElem?_eq_some_iff.1 hs).1 (fun e => by
    obtain ⟨-, o, ho, hn⟩ := hr k e.symm
    rw [hs] at ho
    injection ho with ho
    subst ho
    cases hn)).trans hs
/-- Each's iterator over a journal. -/
theorem Js.iter [Inhabited HoleT] {lo j v lim live gen first nn : Nat} {w0 : World} {base : List (List Nat)} {bs : List (List (List Nat))} (h : Js lo w0 j v lim live gen first nn base bs) (n b : Nat) (hb : w0.cell? ⟨b, 0, none⟩ = some (.pointer (some ⟨j, 0, none⟩))) :
    Rg.Iter Fence.wide n Tryd.prog 43 #[.pointer (some ⟨b, 0, none⟩)] bs.length (Vb w0.heap.size first bs) (KpB w0.heap.size) w0 := by
  obtain ⟨x, h1, -, -, b0, b1, l0, l1, hr⟩ := h.files
  exact each_iter n b h1 h.tc b0 b1 l0 l1 hr (by have := h.f2; show first + bs.length ≤ _; omega) hb
/-- What Each answers. -/
theorem Each_any {j : Nat} (W : World) : Calls Tryd.prog 14 #[.pointer (some ⟨j, 0, none⟩)] W fun e w' => e = .returned (.func (.func 43) #[] #[.pointer (some ⟨W.heap.size, 0, none⟩)]) ∧ w' = W.alloc (.cells #[.pointer (some ⟨j, 0, none⟩)] 51) := by
  go_enter Tryd.func14, Tryd.ntmps14
  go_wp2_with fail
  go_ret
  exact ⟨rfl, rfl⟩
theorem vb_own {B first : Nat} {bt : List (List (List Nat))} {i : Nat} {x : Array Value} {B' : Nat} : OwnFrom B' (fun (_ : Unit) W => Vb B first bt i x W) := fun _ U V row hs hg hr => by
  obtain ⟨y, h, e, q⟩ := hs
  refine ⟨y, h, e, q.keep (fun k c t _ _ hc => hg.block k (Array.getElem?_eq_some_iff.1 hc).1 (fun e => ?_))⟩
  obtain ⟨-, o, ho, hn⟩ := hr k e.symm
  rw [hc] at ho
  injection ho with ho
  subst ho
  cases hn
end Dev
end Go.Proofs.YtfimaflglnemdaaDoor

/- JournalEach: what the last loops change. -/
namespace Go.Proofs.YtfimaflglnemdaaDoor
open Go.RowKit
open JM
set_option maxRecDepth 20000
namespace Dev
/-- All cells stay. -/
structure Cel (W W' : World) : Prop where
  size : W.heap.size ≤ W'.heap.size
  row : ∀ (g : Nat) (C : Array Value) (t : Nat) (fr : Nat × Nat), W.heap[g]? = some (.cells C t fr) → W'.heap[g]? = some (.cells C t fr)
theorem Cel.cell {W W' : World} (f : Cel W W') {a : Addr} {v : Value} (h : W.cell? a = some v) : W'.cell? a = some v := by
  have e := h
  unfold World.cell? at e
  split at e
  · rename_i c t fr q
    exact (World.cell?_of_block (w := W) ((f.row _ _ _ _ q).trans q.symm)).trans h
  · cases e
theorem Cel.of_grown {B : Nat} {W W' : World} {row : Option Nat} (hg : W.grownBy W' row) (hr : ∀ r, row = some r → B ≤ r ∧ ∃ o : Obj, W.heap[r]? = some o ∧ o.isCells = false) : Cel W W' :=
  ⟨hg.size, fun g C t fr hc => (hg.block g (Array.getElem?_eq_some_iff.1 hc).1 (fun e => by
    obtain ⟨-, o, ho, hn⟩ := hr g e.symm
    rw [hc] at ho
    injection ho with ho
    subst ho
    cases hn)).trans hc⟩
theorem Ch.cel {Q Q' : Nat → Prop} {W W' : World} (f : Cel W W') (hq : ∀ j, Q j → Q' j) {p : Option Addr} {d : List Nat} (h : Ch Q W p d) : Ch Q' W' p d := by
  induction h with
  | nil => exact .nil
  | cons g b cap k ah pre D h1 h2 h3 h4 h5 h6 h7 h8 h9 _ ih => exact .cons g b cap k ah pre D (hq g h1) (hq b h2) (f.row _ _ _ _ h3) h4 h5 (fun j u hu => f.cell (h6 j u hu)) h7 h8 h9 ih
theorem Dv.cel [Inhabited HoleT] {lo v : Nat} {W W' : World} {lv : Value} {f : Array Value} {ms : List (Array Value)} {sp : List Sp} (h : Dv lo W v lv f ms sp) (hf : Cel W W') : Dv lo W' v lv f ms sp := by
  refine ⟨hf.row _ _ _ _ h.row, ?_, h.len, fun i m s h1 h2 => ?_, h.lov, Nat.le_trans h.hb hf.size⟩
  · obtain ⟨h0, h1⟩ := h.own
    refine ⟨h0, ?_⟩
    rcases h1 with h1 | ⟨g, cap, cur, rfl, hB, hg, hr⟩
    · exact .inl h1
    · exact .inr ⟨g, cap, cur, rfl, hB, hf.row _ _ _ _ hg, hr⟩
  · obtain ⟨p0, p1, e, ⟨q0, a1, a2, a3⟩, ⟨q1, b1, b2, b3⟩⟩ := h.each i m s h1 h2
    have hq : ∀ g, Qd lo W v lv g → Qd lo W' v lv g := fun g q => ⟨q.1, Nat.lt_of_lt_of_le q.2.1 hf.size, q.2.2⟩
    exact ⟨p0, p1, e, ⟨q0, a1, a2.cel hf hq, a3⟩, ⟨q1, b1, b2.cel hf hq, b3⟩⟩
theorem Js.cel [Inhabited HoleT] {lo j v lim live gen first n : Nat} {W W' : World} {base : List (List Nat)} {bs : List (List (List Nat))} (h : Js lo W j v lim live gen first n base bs) (hf : Cel W W') : Js lo W' j v lim live gen first n base bs := by
  obtain ⟨x, h1, h2, h3⟩ := h.jn
  obtain ⟨lv, f, ms, sp, k1, k2, k3⟩ := h1.dv
  exact ⟨⟨x, ⟨⟨lv, f, ms, sp, k1.cel hf, k2, k3⟩, hf.row _ _ _ _ h1.row, h1.hole, Nat.le_trans h1.hlo hf.size, h1.loj, h1.big, h1.live1⟩, h2, h3⟩, h.gb, h.gs, h.g1, h.g2, h.f1, h.f2, h.fit, h.lim1, h.lv1, ⟨Nat.lt_of_lt_of_le h.tc.sz hf.size, fun j hj => hf.cell (h.tc.t j hj)⟩, h.c0, h.big⟩
theorem Js.own [Inhabited HoleT] {lo j v lim live gen first B' : Nat} {base : List (List Nat)} {β : Type} {nn : β → Nat} {cb : β → List (List (List Nat))} : OwnFrom B' (fun (i : β) W => Js lo W j v lim live gen first (nn i) base (cb i)) :=
  fun _ _ _ _ hs hg hr => hs.cel (Cel.of_grown hg hr)
/-- All stays but the journal, its device and the row kq. -/
structure Fx (lo kq : Nat) (A B : World) : Prop where
  os : B.os = A.os
  tape : B.tape = A.tape
  output : B.output = A.output
  size : A.heap.size ≤ B.heap.size
  low : ∀ k : Nat, k < lo → k < A.heap.size → B.heap[k]? = A.heap[k]?
  oth : ∀ (k : Nat) (c : Array Value) (t : Nat), k ≠ kq → A.heap[k]? = some (.cells c t (0, 0)) → t ≠ 93 → t ≠ 90 → t ≠ 101 → B.heap[k]? = some (.cells c t (0, 0))
  nc : ∀ (k : Nat) (o : Obj), A.heap[k]? = some o → (∀ c t, o ≠ .cells c t (0, 0)) → B.heap[k]? = some o
theorem Fx.refl (lo kq : Nat) (A : World) : Fx lo kq A A := ⟨rfl, rfl, rfl, Nat.le_refl _, fun _ _ _ => rfl, fun _ _ _ _ h _ _ _ => h, fun _ _ h _ => h⟩
theorem Fx.fo {lo kq : Nat} {A B C : World} (h : Fx lo kq A B) (f : Fo lo B C) : Fx lo kq A C :=
  ⟨f.os.trans h.os, f.tape.trans h.tape, f.output.trans h.output, Nat.le_trans h.size f.size, fun k hk h2 => (f.low k hk (Nat.lt_of_lt_of_le h2 h.size)).trans (h.low k hk h2), fun k c t hn hc t1 t2 t3 => f.row (h.oth k c t hn hc t1 t2 t3) t1 t2 t3, fun k o hk ho => f.nc k o (h.nc k o hk ho) ho⟩
theorem Fx.setC {lo kq i t : Nat} {A B : World} {c : Array Value} (h : Fx lo kq A B) (hl : lo ≤ kq) (hc : A.heap[kq]? = some (.cells c t (0, 0))) (u : Value) : Fx lo kq A (B.setCell ⟨kq, i, none⟩ u) :=
  ⟨h.os, h.tape, h.output, by simpa using h.size, fun k hk h2 => (heap_setCell_other B ⟨kq, i, none⟩ k u (show k ≠ kq by omega)).trans (h.low k hk h2), fun k c t hn hk t1 t2 t3 => (heap_setCell_other B ⟨kq, i, none⟩ k u hn).trans (h.oth k c t hn hk t1 t2 t3), fun k o hk ho => (heap_setCell_other B ⟨kq, i, none⟩ k u (fun e => by
    have e : k = kq := e
    subst e
    rw [hc] at hk
    injection hk with hk
    exact ho _ _ hk.symm)).trans (h.nc k o hk ho)⟩
theorem Fx.own {lo kq B' : Nat} {A : World} (hB : A.heap.size ≤ B') {β : Type} : OwnFrom B' (fun (_ : β) W => Fx lo kq A W) := fun _ U V row hs hg hr => by
  have g : ∀ k, k < A.heap.size → V.heap[k]? = U.heap[k]? := fun k hk => hg.block k (Nat.lt_of_lt_of_le hk hs.size) (fun e => by have := (hr k e.symm).1; omega)
  exact ⟨hg.os.trans hs.os, hg.tape.trans hs.tape, hg.output.trans hs.output, Nat.le_trans hs.size hg.size, fun k hk h2 => (g k h2).trans (hs.low k hk h2), fun k c t hn hc t1 t2 t3 => (g k (Array.getElem?_eq_some_iff.1 hc).1).trans (hs.oth k c t hn hc t1 t2 t3), fun k o hk ho => (g k (Array.getElem?_eq_some_iff.1 hk).1).trans (hs.nc k o hk ho)⟩
theorem Fx.keeps {lo kq : Nat} {A B : World} (h : Fx lo kq A B) (b : Nat) : KeepsFrom b A B := ⟨h.size, fun k o _ hk ho => h.nc k o hk (fun c t e => by rw [e] at ho; cases ho)⟩
theorem Fx.kp {lo kq b : Nat} {A B : World} (h : Fx lo kq A B) (hb : kq < b) : KpB b A B := ⟨h.size, fun k c t hk hc ht => h.oth k c t (by omega) hc ht.1 ht.2.1 ht.2.2⟩
theorem Fx.of_below {lo kq : Nat} {A B : World} (h : Below A.heap.size A B) : Fx lo kq A B := (Fx.refl lo kq A).fo (Fo.of_below h)
theorem Fx.trans {lo kq : Nat} {A B C : World} (h : Fx lo kq A B) (f : Fx lo kq B C) : Fx lo kq A C :=
  ⟨f.os.trans h.os, f.tape.trans h.tape, f.output.trans h.output, Nat.le_trans h.size f.size, fun k hk h2 => (f.low k hk (Nat.lt_of_lt_of_le h2 h.size)).trans (h.low k hk h2), fun k c t hn hc t1 t2 t3 => f.oth k c t hn (h.oth k c t hn hc t1 t2 t3) t1 t2 t3, fun k o hk ho => f.nc k o (h.nc k o hk ho) ho⟩
/-- How often the device has been asked, and what the journal holds, behind i rounds of the loop that commits in its first. -/
def nC : Nat → Nat
  | 0 => 0
  | _ + 1 => 2
def bC (b : List (List (List Nat))) : Nat → List (List (List Nat))
  | 0 => b
  | _ + 1 => b ++ [[[1, 2]]]
theorem nC_pos {i : Nat} (h : ¬ i = 0) : nC i = 2 := by
  cases i with
  | zero => exact absurd rfl h
  | succ i => rfl
theorem bC_pos {b : List (List (List Nat))} {i : Nat} (h : ¬ i = 0) : bC b i = b ++ [[[1, 2]]] := by
  cases i with
  | zero => exact absurd rfl h
  | succ i => rfl
/-- A number of the law is written over. -/
theorem Js.setI [Inhabited HoleT] {lo j v lim live gen first n k : Nat} {W : World} {base : List (List Nat)} {bs : List (List (List Nat))} {x : Int} (h : Js lo W j v lim live gen first n base bs) (hk : W.heap[k]? = some (.cells #[.int .i64 x] 3 (0, 0))) (hl : lo ≤ k) (u : Value) : Js lo (W.setCell ⟨k, 0, none⟩ u) j v lim live gen first n base bs := by
  rw [setCell_eq_setRow W k 0 _ _ _ _ hk]
  exact h.free (Fre.setRow hk (by decide) (by intro m hm; simp at hm) _) (h.tc.keep (by rw [size_setRow]; exact Nat.le_refl _) (setRow_other _ _ _ _ (by have := h.c0; omega)))
/-- What the law's last statement reads. -/
abbrev S47 (kq kN kl kJ a1 n n1 first j : Nat) (w : World) : Prop := w.cell? ⟨kq, 0, none⟩ = some (.int .i64 (n : Int)) ∧ w.cell? ⟨kN, 0, none⟩ = some (.int .i64 (n : Int)) ∧ w.cell? ⟨kl, 0, none⟩ = some (.int .i64 (n1 : Int)) ∧ w.cell? ⟨kJ, 0, none⟩ = some (.pointer (some ⟨j, 0, none⟩)) ∧ w.cell? ⟨a1, 3, none⟩ = some (.int .i64 (first : Int))
/-- The batch of one list, 1 2. -/
theorem ll12 (W : World) : Ll W.heap.size ((W.alloc (.cells #[.int .u8 1, .int .u8 2] 5)).alloc (.cells #[.slice (some ⟨W.heap.size, 0, none⟩) 2 2] 23)) (.slice (some ⟨W.heap.size + 1, 0, none⟩) 1 1) [[1, 2]] := by
  have h1 : Ob W.heap.size (W.alloc (.cells #[.int .u8 1, .int .u8 2] 5)) (.slice (some ⟨W.heap.size, 0, none⟩) 2 2) [1, 2] := Ob.of_new W [1, 2] (by intro x hx; simp at hx; omega) (by decide)
  have h2 := h1.keep (w' := (W.alloc (.cells #[.int .u8 1, .int .u8 2] 5)).alloc (.cells #[.slice (some ⟨W.heap.size, 0, none⟩) 2 2] 23)) (fun k c _ hc => heap_alloc_old _ _ (h := (Array.getElem?_eq_some_iff.1 hc).1))
  refine ⟨[.slice (some ⟨W.heap.size, 0, none⟩) 2 2], ⟨rfl, .inr ⟨W.heap.size + 1, 1, _, rfl, Nat.le_succ _, row2n _ _ _, Nat.le_refl _, by unfold maxLen; omega, rfl, rfl⟩⟩, fun i l h => ?_⟩
  cases i with
  | zero =>
    simp at h
    subst h
    exact ⟨_, rfl, h2⟩
  | succ i => simp at h
end Dev
end Go.Proofs.YtfimaflglnemdaaDoor
