/- Several texts in one: Pr1, Pr3, Sc7, Rd5, Pr4, Pr5, Sc8, Pr6, Sc9, Pr2, Pr7. -/
import Derived.Test.YtceaklefdahfkabRdj
import Derived.Test.YtceaklefdahfkabSc6
/- SieveStreams: a rewriter of the code's and one of the document's beside one another. -/
namespace Go.Proofs.Ytceaklefdahfkab
open Go.RowKit
/-- An answer of Feed or Close. -/
def An (a : Int × Int × List Nat) (e : Ending) (w' : World) (o : Option Addr) (n c : Nat) : Prop := e = .returned (.tuple #[.slice o n c, .int .i64 a.1, .int .i64 a.2.1]) ∧ Si .u8 (.slice o n c) a.2.2 w'
/-- Two rewriters (or none): what both answer, and which blocks that hangs on. -/
structure Prs (K La Bb : Nat) (c d : Option Addr) (S : Type) (CI : S → World → Prop) (DI : S → (Nat → Prop) → World → Prop) (C : Nat → Prop) (FA : S → List Nat → (Int × Int × List Nat) × S) (CA : S → (Int × Int × List Nat) × S) (NA HA SZ : S → Nat) : Prop where
  own : ∀ j, C j → La ≤ j ∧ j < Bb
  din : ∀ s D W, DI s D W → ∀ j, D j → La ≤ j ∧ j < W.heap.size ∧ ¬ C j
  kc : ∀ s W W', CI s W → W.heap.size ≤ W'.heap.size → (∀ j, j < W.heap.size → (j < K ∨ (La ≤ j ∧ j < Bb)) → W'.heap[j]? = W.heap[j]?) → CI s W'
  kd : ∀ s D W W', DI s D W → W.heap.size ≤ W'.heap.size → (∀ j, j < W.heap.size → (j < K ∨ (La ≤ j ∧ j < Bb) ∨ D j) → W'.heap[j]? = W.heap[j]?) → DI s D W'
  kcd : ∀ s s' D W W', CI s W → DI s' D W → Bt D W W' → CI s W'
  kdc : ∀ s D W W', DI s D W → Bt C W W' → DI s D W'
  szF : ∀ s p, SZ (FA s p).2 ≤ SZ s + p.length
  szC : ∀ s, SZ (CA s).2 ≤ SZ s
  fc : ∀ s p pv W, CI s W → Byt p → p.length ≤ 16777216 → SZ s ≤ 1125899906842624 → Si .u8 pv p W → (∀ j, pv.ownBlock = some j → ¬ C j) → Calls Try.prog 22 #[.pointer c, pv] W fun e w' => ∃ o n cp, An (FA s p).1 e w' o n cp ∧ Wb W.heap.size o n w' ∧ CI (FA s p).2 w' ∧ Bt C W w'
  fr : ∀ s D p pv W, DI s D W → Byt p → p.length ≤ 16777216 → SZ s ≤ 1125899906842624 → Si .u8 pv p W → (∀ j, pv.ownBlock = some j → ¬ D j) → Calls Try.prog 67 #[.pointer d, pv] W fun e w' => ∃ o n cp D', An (FA s p).1 e w' o n cp ∧ DI (FA s p).2 D' w' ∧ (∀ j, D' j → D j ∨ W.heap.size ≤ j) ∧ Bt D W w'
  cc : ∀ s W, CI s W → Calls Try.prog 23 #[.pointer c] W fun e w' => ∃ o n cp, An (CA s).1 e w' o n cp ∧ (∀ j, (Value.slice o n cp).ownBlock = some j → W.heap.size ≤ j) ∧ CI (CA s).2 w' ∧ Bt C W w'
  cr : ∀ s D W, DI s D W → Calls Try.prog 70 #[.pointer d] W fun e w' => ∃ o n cp D', An (CA s).1 e w' o n cp ∧ DI (CA s).2 D' w' ∧ (∀ j, D' j → D j ∨ W.heap.size ≤ j) ∧ Bt D W w'
  ac : ∀ s W, CI s W → Calls Try.prog 60 #[.pointer c] W fun e w' => e = .returned (.int .i64 (NA s : Int)) ∧ w' = W
  ar : ∀ s D W, DI s D W → Calls Try.prog 68 #[.pointer d] W fun e w' => e = .returned (.int .i64 (NA s : Int)) ∧ w' = W
  hc : ∀ s W, CI s W → Calls Try.prog 58 #[.pointer c] W fun e w' => e = .returned (.int .i64 (HA s : Int)) ∧ w' = W
  hr : ∀ s D W, DI s D W → Calls Try.prog 69 #[.pointer d] W fun e w' => e = .returned (.int .i64 (HA s : Int)) ∧ w' = W
theorem atD_nil (w : World) : Calls Try.prog 68 #[.pointer none] w fun e w' => e = .returned (.int .i64 0) ∧ w' = w := by
  go_enter Try.func68, Try.ntmps68
  go_wp2
  go_ret
  exact ⟨rfl, rfl⟩
theorem heldD_nil (w : World) : Calls Try.prog 69 #[.pointer none] w fun e w' => e = .returned (.int .i64 0) ∧ w' = w := by
  go_enter Try.func69, Try.ntmps69
  go_wp2
  go_ret
  exact ⟨rfl, rfl⟩
theorem atD_any (gd n : Nat) (w : World) (c : w.cell? ⟨gd, 2, none⟩ = some (.int .i64 (n : Int))) : Calls Try.prog 68 #[.pointer (some ⟨gd, 0, none⟩)] w fun e w' => e = .returned (.int .i64 (n : Int)) ∧ w' = w := by
  go_enter Try.func68, Try.ntmps68
  go_wp2
  go_ret
  exact ⟨rfl, rfl⟩
theorem heldD_any (gd : Nat) (h : Int) (w : World) (c : w.cell? ⟨gd, 6, none⟩ = some (.int .i64 h)) : Calls Try.prog 69 #[.pointer (some ⟨gd, 0, none⟩)] w fun e w' => e = .returned (.int .i64 h) ∧ w' = w := by
  go_enter Try.func69, Try.ntmps69
  go_wp2
  go_ret
  exact ⟨rfl, rfl⟩
set_option maxRecDepth 100000 in
theorem feedW_done (gd g : Nat) (lv : Value) (n : Nat) (tv xv pv : Value) (pr hd : Int) (dn bd : Bool) (hb : (dn || bd) = true) (w : World) (h : Rdw gd g lv n tv xv pr hd dn bd w) : Calls Try.prog 67 #[.pointer (some ⟨gd, 0, none⟩), pv] w fun e w' => e = .returned (.tuple #[.slice none 0 0, .int .i64 6, .int .i64 0]) ∧ w' = w := by
  have c7 : w.cell? ⟨gd, 7, none⟩ = some (.bool dn) := (cell_of_row w gd 7 _ _ _ h).trans rfl
  have c8 : w.cell? ⟨gd, 8, none⟩ = some (.bool bd) := (cell_of_row w gd 8 _ _ _ h).trans rfl
  clear h
  cases dn
  · cases bd
    · cases hb
    · go_enter Try.func67, Try.ntmps67
      go_wp2
      go_ret3
      exact ⟨rfl, rfl⟩
  · go_enter Try.func67, Try.ntmps67
    go_wp2
    go_ret3
    exact ⟨rfl, rfl⟩
set_option maxRecDepth 100000 in
theorem closeW_done (gd g : Nat) (lv : Value) (n : Nat) (tv xv : Value) (pr hd : Int) (dn bd : Bool) (hb : (dn || bd) = true) (w : World) (h : Rdw gd g lv n tv xv pr hd dn bd w) : Calls Try.prog 70 #[.pointer (some ⟨gd, 0, none⟩)] w fun e w' => e = .returned (.tuple #[.slice none 0 0, .int .i64 6, .int .i64 0]) ∧ w' = w := by
  have c7 : w.cell? ⟨gd, 7, none⟩ = some (.bool dn) := (cell_of_row w gd 7 _ _ _ h).trans rfl
  have c8 : w.cell? ⟨gd, 8, none⟩ = some (.bool bd) := (cell_of_row w gd 8 _ _ _ h).trans rfl
  clear h
  cases dn
  · cases bd
    · cases hb
    · go_enter Try.func70, Try.ntmps70
      go_wp2
      go_ret3
      exact ⟨rfl, rfl⟩
  · go_enter Try.func70, Try.ntmps70
    go_wp2
    go_ret3
    exact ⟨rfl, rfl⟩
set_option maxRecDepth 100000 in
theorem closeD_st (gd g : Nat) (lv : Value) (n : Nat) (tv : Value) (ox : Option Addr) (lx cx : Nat) (pr hd : Int) (w : World) (h : Rdw gd g lv n tv (.slice ox lx cx) pr hd false false w) :
    Calls Try.prog 70 #[.pointer (some ⟨gd, 0, none⟩)] w fun e w' => e = .returned (.tuple #[.slice ox lx cx, .int .i64 0, .int .i64 0]) ∧ Rdw gd g lv n tv (.slice none 0 0) pr 0 true false w' ∧ Bt (fun j => j = gd) w w' := by
  have c7 : w.cell? ⟨gd, 7, none⟩ = some (.bool false) := (cell_of_row w gd 7 _ _ _ h).trans rfl
  have c8 : w.cell? ⟨gd, 8, none⟩ = some (.bool false) := (cell_of_row w gd 8 _ _ _ h).trans rfl
  have f7 : w.frozen? ⟨gd, 7, none⟩ = false := frozen_of_row w _ _ _ _ h
  obtain ⟨W1, hW1⟩ : ∃ W1, w.setCell ⟨gd, 7, none⟩ (.bool true) = W1 := ⟨_, rfl⟩
  have h1 : Rdw gd g lv n tv (.slice ox lx cx) pr hd true false W1 := by rw [← hW1]; exact (heap_setCell_same _ _ _ _ _ _ h).trans rfl
  have c6 : W1.cell? ⟨gd, 6, none⟩ = some (.int .i64 hd) := (cell_of_row W1 gd 6 _ _ _ h1).trans rfl
  have f6 : W1.frozen? ⟨gd, 6, none⟩ = false := frozen_of_row W1 _ _ _ _ h1
  obtain ⟨W2, hW2⟩ : ∃ W2, W1.setCell ⟨gd, 6, none⟩ (.int .i64 0) = W2 := ⟨_, rfl⟩
  have h2 : Rdw gd g lv n tv (.slice ox lx cx) pr 0 true false W2 := by rw [← hW2]; exact (heap_setCell_same _ _ _ _ _ _ h1).trans rfl
  have c4 : W2.cell? ⟨gd, 4, none⟩ = some (.slice ox lx cx) := (cell_of_row W2 gd 4 _ _ _ h2).trans rfl
  have f4 : W2.frozen? ⟨gd, 4, none⟩ = false := frozen_of_row W2 _ _ _ _ h2
  have HB : Hid (Rdw gd g lv n tv (.slice none 0 0) pr 0 true false (W2.setCell ⟨gd, 4, none⟩ (.slice none 0 0)) ∧ Bt (fun j => j = gd) w (W2.setCell ⟨gd, 4, none⟩ (.slice none 0 0))) := by
    refine ⟨(heap_setCell_same _ _ _ _ _ _ h2).trans rfl, ?_⟩
    rw [← hW2, ← hW1]
    refine ⟨rfl, rfl, rfl, by simp [World.setCell], fun j hj hn => ?_⟩
    rw [heap_setCell_other _ _ _ _ hn, heap_setCell_other _ _ _ _ hn, heap_setCell_other _ _ _ _ hn]
  clear h h1 h2
  go_enter Try.func70, Try.ntmps70
  go_wp2
  go_ret3
  exact ⟨rfl, HB.out⟩
/-- None. -/
theorem prs_nil (K La Bb : Nat) : Prs K La Bb none none Unit (fun _ _ => True) (fun _ D _ => D = fun _ => False) (fun _ => False) (fun _ _ => ((0, 0, []), ())) (fun _ => ((0, 0, []), ())) (fun _ => 0) (fun _ => 0) (fun _ => 0) where
  own := fun j h => h.elim
  din := fun s D W h j hj => by rw [h] at hj; exact hj.elim
  kc := fun _ _ _ _ _ _ => trivial
  kd := fun _ _ _ _ h _ _ => h
  kcd := fun _ _ _ _ _ _ _ _ => trivial
  kdc := fun _ _ _ _ h _ => h
  szF := fun _ _ => Nat.zero_le _
  szC := fun _ => Nat.le_refl _
  fc := fun s p pv W _ _ _ _ _ _ => (rfeed_nil pv W).mono (by rintro e w' ⟨rfl, rfl⟩; exact ⟨none, 0, 0, ⟨rfl, .inl ⟨rfl, rfl⟩⟩, .inl rfl, trivial, Bt.refl _ _⟩)
  fr := fun s D p pv W h _ _ _ _ _ => (feedW_nil pv W).mono (by rintro e w' ⟨rfl, rfl⟩; exact ⟨none, 0, 0, D, ⟨rfl, .inl ⟨rfl, rfl⟩⟩, h, fun j hj => .inl hj, Bt.refl _ _⟩)
  cc := fun s W _ => (rclose_nil W).mono (by rintro e w' ⟨rfl, rfl⟩; exact ⟨none, 0, 0, ⟨rfl, .inl ⟨rfl, rfl⟩⟩, (fun j hj => by cases hj), trivial, Bt.refl _ _⟩)
  cr := fun s D W h => (closeW_nil W).mono (by rintro e w' ⟨rfl, rfl⟩; exact ⟨none, 0, 0, D, ⟨rfl, .inl ⟨rfl, rfl⟩⟩, h, fun j hj => .inl hj, Bt.refl _ _⟩)
  ac := fun _ W _ => rat_nil W
  ar := fun _ _ W _ => atD_nil W
  hc := fun _ W _ => rheld_nil W
  hr := fun _ _ W _ => heldD_nil W
/-- What is fixed while two rewriters are fed. -/
def Fx (K La gr gd : Nat) (w0 W : World) : Prop := w0.heap.size ≤ W.heap.size ∧ ∀ j, j < w0.heap.size → (j < K ∨ La ≤ j) → j ≠ gr → j ≠ gd → W.heap[j]? = w0.heap[j]?
/-- What the bytes taken decide. -/
structure Sp where
  ok : List Nat → Prop
  er : List Nat → List Nat → Option Int
  out : List Nat → List Nat → List Nat
  hd : List Nat → Nat
  xt : List Nat → List Nat
  ln : List Nat → List Nat
  pr : List Nat → Int
abbrev Ss := List Nat ⊕ (Nat × Nat)
def Sp.fa (q : Sp) : Ss → List Nat → (Int × Int × List Nat) × Ss
  | .inl y, p => match q.er y p with
    | some a => ((52, a, []), .inr (y.length, q.hd y))
    | none => ((0, 0, q.out y p), .inl (y ++ p))
  | .inr s, _ => ((6, 0, []), .inr s)
def Sp.ca (q : Sp) : Ss → (Int × Int × List Nat) × Ss
  | .inl y => ((0, 0, q.xt y), .inr (y.length, 0))
  | .inr s => ((6, 0, []), .inr s)
def Sp.na : Ss → Nat
  | .inl y => y.length
  | .inr s => s.1
def Sp.ha (q : Sp) : Ss → Nat
  | .inl y => q.hd y
  | .inr s => s.2
def Sp.sz : Ss → Nat
  | .inl y => y.length
  | .inr _ => 0
/-- The code's, as it lies. -/
def Sp.ci (q : Sp) (K La gr gd : Nat) (w0 : World) (Cst : List Nat → World → Prop) (s : Ss) (W : World) : Prop := Fx K La gr gd w0 W ∧ match s with
  | .inl y => q.ok y ∧ Cst y W
  | .inr s => Rwd gr s.1 s.2 W
/-- The document's, as it lies. -/
def Sp.di (q : Sp) (K La gr gd g : Nat) (w0 : World) (tv : Value) (s : Ss) (D : Nat → Prop) (W : World) : Prop := Fx K La gr gd w0 W ∧ match s with
  | .inl y => q.ok y ∧ ∃ lv xv Bx, Rdw gd g lv y.length tv xv (q.pr y) (q.hd y : Int) false false W ∧ Si .u8 lv (q.ln y) W ∧ W.ownsRow Bx 5 1 xv (q.hd y) (ik .u8 (q.xt y)).toList ∧ Bx ≤ W.heap.size ∧ (∀ j, xv.ownBlock = some j ∨ lv.ownBlock = some j → w0.heap.size ≤ j ∧ j < W.heap.size) ∧ D = fun j => j = gd ∨ xv.ownBlock = some j ∨ lv.ownBlock = some j
  | .inr s => (∃ lv xv pr dn bd, Rdw gd g lv s.1 tv xv pr (s.2 : Int) dn bd W ∧ (dn || bd) = true) ∧ D = fun j => j = gd
theorem Fx.step {K La gr gd : Nat} {w0 W W' : World} (h : Fx K La gr gd w0 W) (hs : W.heap.size ≤ W'.heap.size) (hb : ∀ j, j < w0.heap.size → (j < K ∨ La ≤ j) → j ≠ gr → j ≠ gd → W'.heap[j]? = W.heap[j]?) : Fx K La gr gd w0 W' := ⟨Nat.le_trans h.1 hs, fun j a b c d => (hb j a b c d).trans (h.2 j a b c d)⟩
theorem Bt.bur {g : Nat} {w w' : World} (h : Bur g w w') : Bt (fun j => j = g) w w' := ⟨h.os, h.tape, h.output, h.size, fun j hj hn => h.block j hj hn⟩
theorem Bt.mono {Z Z' : Nat → Prop} {w w' : World} (h : Bt Z w w') (hz : ∀ j, Z j → Z' j) : Bt Z' w w' := ⟨h.os, h.tape, h.output, h.size, fun j hj hn => h.block j hj fun e => hn (hz j e)⟩
theorem prs_mk (q : Sp) (K La gr gd g : Nat) (w0 : World) (tv : Value) (Cst : List Nat → World → Prop) (hgr : La ≤ gr ∧ gr < w0.heap.size) (hgd : La ≤ gd ∧ gd < w0.heap.size) (hne : gr ≠ gd)
    (hok : ∀ y p, q.ok y → Byt p → q.er y p = none → q.ok (y ++ p)) (hxl : ∀ y, q.ok y → (q.xt y).length = q.hd y)
    (hck : ∀ y W W', Cst y W → W'.heap[gr]? = W.heap[gr]? → Cst y W')
    (hca : ∀ y W, Cst y W → W.cell? ⟨gr, 2, none⟩ = some (.int .i64 (y.length : Int)) ∧ W.cell? ⟨gr, 3, none⟩ = some (.int .i64 (q.hd y : Int)))
    (hfc : ∀ y p pv W, q.ok y → Fx K La gr gd w0 W → Cst y W → Byt p → p.length ≤ 16777216 → y.length ≤ 1125899906842624 → Si .u8 pv p W → pv.ownBlock ≠ some gr → Calls Try.prog 22 #[.pointer (some ⟨gr, 0, none⟩), pv] W fun e w' => Bur gr W w' ∧
      ((∃ a, q.er y p = some a ∧ e = .returned (.tuple #[.slice none 0 0, .int .i64 52, .int .i64 a]) ∧ Rwd gr y.length (q.hd y) w') ∨ (q.er y p = none ∧ ∃ o k, e = .returned (.tuple #[.slice o k k, .int .i64 0, .int .i64 0]) ∧ Si .u8 (.slice o k k) (q.out y p) w' ∧ Wb W.heap.size o k w' ∧ Cst (y ++ p) w')))
    (hcc : ∀ y W, q.ok y → Cst y W → Calls Try.prog 23 #[.pointer (some ⟨gr, 0, none⟩)] W fun e w' => Bur gr W w' ∧ Rwd gr y.length 0 w' ∧ ∃ o n c, e = .returned (.tuple #[.slice o n c, .int .i64 0, .int .i64 0]) ∧ Si .u8 (.slice o n c) (q.xt y) w' ∧ ∀ j, (Value.slice o n c).ownBlock = some j → W.heap.size ≤ j)
    (hfd : ∀ y p pv lv xv Bx W, q.ok y → Fx K La gr gd w0 W → Rdw gd g lv y.length tv xv (q.pr y) (q.hd y : Int) false false W → Si .u8 lv (q.ln y) W → W.ownsRow Bx 5 1 xv (q.hd y) (ik .u8 (q.xt y)).toList → Bx ≤ W.heap.size → (∀ j, xv.ownBlock = some j → w0.heap.size ≤ j) → Byt p → p.length ≤ 16777216 → y.length ≤ 1125899906842624 → Si .u8 pv p W → (∀ j, pv.ownBlock = some j → j ≠ gd) → Calls Try.prog 67 #[.pointer (some ⟨gd, 0, none⟩), pv] W fun e w' =>
      (∃ a, q.er y p = some a ∧ e = .returned (.tuple #[.slice none 0 0, .int .i64 52, .int .i64 a]) ∧ Rdw gd g lv y.length tv xv (q.pr y) (q.hd y : Int) false true w' ∧ Bt (fun j => j = gd) W w') ∨
      (q.er y p = none ∧ ∃ v lvv ox lx cx, e = .returned (.tuple #[v, .int .i64 0, .int .i64 0]) ∧ w'.ownsRow W.heap.size 5 1 v (q.out y p).length (ik .u8 (q.out y p)).toList ∧ Rdw gd g lvv (y ++ p).length tv (.slice ox lx cx) (q.pr (y ++ p)) (q.hd (y ++ p) : Int) false false w' ∧ w'.ownsRow W.heap.size 5 1 (.slice ox lx cx) (q.hd (y ++ p)) (ik .u8 (q.xt (y ++ p))).toList ∧ Si .u8 lvv (q.ln (y ++ p)) w' ∧ (∀ k, lvv.ownBlock = some k → W.heap.size ≤ k) ∧ Bt (fun j => j = gd ∨ xv.ownBlock = some j) W w')) :
    Prs K La w0.heap.size (some ⟨gr, 0, none⟩) (some ⟨gd, 0, none⟩) Ss (q.ci K La gr gd w0 Cst) (q.di K La gr gd g w0 tv) (fun j => j = gr) q.fa q.ca Sp.na q.ha Sp.sz where
  own := fun j hj => by subst hj; exact hgr
  din := fun s D W h j hj => by
    have hz := h.1.1
    cases s with
    | inl y =>
      obtain ⟨_, _, lv, xv, Bx, h1, h2, h3, h4, h5, rfl⟩ := h
      rcases hj with rfl | hj
      · exact ⟨hgd.1, by omega, fun e => hne e.symm⟩
      · have := h5 j hj
        exact ⟨by omega, this.2, fun e => by omega⟩
    | inr t =>
      obtain ⟨_, _, rfl⟩ := h
      have e : j = gd := hj
      exact ⟨by omega, by omega, fun e2 => by omega⟩
  kc := fun s W W' h hs hb => by
    have hz := h.1.1
    refine ⟨h.1.step hs fun j a b _ _ => hb j (by omega) (b.imp_right fun b => ⟨b, a⟩), ?_⟩
    have hg := hb gr (by omega) (.inr hgr)
    cases s with
    | inl y => exact ⟨h.2.1, hck _ _ _ h.2.2 hg⟩
    | inr t => exact hg.trans h.2
  kd := fun s D W W' h hs hb => by
    have hz := h.1.1
    have hF := h.1.step hs fun j a b _ _ => hb j (by omega) (by rcases b with b | b; exact .inl b; exact .inr (.inl ⟨b, a⟩))
    have hg := hb gd (by omega) (.inr (.inl hgd))
    cases s with
    | inl y =>
      obtain ⟨_, h0, lv, xv, Bx, h1, h2, h3, h4, h5, rfl⟩ := h
      exact ⟨hF, h0, lv, xv, Bx, hg.trans h1, h2.keep hs fun j hj hz => hb j hz (.inr (.inr (.inr (.inr hj)))), own_keep2 h3 fun j hj => hb j (h3.lt j hj).2 (.inr (.inr (.inr (.inl hj)))), Nat.le_trans h4 hs, fun j hj => ⟨(h5 j hj).1, Nat.lt_of_lt_of_le (h5 j hj).2 hs⟩, rfl⟩
    | inr t =>
      obtain ⟨_, ⟨lv, xv, pr, dn, bd, h1, h2⟩, h3⟩ := h
      exact ⟨hF, ⟨lv, xv, pr, dn, bd, hg.trans h1, h2⟩, h3⟩
  kcd := fun s s' D W W' h hd hb => by
    have hz := h.1.1
    have hDj : ∀ j, D j → j = gd ∨ w0.heap.size ≤ j := fun j hj => by
      cases s' with
      | inl y =>
        obtain ⟨_, _, lv, xv, Bx, _, _, _, _, h5, rfl⟩ := hd
        exact hj.imp_right fun hj => (h5 j hj).1
      | inr t =>
        obtain ⟨_, _, rfl⟩ := hd
        exact .inl hj
    have hg := hb.block gr (by omega) (fun e => by rcases hDj gr e with e | e; exact hne e; omega)
    refine ⟨h.1.step hb.size fun j a b _ d => hb.block j (by omega) (fun e => by rcases hDj j e with e | e; exact d e; omega), ?_⟩
    cases s with
    | inl y => exact ⟨h.2.1, hck _ _ _ h.2.2 hg⟩
    | inr t => exact hg.trans h.2
  kdc := fun s D W W' h hb => by
    have hz := h.1.1
    have hF := h.1.step hb.size fun j a b c _ => hb.block j (by omega) c
    have hg := hb.block gd (by omega) (fun e => hne e.symm)
    cases s with
    | inl y =>
      obtain ⟨_, h0, lv, xv, Bx, h1, h2, h3, h4, h5, rfl⟩ := h
      exact ⟨hF, h0, lv, xv, Bx, hg.trans h1, h2.keep hb.size fun j hj hz => hb.block j hz (fun e => by have := (h5 j (.inr hj)).1; omega), own_keep2 h3 fun j hj => hb.block j (h3.lt j hj).2 (fun e => by have := (h5 j (.inl hj)).1; omega), Nat.le_trans h4 hb.size, fun j hj => ⟨(h5 j hj).1, Nat.lt_of_lt_of_le (h5 j hj).2 hb.size⟩, rfl⟩
    | inr t =>
      obtain ⟨_, ⟨lv, xv, pr, dn, bd, h1, h2⟩, h3⟩ := h
      exact ⟨hF, ⟨lv, xv, pr, dn, bd, hg.trans h1, h2⟩, h3⟩
  szF := fun s p => by
    cases s with
    | inl y =>
      cases he : q.er y p with
      | some a => simp only [Sp.fa, he, Sp.sz]; omega
      | none => simp only [Sp.fa, he, Sp.sz, List.length_append]; omega
    | inr t => simp only [Sp.fa, Sp.sz]; omega
  szC := fun s => by
    cases s with
    | inl y => simp only [Sp.ca, Sp.sz]; omega
    | inr t => simp only [Sp.ca, Sp.sz]; omega
  fc := fun s p pv W h hpb hpl hsz hpv hpg => by
    have hz := h.1.1
    cases s with
    | inl y =>
      obtain ⟨hF, h0, h1⟩ := h
      refine (hfc y p pv W h0 hF h1 hpb hpl hsz hpv (fun e => hpg gr e rfl)).mono ?_
      rintro e w' ⟨hb, ⟨a, e1, rfl, e3⟩ | ⟨e1, o, k, rfl, e3, e4, e5⟩⟩
      · have hF2 := hF.step hb.size fun j a b c _ => hb.block j (by omega) c
        refine ⟨none, 0, 0, ?_⟩
        simp only [Sp.fa, e1]
        exact ⟨⟨rfl, .inl ⟨rfl, rfl⟩⟩, .inl rfl, ⟨hF2, e3⟩, Bt.bur hb⟩
      · have hF2 := hF.step hb.size fun j a b c _ => hb.block j (by omega) c
        refine ⟨o, k, k, ?_⟩
        simp only [Sp.fa, e1]
        exact ⟨⟨rfl, e3⟩, e4, ⟨hF2, hok _ _ h0 hpb e1, e5⟩, Bt.bur hb⟩
    | inr t =>
      refine (rfeed_done gr t.1 t.2 pv W h.2).mono ?_
      rintro e w' ⟨rfl, rfl⟩
      exact ⟨none, 0, 0, ⟨rfl, .inl ⟨rfl, rfl⟩⟩, .inl rfl, h, Bt.refl _ _⟩
  fr := fun s D p pv W h hpb hpl hsz hpv hpg => by
    have hz := h.1.1
    cases s with
    | inl y =>
      obtain ⟨hF, h0, lv, xv, Bx, h1, h2, h3, h4, h5, rfl⟩ := h
      refine (hfd y p pv lv xv Bx W h0 hF h1 h2 h3 h4 (fun j hj => (h5 j (.inl hj)).1) hpb hpl hsz hpv (fun j hj e => hpg j hj (.inl e))).mono ?_
      rintro e w' (⟨a, e1, rfl, e3, hb⟩ | ⟨e1, v, lvv, ox, lx, cx, rfl, e3, e4, e5, e6, e7, hb⟩)
      · have hF2 := hF.step hb.size fun j a b _ d => hb.block j (by omega) d
        refine ⟨none, 0, 0, (fun j => j = gd), ?_⟩
        simp only [Sp.fa, e1]
        exact ⟨⟨rfl, .inl ⟨rfl, rfl⟩⟩, ⟨hF2, ⟨lv, xv, _, _, _, e3, rfl⟩, rfl⟩, fun j hj => .inl (.inl hj), hb.mono fun j hj => .inl hj⟩
      · have hF2 := hF.step hb.size fun j a b _ d => hb.block j (by omega) (fun e => by rcases e with e | e; exact d e; have := (h5 j (.inl e)).1; omega)
        obtain ⟨o, c, rfl⟩ := own_size e3
        refine ⟨o, (q.out y p).length, c, (fun j => j = gd ∨ (Value.slice ox lx cx).ownBlock = some j ∨ lvv.ownBlock = some j), ?_⟩
        simp only [Sp.fa, e1]
        refine ⟨⟨rfl, own_si e3 rfl⟩, ⟨hF2, hok _ _ h0 hpb e1, lvv, _, _, e4, e6, e5, hb.size, fun j hj => ?_, rfl⟩, fun j hj => ?_, hb.mono fun j hj => by rcases hj with hj | hj; exact .inl hj; exact .inr (.inl hj)⟩
        · rcases hj with hj | hj
          · have := e5.lt j hj; omega
          · have := e7 j hj; have := e6.blk j hj; omega
        · rcases hj with hj | hj | hj
          · exact .inl (.inl hj)
          · exact .inr (e5.lt j hj).1
          · exact .inr (e7 j hj)
    | inr t =>
      obtain ⟨hF, ⟨lv, xv, pr, dn, bd, h1, h2⟩, rfl⟩ := h
      refine (feedW_done gd g lv t.1 tv xv pv pr t.2 dn bd h2 W h1).mono ?_
      rintro e w' ⟨rfl, rfl⟩
      exact ⟨none, 0, 0, _, ⟨rfl, .inl ⟨rfl, rfl⟩⟩, ⟨hF, ⟨lv, xv, pr, dn, bd, h1, h2⟩, rfl⟩, fun j hj => .inl hj, Bt.refl _ _⟩
  cc := fun s W h => by
    have hz := h.1.1
    cases s with
    | inl y =>
      obtain ⟨hF, h0, h1⟩ := h
      refine (hcc y W h0 h1).mono ?_
      rintro e w' ⟨hb, e1, o, n, c, rfl, e3, e4⟩
      exact ⟨o, n, c, ⟨rfl, e3⟩, e4, ⟨hF.step hb.size fun j a b c _ => hb.block j (by omega) c, e1⟩, Bt.bur hb⟩
    | inr t =>
      refine (rclose_done gr t.1 t.2 W h.2).mono ?_
      rintro e w' ⟨rfl, rfl⟩
      exact ⟨none, 0, 0, ⟨rfl, .inl ⟨rfl, rfl⟩⟩, (fun j hj => by cases hj), h, Bt.refl _ _⟩
  cr := fun s D W h => by
    have hz := h.1.1
    cases s with
    | inl y =>
      obtain ⟨hF, h0, lv, xv, Bx, h1, h2, h3, h4, h5, rfl⟩ := h
      obtain ⟨ox, cx, rfl⟩ := own_size h3
      refine (closeD_st gd g lv y.length tv ox _ cx _ _ W h1).mono ?_
      rintro e w' ⟨rfl, e1, hb⟩
      refine ⟨ox, _, cx, (fun j => j = gd), ⟨rfl, ?_⟩, ⟨hF.step hb.size fun j a b _ d => hb.block j (by omega) d, ⟨lv, _, _, _, _, e1, rfl⟩, rfl⟩, fun j hj => .inl (.inl hj), hb.mono fun j hj => .inl hj⟩
      exact (own_si h3 (hxl y h0).symm).keep hb.size fun j hj hz2 => hb.block j hz2 (fun e => by have := (h5 j (.inl hj)).1; omega)
    | inr t =>
      obtain ⟨hF, ⟨lv, xv, pr, dn, bd, h1, h2⟩, rfl⟩ := h
      refine (closeW_done gd g lv t.1 tv xv pr t.2 dn bd h2 W h1).mono ?_
      rintro e w' ⟨rfl, rfl⟩
      exact ⟨none, 0, 0, _, ⟨rfl, .inl ⟨rfl, rfl⟩⟩, ⟨hF, ⟨lv, xv, pr, dn, bd, h1, h2⟩, rfl⟩, fun j hj => .inl hj, Bt.refl _ _⟩
  ac := fun s W h => by
    cases s with
    | inl y => exact rwAt_any gr _ W (hca y W h.2.2).1
    | inr t => exact rwAt_any gr _ W ((cell_of_row W gr 2 _ _ _ h.2).trans (sg2 _ _ _ _ _))
  ar := fun s D W h => by
    cases s with
    | inl y =>
      obtain ⟨hF, h0, lv, xv, Bx, h1, _⟩ := h
      exact atD_any gd _ W ((cell_of_row W gd 2 _ _ _ h1).trans rfl)
    | inr t =>
      obtain ⟨hF, ⟨lv, xv, pr, dn, bd, h1, h2⟩, _⟩ := h
      exact atD_any gd _ W ((cell_of_row W gd 2 _ _ _ h1).trans rfl)
  hc := fun s W h => by
    cases s with
    | inl y => exact rwHeld_any gr _ W (hca y W h.2.2).2
    | inr t => exact rwHeld_any gr _ W ((cell_of_row W gr 3 _ _ _ h.2).trans (sg3 _ _ _ _ _))
  hr := fun s D W h => by
    cases s with
    | inl y =>
      obtain ⟨hF, h0, lv, xv, Bx, h1, _⟩ := h
      exact heldD_any gd _ W ((cell_of_row W gd 6 _ _ _ h1).trans rfl)
    | inr t =>
      obtain ⟨hF, ⟨lv, xv, pr, dn, bd, h1, h2⟩, _⟩ := h
      exact heldD_any gd _ W ((cell_of_row W gd 6 _ _ _ h1).trans rfl)
end Go.Proofs.Ytceaklefdahfkab

/- SieveStreams: the document's rewriters, made: their texts are new. -/
namespace Go.Proofs.Ytceaklefdahfkab
open Go.RowKit
/-- What the document's Rewriter answers. -/
def RdnQ (m nv g : Nat) (T : List ByteArray) (B : Nat) (e : Ending) (w' : World) : Prop :=
  (T.length ≠ nv ∧ e = .returned (.tuple #[.pointer none, .int .i64 2])) ∨
  (T.length = nv ∧ allW m T = false ∧ e = .returned (.tuple #[.pointer none, .int .i64 50])) ∨
  (T.length = nv ∧ allW m T = true ∧ ∃ gd tv, e = .returned (.tuple #[.pointer (some ⟨gd, 0, none⟩), .int .i64 0]) ∧ B ≤ gd ∧ Rdw gd g (.slice none 0 0) 0 tv (.slice none 0 0) (-(m : Int)) 0 false false w' ∧ St tv T w' ∧ tv.ownBlock ≠ some gd ∧ ∀ k, tv.ownBlock = some k → B ≤ k)
attribute [local go_sem ↓] toApLs
set_option maxRecDepth 100000 in
set_option maxHeartbeats 1600000 in
theorem rwrD_new (g : Nat) (lvl : Value) (fv : Nat → Value) (l : List ByteArray) (F : Nat → List Nat) (m : Nat) (hm : m ≤ 64) (T : List ByteArray) (hTl : T.length ≤ 1048576) (hTs : ∀ s ∈ T, s.size ≤ 1099511627776) (tvl : Value) (w : World) (h : Rf g lvl fv l F m w) (hv : St tvl T w) :
    Calls Try.prog 37 #[.pointer (some ⟨g, 0, none⟩), tvl] w fun e w' => Below w.heap.size w w' ∧ RdnQ m l.length g T w.heap.size e w' := by
  obtain ⟨ol, cl, hol⟩ := own_size h.ol
  subst hol
  have gz := h.gz
  have c0 : w.cell? ⟨g, 0, none⟩ = some (.slice ol l.length cl) := (cell_of_row w g 0 _ _ _ h.row).trans (rfC_0 _ _ _)
  have cw : w.cell? ⟨g, 257, none⟩ = some (.int .i64 (m : Int)) := (cell_of_row w g 257 _ _ _ h.row).trans (rfC_w _ _ _)
  obtain ⟨o, c, hof, _, _, hcf⟩ := hv.form
  subst hof
  have HCF : Hid _ := hcf
  have HV : Hid (St (.slice o T.length c) T w) := hv
  have HTS : Hid _ := hTs
  clear h hv hcf hTs
  by_cases hl : T.length = l.length
  · have HLL : Hid (T.length = l.length) := hl
    rw [← hl] at c0
    clear hl
    go_enter Try.func37, Try.ntmps37
    go_wp2_with fail
    go_loopw [6] (fun iv wr => ∃ k : Nat, iv = .int .i64 (k : Int) ∧ k ≤ T.length ∧ Hid (allW m (T.take k) = true) ∧ Below w.heap.size w wr) (fun iv _ => T.length - (intOf iv).toNat)
    case atStart => exact ⟨0, rfl, by omega, rfl, Below.refl _ _⟩
    case round =>
      obtain ⟨k, rfl, hk, HA, hbl⟩ := hrel
      have cw2 : wr.cell? ⟨g, 257, none⟩ = some (.int .i64 (m : Int)) := (World.cell?_of_block (w := w) (hbl.block g gz)).trans cw
      have HB : Hid (Below w.heap.size w wr) := hbl
      by_cases hlt : k < T.length
      · have hk0 : (0 : Int) ≤ (k : Int) := by omega
        have hk1 : (k : Int) < (T.length : Int) := by omega
        obtain ⟨s, hs⟩ : ∃ s, T[k]? = some s := ⟨_, List.getElem?_eq_getElem hlt⟩
        obtain ⟨b, off, rfl, hb, hc⟩ := HCF.out (by omega)
        have cs : wr.cell? ⟨b, off + k, none⟩ = some (.string s) := (World.cell?_of_block (w := w) (hbl.block b hb)).trans (hc k s hs)
        have hss := HTS.out s (List.mem_of_getElem? hs)
        clear hc hbl
        by_cases he : s.size = m
        · have he' : (s.size : Int) = (m : Int) := by omega
          have HA1 : Hid (allW m (T.take (k + 1)) = true) := by show _ = _; rw [all_take hs, HA.out, he]; simp
          clear hs HA he
          go_wp2_with fail
          go_quiet (fail)
          go_wp2
          exact ⟨⟨k + 1, by rfl, by omega, HA1, Below.drewN' HB.out _⟩, by simp only [intOf]; omega⟩
        · have he' : ¬ ((s.size : Int) = (m : Int)) := by omega
          have HF : Hid (allW m T = false) := all_stop hs he
          have HE : Hid (∀ q e, e = .returned (.tuple #[.pointer none, .int .i64 50]) → Below w.heap.size w (wr.drewN q) ∧ RdnQ m l.length g T w.heap.size e (wr.drewN q)) := fun q e hq => ⟨Below.drewN' HB.out q, .inr (.inl ⟨HLL.out, HF.out, hq⟩)⟩
          clear hs HA he
          go_wp2_with fail
          go_quiet (fail)
          go_wp2
          go_ret2
          exact HE.out _ _ rfl
      · have hk1 : ¬ ((k : Int) < (T.length : Int)) := by omega
        have HF : Hid (allW m T = true) := by have := HA.out; rw [List.take_of_length_le (by omega)] at this; exact this
        obtain ⟨v', w', r, ho2, hb2⟩ := run_apLs wr wr.heap.size 0 22 (.slice none 0 0) [] T _ (World.ownsRow_nil _ _ _ _) (HV.out.below hbl) (by omega) (Nat.le_refl _)
        have hst : St v' T w' := own_st ho2 (by simp)
        have hbw : Below w.heap.size w w' := hbl.trans (hb2.mono hbl.size)
        have cw3 : w'.cell? ⟨g, 257, none⟩ = some (.int .i64 (m : Int)) := (World.cell?_of_block (w := w) (hbw.block g gz)).trans cw
        obtain ⟨o2, c2, hv2⟩ := own_size ho2
        subst hv2
        have en : IntKind.i64.wrap (-(m : Int)) = -(m : Int) := by rw [wi _ (by unfold I64; omega)]
        have HE : Hid (∀ W e, W.heap[w'.heap.size]? = some (.cells #[.pointer (some ⟨g, 0, none⟩), .slice none 0 0, .int .i64 ((0 : Nat) : Int), .slice o2 (0 + T.length) c2, .slice none 0 0, .int .i64 (-(m : Int)), .int .i64 0, .bool false, .bool false] 111 (0, 0)) → Below w'.heap.size w' W → e = .returned (.tuple #[.pointer (some ⟨w'.heap.size, 0, none⟩), .int .i64 0]) → Below w.heap.size w W ∧ RdnQ m l.length g T w.heap.size e W) := fun W e hr hb he => by
          refine ⟨hbw.trans (hb.mono hbw.size), .inr (.inr ⟨HLL.out, HF.out, w'.heap.size, _, he, hbw.size, hr, hst.below hb, (fun e2 => by have hlt2 := (ho2.lt _ e2).2; omega), fun k hk => by have := (ho2.lt k hk).1; have := hbl.size; omega⟩)⟩
        clear hst hbw ho2 hb2 hbl HA HF
        rw [Nat.zero_add] at r HE
        go_wp2
        go_ret2
        exact HE.out _ _ (heap_alloc_new _ _) ((Below.refl _ _).alloc (Nat.le_refl _) _) rfl
  · have hl' : ¬ ((T.length : Int) = (l.length : Int)) := by omega
    go_enter Try.func37, Try.ntmps37
    go_wp2
    go_ret2
    exact ⟨Below.refl _ _, .inl ⟨hl, rfl⟩⟩
end Go.Proofs.Ytceaklefdahfkab
namespace Go.Proofs.Ytceaklefdahfkab
open Go.RowKit
/-- What the document's Masker answers. -/
def RdmQ (m nv g B : Nat) (e : Ending) (w' : World) : Prop := ∃ gd tv, e = .returned (.pointer (some ⟨gd, 0, none⟩)) ∧ B ≤ gd ∧ Rdw gd g (.slice none 0 0) 0 tv (.slice none 0 0) (-(m : Int)) 0 false false w' ∧ St tv (List.replicate nv (zst m)) w' ∧ tv.ownBlock ≠ some gd ∧ ∀ k, tv.ownBlock = some k → B ≤ k
attribute [local go_sem ↓] toApS toMkB
set_option maxRecDepth 100000 in
set_option maxHeartbeats 1600000 in
theorem mkrD_new (g : Nat) (lvl : Value) (fv : Nat → Value) (l : List ByteArray) (hll : l.length ≤ 4096) (F : Nat → List Nat) (m : Nat) (hm : m ≤ 64) (w : World) (h : Rf g lvl fv l F m w) :
    Calls Try.prog 40 #[.pointer (some ⟨g, 0, none⟩)] w fun e w' => Below w.heap.size w w' ∧ RdmQ m l.length g w.heap.size e w' := by
  obtain ⟨ol, cl, hol⟩ := own_size h.ol
  subst hol
  have gz := h.gz
  have c0 : w.cell? ⟨g, 0, none⟩ = some (.slice ol l.length cl) := (cell_of_row w g 0 _ _ _ h.row).trans (rfC_0 _ _ _)
  have cw : w.cell? ⟨g, 257, none⟩ = some (.int .i64 (m : Int)) := (cell_of_row w g 257 _ _ _ h.row).trans (rfC_w _ _ _)
  obtain ⟨W1, r1, R1, b1, z1⟩ := run_mkB w m (by omega)
  have hSi : Si .u8 (.slice (some ⟨w.heap.size, 0, none⟩) m m) (List.replicate m 0) W1 := .inr ⟨_, 0, m, by simp, by simp, by unfold maxLen; omega, (Array.getElem?_eq_some_iff.1 R1).1, fun j hj => by rw [Nat.zero_add]; exact (cell_of_row W1 _ _ _ _ _ R1).trans (ik_get _ _ _ hj)⟩
  have cv := conv_si hSi
  rw [bst_z] at cv
  have HC0 : Hid (∀ W, Below w.heap.size w W → W.cell? ⟨g, 0, none⟩ = some (.slice ol l.length cl)) := fun W hb => (World.cell?_of_block (w := w) (hb.block g gz)).trans c0
  have CR : Hid (∀ W v, Below w.heap.size w W → St v (List.replicate l.length (zst m)) W → Calls Try.prog 37 #[.pointer (some ⟨g, 0, none⟩), v] W fun e w' => ∃ gd tv, e = .returned (.tuple #[.pointer (some ⟨gd, 0, none⟩), .int .i64 0]) ∧ Hid (Below w.heap.size w w' ∧ w.heap.size ≤ gd ∧ Rdw gd g (.slice none 0 0) 0 tv (.slice none 0 0) (-(m : Int)) 0 false false w' ∧ St tv (List.replicate l.length (zst m)) w' ∧ tv.ownBlock ≠ some gd ∧ ∀ k, tv.ownBlock = some k → w.heap.size ≤ k)) := fun W v hb hv => by
    refine (rwrD_new g _ fv l F m hm (List.replicate l.length (zst m)) (by simp; omega) (fun s hs => by rw [List.eq_of_mem_replicate hs, zst_size]; omega) v W (h.below hb) hv).mono ?_
    rintro e w' ⟨hb2, hP⟩
    rcases hP with ⟨x1, -⟩ | ⟨-, x1, -⟩ | ⟨-, -, gd, tv, he, x3, x4, x5, x6, x7⟩
    · exact absurd (List.length_replicate ..) x1
    · rw [zall] at x1; cases x1
    · exact ⟨gd, tv, he, hb.trans (hb2.mono hb.size), by have := hb.size; omega, x4, x5, x6, fun k hk => by have := x7 k hk; have := hb.size; omega⟩
  have HB1 : Hid (Below w.heap.size w W1) := b1
  have HO0 : Hid (W1.ownsRow w.heap.size 9 1 (.slice none 0 0) 0 (sk (List.replicate 0 (zst m))).toList) := World.ownsRow_nil _ _ _ _
  obtain ⟨z, hz⟩ : ∃ z, z = zst m := ⟨_, rfl⟩
  have HZ : Hid (z = zst m) := hz
  rw [← hz] at cv CR HO0
  clear hz
  clear h R1 hSi b1 z1 gz
  go_enter Try.func40, Try.ntmps40
  go_wp2_with fail
  go_loopw [3, 5] (fun tv iv wr => ∃ k : Nat, iv = .int .i64 (k : Int) ∧ k ≤ l.length ∧ Hid (wr.ownsRow w.heap.size 9 1 tv k (sk (List.replicate k z)).toList ∧ Below w.heap.size w wr)) (fun _ iv _ => l.length - (intOf iv).toNat)
  case atStart => exact ⟨0, rfl, by omega, HO0.out, HB1.out⟩
  case round =>
    clear HO0 HB1 r1 cv
    obtain ⟨k, rfl, hk, HI⟩ := hrel
    have c0r := HC0.out wr HI.out.2
    obtain ⟨ot, ct, htv⟩ := own_size HI.out.1
    subst htv
    by_cases hlt : k < l.length
    · have hk1 : (k : Int) < (l.length : Int) := by omega
      obtain ⟨v', W4, r4, o4, g4⟩ := run_apS wr w.heap.size k 22 (.slice ot k ct) (List.replicate k z) z HI.out.1 (by omega) HI.out.2.size
      have HI2 : Hid (W4.ownsRow w.heap.size 9 1 v' (k + 1) (sk (List.replicate (k + 1) z)).toList ∧ Below w.heap.size w W4) := by
        refine ⟨by rw [List.replicate_succ']; exact o4, ?_⟩
        have hz := HI.out.2.size
        refine HI.out.2.trans ⟨by rw [g4.os]; rfl, by rw [g4.tape]; rfl, by rw [g4.output]; rfl, by have := g4.size; simp at this; omega, fun j hj => ?_⟩
        rw [g4.block j (by simp; omega) (fun e => by have := (HI.out.1.lt j e.symm).1; omega), heap_alloc_old _ _ (h := by omega)]
      clear o4 g4 HI
      go_wp2
      exact ⟨⟨k + 1, by rfl, by omega, HI2⟩, by simp only [intOf]; omega⟩
    · have hk1 : ¬ ((k : Int) < (l.length : Int)) := by omega
      have hke : k = l.length := by omega
      obtain ⟨i1, i2⟩ := HI.out
      have hst : St (.slice ot k ct) (List.replicate l.length z) wr := by
        have := own_st i1 (by simp)
        rw [hke] at this ⊢
        exact this
      have C1 : Hid _ := CR.out wr _ i2 hst
      clear i1 i2 hst HI hke CR
      go_wp2_with fail
      refine Calls.mono C1.out ?_
      rintro e W5 ⟨gd, tv, rfl, HE⟩
      clear C1
      go_wp2
      go_ret
      have HE2 := HE.out
      rw [HZ.out] at HE2
      exact ⟨HE2.1, gd, tv, rfl, HE2.2⟩
end Go.Proofs.Ytceaklefdahfkab

/- SieveScans: two scanners beside one another. -/
namespace Go.Proofs.Ytceaklefdahfkab
open Go.RowKit
/-- Two scanners (or none): what both answer, and which blocks that hangs on: those below B, and one that the document's keeps. -/
structure Sys (A B gs gd : Nat) (c d : Option Addr) (SC : List Nat → World → Prop) (SR : List Nat → Option Nat → World → Prop) (H2 : List Nat → List Nat → List (Int × Int)) (HD NN : List Nat → Nat) : Prop where
  gs0 : A ≤ gs
  gs1 : gs < B
  gd0 : A ≤ gd
  gd1 : gd < B
  kc : ∀ y W W', SC y W → W.heap.size ≤ W'.heap.size → (∀ j, j < B → W'.heap[j]? = W.heap[j]?) → SC y W'
  kr : ∀ y b W W', SR y b W → W.heap.size ≤ W'.heap.size → (∀ j, j < B ∨ b = some j → W'.heap[j]? = W.heap[j]?) → SR y b W'
  kcd : ∀ y W W', SC y W → But gd W W' → SC y W'
  krc : ∀ y b W W', SR y b W → (∀ k, b = some k → k < W.heap.size ∧ k ≠ gs) → But gs W W' → SR y b W'
  fc : ∀ y p pv W, SC y W → Byt p → p.length ≤ 16777216 → y.length ≤ 1125899906842624 → Si .u8 pv p W → Calls Try.prog 21 #[.pointer c, pv] W fun e w' => ∃ v, e = .returned v ∧ w'.ownsRow W.heap.size 39 2 v (H2 y p).length (hc (H2 y p)) ∧ SC (y ++ p) w' ∧ But gs W w'
  fr : ∀ y b p pv W, SR y b W → Byt y → Byt p → p.length ≤ 16777216 → y.length ≤ 1125899906842624 → Si .u8 pv p W → Calls Try.prog 30 #[.pointer d, pv] W fun e w' => ∃ v b', e = .returned v ∧ w'.ownsRow W.heap.size 39 2 v (H2 y p).length (hc (H2 y p)) ∧ SR (y ++ p) b' w' ∧ (∀ k, b' = some k → W.heap.size ≤ k ∧ k < w'.heap.size) ∧ But gd W w'
  ac : ∀ y W, SC y W → Calls Try.prog 31 #[.pointer c] W fun e w' => e = .returned (.int .i64 (NN y : Int)) ∧ w' = W
  ar : ∀ y b W, SR y b W → Calls Try.prog 32 #[.pointer d] W fun e w' => e = .returned (.int .i64 (NN y : Int)) ∧ w' = W
  hC : ∀ y W, SC y W → Calls Try.prog 33 #[.pointer c] W fun e w' => e = .returned (.int .i64 (HD y : Int)) ∧ w' = W
  hR : ∀ y b W, SR y b W → Byt y → Calls Try.prog 34 #[.pointer d] W fun e w' => e = .returned (.int .i64 (HD y : Int)) ∧ Below W.heap.size W w'
theorem But.refl (g : Nat) (W : World) : But g W W := ⟨rfl, rfl, rfl, Nat.le_refl _, fun _ _ _ => rfl⟩
theorem sys_nil (A B : Nat) (h : A < B) : Sys A B A A none none (fun _ _ => True) (fun _ b _ => b = none) (fun _ _ => []) (fun _ => 0) (fun _ => 0) where
  gs0 := Nat.le_refl _
  gs1 := h
  gd0 := Nat.le_refl _
  gd1 := h
  kc := fun _ _ _ _ _ _ => trivial
  kr := fun _ _ _ _ h _ _ => h
  kcd := fun _ _ _ _ _ => trivial
  krc := fun _ _ _ _ h _ _ => h
  fc := fun y p pv W _ _ _ _ _ => (feed_nil pv W).mono (by
    rintro e w' ⟨rfl, rfl⟩
    exact ⟨_, rfl, World.ownsRow_nil _ _ _ _, trivial, But.refl _ _⟩)
  fr := fun y b p pv W _ _ _ _ _ _ => (feedR_nil pv W).mono (by
    rintro e w' ⟨rfl, rfl⟩
    exact ⟨_, none, rfl, World.ownsRow_nil _ _ _ _, rfl, (fun k hk => by cases hk), But.refl _ _⟩)
  ac := fun _ W _ => sat_nil W
  ar := fun _ _ W _ => atR_nil W
  hC := fun _ W _ => sheld_nil W
  hR := fun _ _ W _ _ => (heldR_nil W).mono (by rintro e w' ⟨rfl, rfl⟩; exact ⟨rfl, Below.refl _ _⟩)
theorem sys_p (l : List ByteArray) (ns : List Nat) (m : Nat) (hp : Pt l m) (hn : NewOk l ns) (hnd : (l.map tl).Nodup) (A K B gs gd gt g : Nat) (lv : Value) (fv : Nat → Value) (w0 : World) (hK : w0.heap.size = K) (hA : A ≤ K) (h1 : K ≤ gs) (h2 : gs < gd) (h3 : gd < B) (hT : TabK K gt (ftT ((wdS l ns).map tl) ns m) w0) (hR : Rf g lv fv l (fst (l.map tl)) m w0) :
    Sys A B gs gd (some ⟨gs, 0, none⟩) (some ⟨gd, 0, none⟩) (fun y W => (∃ s, Scn gs gt s y.length (hld2 (l.map tl) m y) W ∧ At ((wdS l ns).map tl) m s y) ∧ w0.heap.size ≤ W.heap.size ∧ ∀ j, j < K → W.heap[j]? = w0.heap[j]?)
      (fun y b W => (∃ lvv, Rsc gd g lvv y.length W ∧ Si .u8 lvv (lastN m y) W ∧ lvv.ownBlock = b) ∧ w0.heap.size ≤ W.heap.size ∧ ∀ j, j < K → W.heap[j]? = w0.heap[j]?) (hit2 (l.map tl) m) (hld2 (l.map tl) m) List.length where
  gs0 := by omega
  gs1 := by omega
  gd0 := by omega
  gd1 := h3
  kc := fun y W W' ⟨⟨s, a, b⟩, c, d⟩ hs hb => ⟨⟨s, (hb gs (by omega)).trans a, b⟩, by omega, fun j hj => (hb j (by omega)).trans (d j hj)⟩
  kr := fun y b W W' ⟨⟨lvv, a, a2, a3⟩, c, d⟩ hs hb => ⟨⟨lvv, (hb gd (.inl h3)).trans a, a2.keep hs fun k hk _ => hb k (.inr (by rw [← a3]; exact hk)), a3⟩, by omega, fun j hj => (hb j (.inl (by omega))).trans (d j hj)⟩
  kcd := fun y W W' ⟨⟨s, a, b⟩, c, d⟩ hb => ⟨⟨s, (hb.block gs (Array.getElem?_eq_some_iff.1 a).1 (by omega)).trans a, b⟩, by have := hb.size; omega, fun j hj => (hb.block j (by omega) (by omega)).trans (d j hj)⟩
  krc := fun y b W W' ⟨⟨lvv, a, a2, a3⟩, c, d⟩ hk hb => ⟨⟨lvv, (hb.block gd (Array.getElem?_eq_some_iff.1 a).1 (by omega)).trans a, a2.keep hb.size fun k hk2 hz => hb.block k hz (hk k (by rw [← a3]; exact hk2)).2, a3⟩, by have := hb.size; omega, fun j hj => (hb.block j (by omega) (by omega)).trans (d j hj)⟩
  fc := fun y p pv W ⟨⟨s, a, b⟩, c, d⟩ hpb hpl hy hpv => by
    have hT2 : TabK gs gt (ftT ((wdS l ns).map tl) ns m) W := (hT.keep c fun j hj _ => d j hj).mono h1
    exact (feedC_any l m hp ns hn gs gt s _ y p hy hpb (by omega) pv W a b hT2 hpv).mono fun e w' ⟨v, s', q1, q2, q3, q4, q5⟩ => ⟨v, q1, q2, ⟨⟨s', q3, q4⟩, by have := q5.size; omega, fun j hj => (q5.block j (by omega) (by omega)).trans (d j hj)⟩, q5⟩
  fr := fun y b p pv W ⟨⟨lvv, a, a2, a3⟩, c, d⟩ hyb hpb hpl hy hpv => by
    have hg := hR.gz
    have hR2 : Rf g lv fv l (fst (l.map tl)) m W := hR.keep fun j _ hj => d j (by omega)
    exact (feedD_any l m hp hnd gd g lv fv y p hyb hpb hy hpl lvv pv W (by omega) a a2 hpv hR2).mono fun e w' ⟨v, lvv', q1, q2, q3, q4, q5, q6⟩ => ⟨v, lvv'.ownBlock, q1, q2, ⟨⟨lvv', q3, q4, rfl⟩, by have := q6.size; omega, fun j hj => (q6.block j (by omega) (by omega)).trans (d j hj)⟩, fun k hk => ⟨q5 k hk, by
      rcases q4 with ⟨z1, _⟩ | ⟨b', o', c', z1, _, _, z4, _⟩
      · rw [z1] at hk; cases hk
      · rw [z1] at hk
        have : b' = k := by cases hk; rfl
        omega⟩, q6⟩
  ac := fun y W ⟨⟨s, a, _⟩, _⟩ => atC_any gs gt s _ _ W a
  ar := fun y b W ⟨⟨lvv, a, _⟩, _⟩ => atR_any gd g lvv _ W a
  hC := fun y W ⟨⟨s, a, _⟩, _⟩ => heldC_any gs gt s _ _ W a
  hR := fun y b W ⟨⟨lvv, a, a2, a3⟩, c, d⟩ hyb => by
    have hg := hR.gz
    refine heldR_any gd g lvv _ _ W a fun W2 hb2 => ?_
    have hR2 : Rf g lv fv l (fst (l.map tl)) m W2 := hR.keep fun j _ hj => (hb2.block j (by omega)).trans (d j (by omega))
    have hl := lastN_len m y
    have hm1 := hp.m1
    have := held_any g lv fv l m hp.m0 hm1 hp.ln hp.sz (lastN m y) (fun x hx => hyb x (List.mem_of_mem_drop hx)) (by omega) lvv W2 hR2 (a2.below hb2)
    rw [hl, show min (m - 1) (min (m - 1) y.length) = min (m - 1) y.length by omega] at this
    exact this
theorem te_stp (c : Nat) (hc : c < 256) : stp TE 0 c = (0, none) := by
  unfold stp
  rw [te_at c hc, te_len.1, if_neg (by decide)]
theorem te_rn : ∀ (p : List Nat), Byt p → rn TE 0 p = 0
  | [], _ => rfl
  | c :: p, hp => by
    rw [rn, te_stp c (hp c (by simp))]
    exact te_rn p fun x hx => hp x (by simp [hx])
theorem te_dep : TE.depths.getD 0 0 = 0 := by kernel_rfl
theorem lastN_0 (y : List Nat) : lastN 0 y = [] := by
  have := lastN_len 0 y
  exact List.length_eq_zero_iff.1 (by omega)
/-- Of no pattern. -/
theorem sys_e (A K B gs gd gt g : Nat) (lv : Value) (fv : Nat → Value) (F : Nat → List Nat) (w0 : World) (hK : w0.heap.size = K) (hA : A ≤ K) (h1 : K ≤ gs) (h2 : gs < gd) (h3 : gd < B) (hT : TabK K gt TE w0) (hR : Rf g lv fv [] F 0 w0) :
    Sys A B gs gd (some ⟨gs, 0, none⟩) (some ⟨gd, 0, none⟩) (fun y W => Scn gs gt 0 y.length 0 W ∧ w0.heap.size ≤ W.heap.size ∧ ∀ j, j < K → W.heap[j]? = w0.heap[j]?)
      (fun y b W => (∃ lvv, Rsc gd g lvv y.length W ∧ Si .u8 lvv [] W ∧ lvv.ownBlock = b) ∧ w0.heap.size ≤ W.heap.size ∧ ∀ j, j < K → W.heap[j]? = w0.heap[j]?) (fun _ _ => []) (fun _ => 0) List.length where
  gs0 := by omega
  gs1 := by omega
  gd0 := by omega
  gd1 := h3
  kc := fun y W W' ⟨a, c, d⟩ hs hb => ⟨(hb gs (by omega)).trans a, by omega, fun j hj => (hb j (by omega)).trans (d j hj)⟩
  kr := fun y b W W' ⟨⟨lvv, a, a2, a3⟩, c, d⟩ hs hb => ⟨⟨lvv, (hb gd (.inl h3)).trans a, a2.keep hs fun k hk _ => hb k (.inr (by rw [← a3]; exact hk)), a3⟩, by omega, fun j hj => (hb j (.inl (by omega))).trans (d j hj)⟩
  kcd := fun y W W' ⟨a, c, d⟩ hb => ⟨(hb.block gs (Array.getElem?_eq_some_iff.1 a).1 (by omega)).trans a, by have := hb.size; omega, fun j hj => (hb.block j (by omega) (by omega)).trans (d j hj)⟩
  krc := fun y b W W' ⟨⟨lvv, a, a2, a3⟩, c, d⟩ hk hb => ⟨⟨lvv, (hb.block gd (Array.getElem?_eq_some_iff.1 a).1 (by omega)).trans a, a2.keep hb.size fun k hk2 hz => hb.block k hz (hk k (by rw [← a3]; exact hk2)).2, a3⟩, by have := hb.size; omega, fun j hj => (hb.block j (by omega) (by omega)).trans (d j hj)⟩
  fc := fun y p pv W ⟨a, c, d⟩ hpb hpl hy hpv => by
    have hT2 : TabK gs gt TE W := (hT.keep c fun j hj _ => d j hj).mono h1
    have := feed_any gs gt TE te_wk _ te_gd 0 y.length 0 rfl (by omega) p hpb (by omega) pv W a hT2 hpv
    rw [te_fnd p _ hpb, te_rn p hpb, te_dep, ← List.length_append] at this
    exact this.mono fun e w' ⟨v, q1, q2, q3, q4, q5, q6, q7, q8⟩ => ⟨v, q1, q2, ⟨q3, by omega, fun j hj => (q8 j (by omega) (by omega)).trans (d j hj)⟩, ⟨q4, q5, q6, q7, q8⟩⟩
  fr := fun y b p pv W ⟨⟨lvv, a, a2, a3⟩, c, d⟩ hyb hpb hpl hy hpv => by
    have hg := hR.gz
    have hR2 : Rf g lv fv [] F 0 W := hR.keep fun j _ hj => d j (by omega)
    have := feedR_any gd g 0 y.length (fun _ => []) [] p lvv pv W (by omega) (by omega) hy (by simp) (by simp) hpl a a2 hpv hR2.gz ((cell_of_row W g _ _ _ _ hR2.row).trans (rfC_w _ _ _))
      (fun W2 v hb hv => (scanR_0 g lv fv [] F v W2 (hR2.below hb)).mono (by rintro e w' ⟨rfl, rfl⟩; exact ⟨_, rfl, World.ownsRow_nil _ _ _ _, Below.refl _ _⟩))
      (fun x hx => by cases hx)
    rw [lastN_0, ← List.length_append] at this
    exact this.mono fun e w' ⟨v, lvv', q1, q2, q3, q4, q5, q6⟩ => ⟨v, lvv'.ownBlock, q1, q2, ⟨⟨lvv', q3, q4, rfl⟩, by have := q6.size; omega, fun j hj => (q6.block j (by omega) (by omega)).trans (d j hj)⟩, fun k hk => ⟨q5 k hk, by
      rcases q4 with ⟨z1, _⟩ | ⟨b', o', c', z1, _, _, z4, _⟩
      · rw [z1] at hk; cases hk
      · rw [z1] at hk
        have : b' = k := by cases hk; rfl
        omega⟩, q6⟩
  ac := fun y W ⟨a, _⟩ => atC_any gs gt 0 _ _ W a
  ar := fun y b W ⟨⟨lvv, a, _⟩, _⟩ => atR_any gd g lvv _ W a
  hC := fun y W ⟨a, _⟩ => heldC_any gs gt 0 _ _ W a
  hR := fun y b W ⟨⟨lvv, a, a2, a3⟩, c, d⟩ hyb => by
    have hg := hR.gz
    refine heldR_any gd g lvv _ 0 W a fun W2 hb2 => ?_
    have hR2 : Rf g lv fv [] F 0 W2 := hR.keep fun j _ hj => (hb2.block j (by omega)).trans (d j (by omega))
    exact (held_0 g lv fv [] F [] lvv W2 hR2 (a2.below hb2)).mono (by rintro e w' ⟨rfl, rfl⟩; exact ⟨rfl, Below.refl _ _⟩)
end Go.Proofs.Ytceaklefdahfkab

/- SieveWrites: both ways of writing, by which both answer alike. -/
namespace Go.Proofs.Ytceaklefdahfkab
open Go.RowKit
theorem hit2_nil (L : List (List Nat)) (m : Nat) (p : List Nat) : hit2 L m [] p = hts L m p := by
  have h : lastN m [] = [] := by simp [lastN]
  unfold hit2
  rw [h, List.nil_append]
  have : (shf (((([] : List Nat).length - ([] : List Nat).length : Nat)) : Int)) = id := by
    funext x
    simp [shf]
  rw [this, List.map_id]
theorem hld2_le (L : List (List Nat)) (m : Nat) (y : List Nat) : hld2 L m y ≤ y.length := by
  have := hld_le L (lastN m y) (min (m - 1) y.length)
  unfold hld2
  omega
/-- The document's Feed, of a sieve of patterns. -/
theorem feedW_p (l : List ByteArray) (m : Nat) (hp : Pt l m) (hnd : (l.map tl).Nodup) (gd g : Nat) (lv : Value) (fv : Nat → Value) (T : List ByteArray) (hTs : ∀ s ∈ T, s.size = m) (hTl : T.length = l.length) (tv pv : Value) (p : List Nat) (hpb : Byt p) (hpl : p.length ≤ 16777216) (w0 w : World) (hR0 : Rf g lv fv l (fst (l.map tl)) m w0) (hK : w0.heap.size ≤ gd) (hb : Below w0.heap.size w0 w) (hR : Rdw gd g (.slice none 0 0) 0 tv (.slice none 0 0) (-(m : Int)) 0 false false w) (hpv : Si .u8 pv p w0) (hT : St tv T w) (hTg : tv.ownBlock ≠ some gd) :
    Calls Try.prog 67 #[.pointer (some ⟨gd, 0, none⟩), pv] w fun e w' => But gd w w' ∧ RdF gd g m T p (hts (l.map tl) m p) (hld2 (l.map tl) m p) tv w.heap.size e w' := by
  have hg := hR0.gz
  have hm1 := hp.m1
  have gz : gd < w.heap.size := (Array.getElem?_eq_some_iff.1 hR).1
  have hblk := hpv.blk
  have hz := hb.size
  refine feedW_any gd g m _ tv pv T p (lastN m p) _ w hR hm1 hpl (hld2_le _ _ _) (hpv.below hb) (fun e => by have := hblk _ e; omega) hT hTg hTs (by omega) (by omega) ?_ (hts_hin _ _ _ _ (by rw [List.length_map]; exact hTl)) (fun _ => hp.m0) (by have := hts_len (l.map tl) m p hp.m0; omega) ?_ ?_
  · exact (World.cell?_of_block (w := w0) (hb.block g (by omega))).trans ((cell_of_row w0 g _ _ _ _ hR0.row).trans (rfC_w _ _ _))
  · intro W hbW
    have hRW : Rdw gd g (.slice none 0 0) 0 tv (.slice none 0 0) (-(m : Int)) 0 false false W := (hbW.block gd gz).trans hR
    have := feedD_gen [tv, .slice none 0 0, .int .i64 (-(m : Int)), .int .i64 0, .bool false, .bool false] 111 l m hp hnd gd g lv fv [] p (fun x hx => by cases hx) hpb (by simp) hpl (.slice none 0 0) pv W (by omega) hRW (.inl ⟨rfl, by simp [lastN]⟩) ((hpv.below hb).below hbW) (hR0.keep fun j _ hj => (hbW.block j (by omega)).trans (hb.block j hj))
    rw [hit2_nil, List.nil_append] at this
    exact this.mono fun e w' ⟨v, lvv', q1, q2, q3, q4, q5, q6⟩ => ⟨v, lvv', q1, q2, q3, q4, q5, q6⟩
  · intro W lvv X hX hlv hbW
    refine heldR_gen X 111 gd g lvv p.length _ W hX fun W2 hb2 => ?_
    have hR2 : Rf g lv fv l (fst (l.map tl)) m W2 := hR0.keep fun j _ hj => by
      have hjW : j < W.heap.size := by
        rcases Nat.lt_or_ge j W.heap.size with h | h
        · exact h
        · have h1 := hbW j (by omega) (by omega)
          rw [Array.getElem?_eq_none h] at h1
          have h2 : w.heap[j]? ≠ none := by simp; omega
          exact absurd h1.symm h2
      exact (hb2.block j hjW).trans ((hbW j (by omega) (by omega)).trans (hb.block j hj))
    have := held_any g lv fv l m hp.m0 hm1 hp.ln hp.sz (lastN m p) (fun x hx => hpb x (List.mem_of_mem_drop hx)) (by rw [lastN_len]; omega) lvv W2 hR2 (hlv.below hb2)
    rw [lastN_len, show min (m - 1) (min (m - 1) p.length) = min (m - 1) p.length by omega] at this
    exact this
/-- The same, of a sieve of no pattern. -/
theorem feedW_e (gd g : Nat) (lv : Value) (fv : Nat → Value) (F : Nat → List Nat) (T : List ByteArray) (hTl : T.length = 0) (tv pv : Value) (p : List Nat) (hpl : p.length ≤ 16777216) (w0 w : World) (hR0 : Rf g lv fv [] F 0 w0) (hK : w0.heap.size ≤ gd) (hb : Below w0.heap.size w0 w) (hR : Rdw gd g (.slice none 0 0) 0 tv (.slice none 0 0) (-((0 : Nat) : Int)) 0 false false w) (hpv : Si .u8 pv p w0) (hT : St tv T w) (hTg : tv.ownBlock ≠ some gd) :
    Calls Try.prog 67 #[.pointer (some ⟨gd, 0, none⟩), pv] w fun e w' => But gd w w' ∧ RdF gd g 0 T p [] 0 tv w.heap.size e w' := by
  have hg := hR0.gz
  have gz : gd < w.heap.size := (Array.getElem?_eq_some_iff.1 hR).1
  have hblk := hpv.blk
  have hz := hb.size
  have hT0 : T = [] := List.length_eq_zero_iff.1 hTl
  refine feedW_any gd g 0 [] tv pv T p [] 0 w hR (by omega) hpl (by omega) (hpv.below hb) (fun e => by have := hblk _ e; omega) hT hTg (by rw [hT0]; simp) (by omega) (by omega) ?_ (by simp) (by simp) (by simp) ?_ ?_
  · exact (World.cell?_of_block (w := w0) (hb.block g (by omega))).trans ((cell_of_row w0 g _ _ _ _ hR0.row).trans (rfC_w _ _ _))
  · intro W hbW
    have hRW : Rdw gd g (.slice none 0 0) 0 tv (.slice none 0 0) (-((0 : Nat) : Int)) 0 false false W := (hbW.block gd gz).trans hR
    have hR2 : Rf g lv fv [] F 0 W := hR0.keep fun j _ hj => (hbW.block j (by omega)).trans (hb.block j hj)
    have := feedR_gen [tv, .slice none 0 0, .int .i64 (-((0 : Nat) : Int)), .int .i64 0, .bool false, .bool false] 111 gd g 0 0 (fun _ => []) [] p (.slice none 0 0) pv W (by omega) (by omega) (by omega) (by simp) (by simp) hpl hRW (.inl ⟨rfl, rfl⟩) ((hpv.below hb).below hbW) hR2.gz ((cell_of_row W g _ _ _ _ hR2.row).trans (rfC_w _ _ _))
      (fun W2 v hb2 hv => (scanR_0 g lv fv [] F v W2 (hR2.below hb2)).mono (by rintro e w' ⟨rfl, rfl⟩; exact ⟨_, rfl, World.ownsRow_nil _ _ _ _, Below.refl _ _⟩))
      (fun x hx => by cases hx)
    rw [lastN_0, Nat.zero_add] at this
    exact this.mono fun e w' ⟨v, lvv', q1, q2, q3, q4, q5, q6⟩ => ⟨v, lvv', q1, q2, q3, q4, q5, q6⟩
  · intro W lvv X hX hlv hbW
    refine heldR_gen X 111 gd g lvv p.length 0 W hX fun W2 hb2 => ?_
    have hR2 : Rf g lv fv [] F 0 W2 := hR0.keep fun j _ hj => by
      have hjW : j < W.heap.size := by
        rcases Nat.lt_or_ge j W.heap.size with h | h
        · exact h
        · have h1 := hbW j (by omega) (by omega)
          rw [Array.getElem?_eq_none h] at h1
          have h2 : w.heap[j]? ≠ none := by simp; omega
          exact absurd h1.symm h2
      exact (hb2.block j hjW).trans ((hbW j (by omega) (by omega)).trans (hb.block j hj))
    exact (held_0 g lv fv [] F [] lvv W2 hR2 (hlv.below hb2)).mono (by rintro e w' ⟨rfl, rfl⟩; exact ⟨rfl, Below.refl _ _⟩)
end Go.Proofs.Ytceaklefdahfkab

/- SieveStreams: two rewriters of a sieve of patterns, of a sieve of none. -/
namespace Go.Proofs.Ytceaklefdahfkab
open Go.RowKit
theorem frL_frN (m : Nat) : ∀ (H : List (Int × Int)) (f : Int), frL (f - (m : Int)) H = frN f m H - (m : Int)
  | [], f => by simp [frL, frN]
  | x :: H, f => by
    have h1 : frL (f - (m : Int)) (x :: H) = frL (x.1 + (m : Int) - (m : Int)) H := by
      rw [show x.1 + (m : Int) - (m : Int) = x.1 by omega]; rfl
    have h2 : frN f m (x :: H) = frN (x.1 + (m : Int)) m H := rfl
    rw [h1, h2]
    exact frL_frN m H _
theorem frN_bd (m B : Nat) : ∀ (H : List (Int × Int)) (f : Int), 0 ≤ f → f ≤ (B : Int) → (∀ x ∈ H, 0 ≤ x.1 ∧ x.1 + (m : Int) ≤ (B : Int)) → 0 ≤ frN f m H ∧ frN f m H ≤ (B : Int)
  | [], f, h1, h2, _ => ⟨h1, h2⟩
  | x :: H, f, _, _, h => by
    have hx := h x (by simp)
    exact frN_bd m B H (x.1 + (m : Int)) (by omega) hx.2 fun y hy => h y (by simp [hy])
/-- What patterns decide. -/
def spP (L : List (List Nat)) (m : Nat) (T : List ByteArray) : Sp where
  ok := fun y => Byt y ∧ (ovP 0 m (hts L m y)).2 = false
  er := fun y p => if (ovP 0 m (hts L m (y ++ p))).2 = true then some (ovP 0 m (hts L m (y ++ p))).1 else none
  out := fun y p => ((rwd L m T (y ++ p)).take ((y ++ p).length - hld2 L m (y ++ p))).drop (y.length - hld2 L m y)
  hd := hld2 L m
  xt := fun y => (rwd L m T y).drop (y.length - hld2 L m y)
  ln := lastN m
  pr := fun y => frN 0 m (hts L m y) - (m : Int)
theorem byt_app {y p : List Nat} (h : Byt y) (k : Byt p) : Byt (y ++ p) := fun z hz => by
  rcases List.mem_append.1 hz with hz | hz
  · exact h z hz
  · exact k z hz
theorem Fx.low {K La gr gd : Nat} {w0 W : World} (h : Fx K La gr gd w0 W) {wK : World} (hK : wK.heap.size = K) (hz : K ≤ w0.heap.size) (hb : ∀ j, j < K → w0.heap[j]? = wK.heap[j]?) (hr : K ≤ gr) (hd : K ≤ gd) : wK.heap.size ≤ W.heap.size ∧ ∀ j, j < wK.heap.size → W.heap[j]? = wK.heap[j]? := ⟨by have := h.1; omega, fun j hj => (h.2 j (by omega) (.inl (by omega)) (by omega) (by omega)).trans (hb j (by omega))⟩
/-- What was made. -/
structure Mkd (K La gr gd g gt : Nat) (wK w0 : World) (tc td : Value) (T : List ByteArray) : Prop where
  hK : wK.heap.size = K
  hKL : K ≤ La
  hgr : La ≤ gr ∧ gr < w0.heap.size
  hgd : La ≤ gd ∧ gd < w0.heap.size
  ne : gr ≠ gd
  low : ∀ j, j < K → w0.heap[j]? = wK.heap[j]?
  stc : St tc T w0
  std : St td T w0
  tcb : ∀ j, tc.ownBlock = some j → La ≤ j ∧ j < w0.heap.size ∧ j ≠ gr ∧ j ≠ gd
  tdb : ∀ j, td.ownBlock = some j → La ≤ j ∧ j < w0.heap.size ∧ j ≠ gr ∧ j ≠ gd
theorem prs_p (l : List ByteArray) (ns : List Nat) (m : Nat) (hp : Pt l m) (hn : NewOk l ns) (hnd : (l.map tl).Nodup) (T : List ByteArray) (hTs : ∀ s ∈ T, s.size = m) (hTl : T.length = l.length) (K La gr gd g gt : Nat) (wK w0 : World) (tc td : Value) (M : Mkd K La gr gd g gt wK w0 tc td T) (lvl : Value) (fv : Nat → Value) (hT : TabK K gt (ftT ((wdS l ns).map tl) ns m) wK) (hR : Rf g lvl fv l (fst (l.map tl)) m wK) :
    Prs K La w0.heap.size (some ⟨gr, 0, none⟩) (some ⟨gd, 0, none⟩) Ss ((spP (l.map tl) m T).ci K La gr gd w0 (RwI l m ns T gr gt tc)) ((spP (l.map tl) m T).di K La gr gd g w0 td) (fun j => j = gr) (spP (l.map tl) m T).fa (spP (l.map tl) m T).ca Sp.na (spP (l.map tl) m T).ha Sp.sz := by
  have hLl : T.length = (l.map tl).length := by rw [List.length_map, hTl]
  have hm0 := hp.m0
  have hm1 := hp.m1
  have hKL := M.hKL
  have hgr := M.hgr
  have hgd := M.hgd
  have hgK := hR.gz
  have hKe := M.hK
  have hKz : K ≤ w0.heap.size := by omega
  refine prs_mk _ K La gr gd g w0 td _ M.hgr M.hgd M.ne ?_ ?_ ?_ ?_ ?_ ?_ ?_
  · intro y p h1 h2 h3
    refine ⟨byt_app h1.1 h2, ?_⟩
    simp only [spP] at h3
    by_cases hc : (ovP 0 m (hts (l.map tl) m (y ++ p))).2 = true
    · rw [if_pos hc] at h3; cases h3
    · simpa using hc
  · intro y _
    have := hld2_lm (l.map tl) m y
    simp only [spP]
    rw [List.length_drop, rwd_len hTs hLl]
    omega
  · intro y W W' h he
    obtain ⟨s, K', h1, h2, h3, h4⟩ := h
    exact ⟨s, K', h1, he.trans h2, h3, h4⟩
  · intro y W h
    obtain ⟨s, K', h1, h2, h3, h4⟩ := h
    exact ⟨(cell_of_row W gr 2 _ _ _ h2).trans (sg2 _ _ _ _ _), (cell_of_row W gr 3 _ _ _ h2).trans (sg3 _ _ _ _ _)⟩
  · intro y p pv W hok hF hC hpb hpl hy hpv hpg
    obtain ⟨z1, z2⟩ := hF.low hKe hKz M.low (by omega) (by omega)
    have hT2 : TabK gr gt (ftT ((wdS l ns).map tl) ns m) W := (hT.keep z1 fun j _ hj => z2 j hj).mono (by omega)
    have hTv : St tc T W := M.stc.keep hF.1 fun j hj _ => by
      have := M.tcb j hj
      exact hF.2 j this.2.1 (.inr this.1) this.2.2.1 this.2.2.2
    refine (rfeed_y l m hp ns hn T hTs hTl gr gt tc y p hy hpb (by omega) hok.2 pv W hC hT2 hpv hpg hTv (fun e => (M.tcb gr e).2.2.1 rfl)).mono ?_
    rintro e w' ⟨hb, ⟨a1, a2, a3⟩ | ⟨a1, o, k, X, a2, a3, a4, a5, a6⟩⟩
    · exact ⟨hb, .inl ⟨_, by simp only [spP]; rw [if_pos a1], a2, a3⟩⟩
    · refine ⟨hb, .inr ⟨by simp only [spP]; rw [if_neg (by simp [a1])], o, k, a2, ?_, a4, a6⟩⟩
      have hle := hld2_lm (l.map tl) m y
      have hta : ((rwd (l.map tl) m T y).take (y.length - hld2 (l.map tl) m y)).length = y.length - hld2 (l.map tl) m y := by rw [List.length_take, rwd_len hTs hLl]; omega
      have : X = (spP (l.map tl) m T).out y p := by
        simp only [spP]
        rw [← a5, List.drop_append, List.drop_of_length_le (by omega), hta]
        simp
      rw [← this]
      exact a3
  · intro y W hok hC
    obtain ⟨s, K', hK', hRw, hat, hKt⟩ := hC
    have hle := hld2_lm (l.map tl) m y
    refine (rclose_any gr gt s y.length _ tc _ K' hK' (by omega) W hRw).mono ?_
    rintro e w' ⟨he, h1, h2, hb⟩
    have hkl : (K'.take (hld2 (l.map tl) m y)).length = hld2 (l.map tl) m y := by rw [List.length_take]; omega
    refine ⟨hb, h2, _, _, _, he, ?_, fun j hj => ?_⟩
    · simp only [spP]
      rw [← hKt]
      refine .inr ⟨W.heap.size, 0, hld2 (l.map tl) m y, by rw [hkl], by rw [hkl]; exact Nat.le_refl _, by unfold maxLen; omega, (Array.getElem?_eq_some_iff.1 h1).1, fun j hj => ?_⟩
      rw [Nat.zero_add]
      exact (cell_of_row w' _ _ _ _ _ h1).trans (ik_get _ _ _ hj)
    · have : W.heap.size = j := by cases hj; rfl
      omega
  · intro y p pv lv xv Bx W hok hF hRd hlv hxo hBx hxb hpb hpl hy hpv hpg
    simp only [spP] at hok hRd hlv hxo ⊢
    obtain ⟨z1, z2⟩ := hF.low hKe hKz M.low (by omega) (by omega)
    have hRW : Rf g lvl fv l (fst (l.map tl)) m W := hR.keep fun j _ hj => z2 j hj
    have hTv : St td T W := M.std.keep hF.1 fun j hj _ => by
      have := M.tdb j hj
      exact hF.2 j this.2.1 (.inr this.1) this.2.2.1 this.2.2.2
    have hzW := hF.1
    have hle := hld2_lm (l.map tl) m y
    have hle2 := hld2_lm (l.map tl) m (y ++ p)
    have happ := hld2_app (l.map tl) m y p
    have hrl := rwd_len hTs hLl y
    have hXl : ((rwd (l.map tl) m T y).drop (y.length - hld2 (l.map tl) m y)).length = hld2 (l.map tl) m y := by rw [List.length_drop, hrl]; omega
    have hgdW : gd < W.heap.size := by omega
    have hfb := frN_bd m y.length (hts (l.map tl) m y) 0 (by omega) (by omega) (fun x hx => by
      obtain ⟨i, k, rfl, q1, q2, q3⟩ := hts_hin (l.map tl) m y T.length hLl x hx
      simp only
      omega)
    have hin := hit2_in (l.map tl) m hm0 y p T.length hLl
    have hhl : (hit2 (l.map tl) m y p).length ≤ 16777300 := by
      unfold hit2
      rw [List.length_map]
      have := hts_len (l.map tl) m (lastN m y ++ p) hm0
      rw [List.length_append, lastN_len] at this
      omega
    obtain ⟨olv, clv, hlvf, -⟩ := hlv.form
    refine (feedW_gen gd g m y.length (y.length - hld2 (l.map tl) m y) Bx (hit2 (l.map tl) m y p) lv td pv xv (frN 0 m (hts (l.map tl) m y) - (m : Int)) (hld2 (l.map tl) m y : Int) T ((rwd (l.map tl) m T y).drop (y.length - hld2 (l.map tl) m y)) p (lastN m (y ++ p)) (hld2 (l.map tl) m (y ++ p)) W hRd ⟨_, _, _, hlvf⟩ (by rw [hXl]; exact hxo) hBx (fun e => by have := hxb gd e; omega) (by omega) (by omega) hy ⟨by omega, by omega⟩ hm1 hpl (by omega) hpv hpg hTv (fun j hj => ⟨(M.tdb j hj).2.2.2, fun e => by have := hxb j e; have := (M.tdb j hj).2.1; omega⟩) hTs (by omega) (fun e => by have := hxb g e; omega) (by omega) ((cell_of_row W g _ _ _ _ hRW.row).trans (rfC_w _ _ _)) (by rw [hXl]; exact hin) (fun _ => hm0) hhl ?_ ?_).mono ?_
    · intro W2 hb2
      have hRd2 := (hb2.block gd hgdW).trans hRd
      have := feedD_gen [td, xv, .int .i64 (frN 0 m (hts (l.map tl) m y) - (m : Int)), .int .i64 (hld2 (l.map tl) m y : Int), .bool false, .bool false] 111 l m hp hnd gd g lvl fv y p hok.1 hpb hy hpl lv pv W2 (by omega) hRd2 (hlv.below hb2) (hpv.below hb2) (hRW.keep fun j _ hj => hb2.block j hj)
      rw [List.length_append] at this
      exact this.mono fun e w' ⟨v, lvv', q1, q2, q3, q4, q5, q6⟩ => ⟨v, lvv', q1, q2, q3, q4, q5, q6⟩
    · intro W2 lvv Y hX2 hlv2 hz2 hb2
      refine heldR_gen Y 111 gd g lvv _ _ W2 hX2 fun W3 hb3 => ?_
      have hR3 : Rf g lvl fv l (fst (l.map tl)) m W3 := hR.keep fun j _ hj => (hb3.block j (by omega)).trans ((hb2 j (by omega) (fun e => by rcases e with e | e; omega; have := hxb j e; omega)).trans (z2 j hj))
      have := held_any g lvl fv l m hp.m0 hm1 hp.ln hp.sz (lastN m (y ++ p)) (fun x hx => byt_app hok.1 hpb x (List.mem_of_mem_drop hx)) (by rw [lastN_len]; omega) lvv W3 hR3 (hlv2.below hb3)
      rw [lastN_len, show min (m - 1) (min (m - 1) (y ++ p).length) = min (m - 1) (y ++ p).length by omega] at this
      exact this
    · have hoA : ovP 0 m (hts (l.map tl) m (y ++ p)) = ovP (frN 0 m (hts (l.map tl) m y)) m (hit2 (l.map tl) m y p) := by
        rw [hts_app _ m (by omega), ovP_app, hok.2, if_neg (by simp)]
      have hfA : frN 0 m (hts (l.map tl) m (y ++ p)) = frN (frN 0 m (hts (l.map tl) m y)) m (hit2 (l.map tl) m y p) := by
        rw [hts_app _ m (by omega), frN_app]
      have hoD := ovP_dc (frN 0 m (hts (l.map tl) m y)) m (hit2 (l.map tl) m y p)
      have hpl2 := rwd_app (by omega) hTs hLl y p
      have hta : ((rwd (l.map tl) m T y).take (y.length - hld2 (l.map tl) m y)).length = y.length - hld2 (l.map tl) m y := by rw [List.length_take, hrl]; omega
      have hdl : ((rwd (l.map tl) m T y).drop (y.length - hld2 (l.map tl) m y) ++ p).length = hld2 (l.map tl) m y + p.length := by rw [List.length_append, List.length_drop, hrl]; omega
      have hPl : (puts T (y.length - hld2 (l.map tl) m y) ((rwd (l.map tl) m T y).drop (y.length - hld2 (l.map tl) m y) ++ p) (hit2 (l.map tl) m y p)).length = hld2 (l.map tl) m y + p.length := by
        rw [puts_len (m := m) hTs _ _ (by rw [hdl]; exact hit2_in (l.map tl) m (by omega) y p T.length hLl), hdl]
      rintro e w' (⟨a, e1, e2, e3, hb⟩ | ⟨e1, v, lvv, ox, lx, cx, q, e2, e3, e4, e5, e6, e7, e8, hb⟩)
      · have h1 : ovP 0 m (hts (l.map tl) m (y ++ p)) = (a, true) := by rw [hoA, hoD, e1]; rfl
        refine .inl ⟨a, ?_, e2, e3, hb⟩
        rw [h1]
        rfl
      · have h1 : ovP 0 m (hts (l.map tl) m (y ++ p)) = (0, false) := by rw [hoA, hoD, e1]; rfl
        rw [hXl] at e3 e6
        generalize hP : puts T (y.length - hld2 (l.map tl) m y) ((rwd (l.map tl) m T y).drop (y.length - hld2 (l.map tl) m y) ++ p) (hit2 (l.map tl) m y p) = P at *
        have hal : (y ++ p).length = y.length + p.length := List.length_append
        have hidx : (y ++ p).length - hld2 (l.map tl) m (y ++ p) - (y.length - hld2 (l.map tl) m y) = hld2 (l.map tl) m y + p.length - hld2 (l.map tl) m (y ++ p) := by omega
        have htk := tk_in _ P _ ((y ++ p).length - hld2 (l.map tl) m (y ++ p)) hta (by omega)
        rw [hidx, ← hpl2] at htk
        have hout : ((rwd (l.map tl) m T (y ++ p)).take ((y ++ p).length - hld2 (l.map tl) m (y ++ p))).drop (y.length - hld2 (l.map tl) m y) = P.take (hld2 (l.map tl) m y + p.length - hld2 (l.map tl) m (y ++ p)) := by
          rw [htk.1, List.drop_append, List.drop_of_length_le (by omega), hta]
          simp
        refine .inr ⟨by rw [h1]; rfl, v, lvv, ox, lx, cx, e2, ?_, ?_, ?_, e7, e8, hb⟩
        · rw [hout, List.length_take, hPl, Nat.min_eq_left (by omega)]
          exact e3
        · rw [hal, hfA, ← frL_frN, ← e5]
          exact e4
        · rw [htk.2]
          exact e6
end Go.Proofs.Ytceaklefdahfkab

/- SieveStreams: two rewriters of a sieve of no pattern; both, made. -/
namespace Go.Proofs.Ytceaklefdahfkab
open Go.RowKit
/-- What no pattern decides. -/
def spE : Sp where
  ok := fun _ => True
  er := fun _ _ => none
  out := fun _ p => p
  hd := fun _ => 0
  xt := fun _ => []
  ln := fun _ => []
  pr := fun _ => -((0 : Nat) : Int)
def RwE (gr gt : Nat) (tc : Value) (y : List Nat) (W : World) : Prop := ∃ K, K.length = 63 ∧ Rwt gr gt 0 y.length 0 tc 0 K W
theorem prs_e (T : List ByteArray) (hTl : T = []) (K La gr gd g gt : Nat) (wK w0 : World) (tc td : Value) (M : Mkd K La gr gd g gt wK w0 tc td T) (lvl : Value) (fv : Nat → Value) (F : Nat → List Nat) (hT : TabK K gt TE wK) (hR : Rf g lvl fv [] F 0 wK) :
    Prs K La w0.heap.size (some ⟨gr, 0, none⟩) (some ⟨gd, 0, none⟩) Ss (spE.ci K La gr gd w0 (RwE gr gt tc)) (spE.di K La gr gd g w0 td) (fun j => j = gr) spE.fa spE.ca Sp.na spE.ha Sp.sz := by
  have hKL := M.hKL
  have hgr := M.hgr
  have hgd := M.hgd
  have hgK := hR.gz
  have hKe := M.hK
  have hKz : K ≤ w0.heap.size := by omega
  refine prs_mk _ K La gr gd g w0 td _ M.hgr M.hgd M.ne ?_ ?_ ?_ ?_ ?_ ?_ ?_
  · intro y p _ _ _
    trivial
  · intro y _
    rfl
  · intro y W W' h he
    obtain ⟨K', h1, h2⟩ := h
    exact ⟨K', h1, he.trans h2⟩
  · intro y W h
    obtain ⟨K', h1, h2⟩ := h
    exact ⟨(cell_of_row W gr 2 _ _ _ h2).trans (sg2 _ _ _ _ _), (cell_of_row W gr 3 _ _ _ h2).trans (sg3 _ _ _ _ _)⟩
  · intro y p pv W hok hF hC hpb hpl hy hpv hpg
    obtain ⟨z1, z2⟩ := hF.low hKe hKz M.low (by omega) (by omega)
    have hT2 : TabK gr gt TE W := (hT.keep z1 fun j _ hj => z2 j hj).mono (by omega)
    have hTv : St tc T W := M.stc.keep hF.1 fun j hj _ => by
      have := M.tcb j hj
      exact hF.2 j this.2.1 (.inr this.1) this.2.2.1 this.2.2.2
    obtain ⟨K', hK', hRw⟩ := hC
    have := rfeed_any gr gt 0 y.length 0 tc 0 K' hK' T 0 [] (by simp) (by rw [hTl]; simp) TE te_wk rfl _ te_gd rfl hy (by omega) (by omega) p hpb (by omega) pv W hRw hT2 hpv hpg hTv (fun e => (M.tcb gr e).2.2.1 rfl) (te_fnd p _ hpb) (fun j => by simp [I64]) (by simp) (by rw [te_rn p hpb, te_dep]; omega) (by rw [te_rn p hpb, te_dep]; omega)
    rw [te_rn p hpb, te_dep] at this
    refine this.mono ?_
    rintro e w' ⟨hb, ⟨a1, a2, a3⟩ | ⟨a1, o, a2, a3, a4, a5⟩⟩
    · exact absurd a1 (by simp [ovP, ov, ovR])
    · refine ⟨hb, .inr ⟨rfl, o, _, a2, ?_, a4, ?_⟩⟩
      · have h0 : (puts T (y.length - 0) (K'.take 0 ++ p) []).take (0 + p.length - 0) = p := by
          show (K'.take 0 ++ p).take _ = p
          simp
        rw [h0] at a3
        exact a3
      · refine ⟨_, ?_, by rw [List.length_append]; exact a5⟩
        have h0 : (puts T (y.length - 0) (K'.take 0 ++ p) []).drop (0 + p.length - 0) = [] := by
          show (K'.take 0 ++ p).drop _ = []
          simp
        rw [h0]
        simpa using hK'
  · intro y W hok hC
    obtain ⟨K', hK', hRw⟩ := hC
    refine (rclose_any gr gt 0 y.length 0 tc 0 K' hK' (by omega) W hRw).mono ?_
    rintro e w' ⟨he, h1, h2, hb⟩
    refine ⟨hb, h2, _, _, _, he, ?_, fun j hj => ?_⟩
    · exact .inr ⟨W.heap.size, 0, 0, rfl, Nat.le_refl _, by unfold maxLen; omega, (Array.getElem?_eq_some_iff.1 h1).1, fun j hj => absurd hj (by simp [spE])⟩
    · have : W.heap.size = j := by cases hj; rfl
      omega
  · intro y p pv lv xv Bx W hok hF hRd hlv hxo hBx hxb hpb hpl hy hpv hpg
    simp only [spE] at hok hRd hlv hxo ⊢
    obtain ⟨z1, z2⟩ := hF.low hKe hKz M.low (by omega) (by omega)
    have hRW : Rf g lvl fv [] F 0 W := hR.keep fun j _ hj => z2 j hj
    have hTv : St td T W := M.std.keep hF.1 fun j hj _ => by
      have := M.tdb j hj
      exact hF.2 j this.2.1 (.inr this.1) this.2.2.1 this.2.2.2
    have hzW := hF.1
    have hgdW : gd < W.heap.size := by omega
    obtain ⟨olv, clv, hlvf, -⟩ := hlv.form
    refine (feedW_gen gd g 0 y.length y.length Bx [] lv td pv xv (-((0 : Nat) : Int)) ((0 : Nat) : Int) T [] p [] 0 W hRd ⟨_, _, _, hlvf⟩ hxo hBx (fun e => by have := hxb gd e; omega) (by simp) (by simp) hy ⟨by omega, by omega⟩ (by omega) hpl (by omega) hpv hpg hTv (fun j hj => ⟨(M.tdb j hj).2.2.2, fun e => by have := hxb j e; have := (M.tdb j hj).2.1; omega⟩) (by rw [hTl]; simp) (by omega) (fun e => by have := hxb g e; omega) (by omega) ((cell_of_row W g _ _ _ _ hRW.row).trans (rfC_w _ _ _)) (by simp) (by simp) (by simp) ?_ ?_).mono ?_
    · intro W2 hb2
      have hRd2 := (hb2.block gd hgdW).trans hRd
      have hR2 : Rf g lvl fv [] F 0 W2 := hRW.keep fun j _ hj => hb2.block j hj
      have := feedR_gen [td, xv, .int .i64 (-((0 : Nat) : Int)), .int .i64 ((0 : Nat) : Int), .bool false, .bool false] 111 gd g 0 y.length (fun _ => []) [] p lv pv W2 (by omega) (by omega) hy (by simp) (by simp) hpl hRd2 (hlv.below hb2) (hpv.below hb2) hR2.gz ((cell_of_row W2 g _ _ _ _ hR2.row).trans (rfC_w _ _ _))
        (fun W3 v hb3 hv => (scanR_0 g lvl fv [] F v W3 (hR2.below hb3)).mono (by rintro e w' ⟨rfl, rfl⟩; exact ⟨_, rfl, World.ownsRow_nil _ _ _ _, Below.refl _ _⟩))
        (fun x hx => by cases hx)
      rw [lastN_0] at this
      exact this.mono fun e w' ⟨v, lvv', q1, q2, q3, q4, q5, q6⟩ => ⟨v, lvv', q1, q2, q3, q4, q5, q6⟩
    · intro W2 lvv Y hX2 hlv2 hz2 hb2
      refine heldR_gen Y 111 gd g lvv _ 0 W2 hX2 fun W3 hb3 => ?_
      have hR3 : Rf g lvl fv [] F 0 W3 := hR.keep fun j _ hj => (hb3.block j (by omega)).trans ((hb2 j (by omega) (fun e => by rcases e with e | e; omega; have := hxb j e; omega)).trans (z2 j hj))
      exact (held_0 g lvl fv [] F [] lvv W3 hR3 (hlv2.below hb3)).mono (by rintro e w' ⟨rfl, rfl⟩; exact ⟨rfl, Below.refl _ _⟩)
    · rintro e w' (⟨a, e1, e2, e3, hb⟩ | ⟨e1, v, lvv, ox, lx, cx, q, e2, e3, e4, e5, e6, e7, e8, hb⟩)
      · cases e1
      · have h0 : (puts T y.length ([] ++ p) []).take (([] : List Nat).length + p.length - 0) = p := by
          show ([] ++ p).take _ = p
          simp
        have h1 : (puts T y.length ([] ++ p) []).drop (([] : List Nat).length + p.length - 0) = [] := by
          show ([] ++ p).drop _ = []
          simp
        rw [h0] at e3
        rw [h1] at e6
        refine .inr ⟨trivial, v, lvv, ox, lx, cx, e2, ?_, ?_, e6, e7, e8, hb⟩
        · simpa using e3
        · rw [List.length_append]
          rw [e5] at e4
          exact e4
/-- Two rewriters (or none), made. -/
def PrsE (K La : Nat) (c d : Option Addr) (w2 : World) : Prop := ∃ (S : Type) (CI : S → World → Prop) (DI : S → (Nat → Prop) → World → Prop) (C : Nat → Prop) (FA : S → List Nat → (Int × Int × List Nat) × S) (CA : S → (Int × Int × List Nat) × S) (NA HA SZ : S → Nat), Prs K La w2.heap.size c d S CI DI C FA CA NA HA SZ ∧ ∃ s0 D0, CI s0 w2 ∧ DI s0 D0 w2 ∧ SZ s0 = 0
theorem hts_nil0 (L : List (List Nat)) (m : Nat) (hm : 0 < m) : hts L m [] = [] := by
  have h : ([] : List Nat).length + 1 - m = 0 := by simp; omega
  rw [hts, h]
  rfl
theorem hld2_nil0 (L : List (List Nat)) (m : Nat) : hld2 L m [] = 0 := by
  unfold hld2
  rw [show min (m - 1) ([] : List Nat).length = 0 by simp]
  rfl
theorem fx_refl (K La gr gd : Nat) (w : World) : Fx K La gr gd w w := ⟨Nat.le_refl _, fun _ _ _ _ _ => rfl⟩
theorem prs_any {B0 : Nat} {l : List ByteArray} {g gt : Nat} {ns : List Nat} {lvl : Value} {fv : Nat → Value} {wK : World} (t1 : l.length ≤ 4096) (t2 : (wdO l).2 = true) (t3 : (l.map tl).Nodup) (t6 : NewOk l ns) (t8 : TabB B0 wK.heap.size gt (ftT ((wdS l ns).map tl) ns (wdO l).1) wK) (t9 : Rf g lvl fv l (fst (l.map tl)) (wdO l).1 wK)
    (T : List ByteArray) (hTl : T.length = l.length) (hTa : allW (wdO l).1 T = true) (K La gr gd : Nat) (w0 : World) (tc td : Value) (M : Mkd K La gr gd g gt wK w0 tc td T) (h1 : Rwt gr gt 0 0 0 tc 0 (List.replicate 63 0) w0) (h2 : Rdw gd g (.slice none 0 0) 0 td (.slice none 0 0) (-((wdO l).1 : Int)) 0 false false w0) :
    PrsE K La (some ⟨gr, 0, none⟩) (some ⟨gd, 0, none⟩) w0 := by
  by_cases hl : l = []
  · subst hl
    have hn : ns = [] := by have := t6.1.len; exact List.length_eq_zero_iff.1 (by simpa using this)
    subst hn
    have hT0 : T = [] := List.length_eq_zero_iff.1 (by simpa using hTl)
    refine ⟨_, _, _, _, _, _, _, _, _, prs_e T hT0 K La gr gd g gt wK w0 tc td M lvl fv _ (by rw [← M.hK]; exact t8.tabK) t9, .inl [], (fun j => j = gd ∨ (Value.slice none 0 0).ownBlock = some j ∨ (Value.slice none 0 0).ownBlock = some j), ?_, ?_, rfl⟩
    · exact ⟨fx_refl _ _ _ _ _, trivial, _, by simp, h1⟩
    · exact ⟨fx_refl _ _ _ _ _, trivial, .slice none 0 0, .slice none 0 0, 0, h2, .inl ⟨rfl, rfl⟩, World.ownsRow_nil _ _ _ _, Nat.zero_le _, (fun j hj => by rcases hj with hj | hj <;> cases hj), rfl⟩
  · have hp := wdO_pt t2 t1 hl
    have hw := hp.wd t6
    have hLl : T.length = (l.map tl).length := by rw [List.length_map, hTl]
    have hm0 := hp.m0
    have e1 := hts_nil0 (l.map tl) (wdO l).1 hm0
    have e2 := hld2_nil0 (l.map tl) (wdO l).1
    have hok : (spP (l.map tl) (wdO l).1 T).ok [] := ⟨(fun x hx => by cases hx), by rw [e1]; simp [ovP, ov, ovR]⟩
    refine ⟨_, _, _, _, _, _, _, _, _, prs_p l ns _ hp t6 t3 T (allW_all hTa) hTl K La gr gd g gt wK w0 tc td M lvl fv (by rw [← M.hK]; exact t8.tabK) t9, .inl [], (fun j => j = gd ∨ (Value.slice none 0 0).ownBlock = some j ∨ (Value.slice none 0 0).ownBlock = some j), ?_, ?_, rfl⟩
    · refine ⟨fx_refl _ _ _ _ _, hok, 0, List.replicate 63 0, by simp, ?_, hw.at0, ?_⟩
      · rw [e1, e2]; exact h1
      · rw [e2]
        have : rwd (l.map tl) (wdO l).1 T [] = [] := List.length_eq_zero_iff.1 (by rw [rwd_len (allW_all hTa) hLl]; rfl)
        rw [this]; rfl
    · have h3 : (spP (l.map tl) (wdO l).1 T).xt [] = [] := by
        simp only [spP]
        have : rwd (l.map tl) (wdO l).1 T [] = [] := List.length_eq_zero_iff.1 (by rw [rwd_len (allW_all hTa) hLl]; rfl)
        rw [this, List.drop_nil]
      have h4 : (spP (l.map tl) (wdO l).1 T).hd [] = 0 := e2
      have h5 : (spP (l.map tl) (wdO l).1 T).pr [] = -((wdO l).1 : Int) := by
        simp only [spP]
        rw [e1]
        show (0 : Int) - _ = _
        omega
      refine ⟨fx_refl _ _ _ _ _, hok, .slice none 0 0, .slice none 0 0, 0, by rw [h4, h5]; exact h2, .inl ⟨rfl, by simp [spP, lastN]⟩, by rw [h3, h4]; exact World.ownsRow_nil _ _ _ _, Nat.zero_le _, (fun j hj => by rcases hj with hj | hj <;> cases hj), rfl⟩
end Go.Proofs.Ytceaklefdahfkab

/- SieveScans: both scanners, made. -/
namespace Go.Proofs.Ytceaklefdahfkab
open Go.RowKit
theorem scanners {B0 : Nat} {l : List ByteArray} {p q : Option Addr} {w1 : World} (A : Nat) (hA : A < w1.heap.size) (h : Both B0 l p q w1) :
    Calls Try.prog 19 #[.pointer p] w1 fun e w' => ∃ c, e = .returned (.pointer c) ∧ Below w1.heap.size w1 w' ∧ Calls Try.prog 27 #[.pointer q] w' fun e2 w2 => ∃ d, e2 = .returned (.pointer d) ∧ Below w1.heap.size w1 w2 ∧ ((c = none ∧ d = none) ∨ ∃ a b, c = some a ∧ d = some b) ∧ ∃ gs gd SC SR H2 HD NN, Sys A w2.heap.size gs gd c d SC SR H2 HD NN ∧ SC [] w2 ∧ SR [] none w2 := by
  rcases h with ⟨rfl, rfl⟩ | ⟨g, h, rfl, rfl, t1, t2, t3, t4, t5, ns, t6, gt, lv, fv, t7, t8, t9⟩
  · refine (scanner_nil w1).mono ?_
    rintro e w' ⟨rfl, rfl⟩
    refine ⟨none, rfl, Below.refl _ _, (scannerR_nil _).mono ?_⟩
    rintro e w' ⟨rfl, rfl⟩
    exact ⟨none, rfl, Below.refl _ _, .inl ⟨rfl, rfl⟩, _, _, _, _, _, _, _, sys_nil A _ hA, trivial, rfl⟩
  · refine (scanner_any g gt w1 t7).mono ?_
    rintro e w' ⟨rfl, a1, a2, a3⟩
    refine ⟨_, rfl, a2, (scannerR_any h w').mono ?_⟩
    rintro e w2 ⟨rfl, b1, b2, b3⟩
    have hb : Below w1.heap.size w1 w2 := a2.trans (b2.mono (by omega))
    have hs : Scn w1.heap.size gt 0 0 0 w2 := (b2.block _ (by omega)).trans a1
    refine ⟨_, rfl, hb, .inr ⟨_, _, rfl, rfl⟩, ?_⟩
    by_cases hl : l = []
    · subst hl
      have hn : ns = [] := by have := t6.1.len; exact List.length_eq_zero_iff.1 (by simpa using this)
      subst hn
      refine ⟨_, _, _, _, _, _, _, sys_e A w1.heap.size w2.heap.size w1.heap.size w'.heap.size gt h lv fv _ w1 rfl (by omega) (Nat.le_refl _) (by omega) (by omega) t8.tabK t9, ⟨hs, hb.size, fun j hj => hb.block j hj⟩, ⟨⟨_, b1, .inl ⟨rfl, rfl⟩, rfl⟩, hb.size, fun j hj => hb.block j hj⟩⟩
    · have hp := wdO_pt t2 t1 hl
      have hw := hp.wd t6
      refine ⟨_, _, _, _, _, _, _, sys_p l ns _ hp t6 t3 A w1.heap.size w2.heap.size w1.heap.size w'.heap.size gt h lv fv w1 rfl (by omega) (Nat.le_refl _) (by omega) (by omega) t8.tabK t9, ⟨⟨0, ?_, hw.at0⟩, hb.size, fun j hj => hb.block j hj⟩, ⟨⟨_, b1, .inl ⟨rfl, ?_⟩, rfl⟩, hb.size, fun j hj => hb.block j hj⟩⟩
      · have : hld2 (l.map tl) (wdO l).1 [] = 0 := by
          unfold hld2
          rw [show min ((wdO l).1 - 1) ([] : List Nat).length = 0 by simp]
          rfl
        rw [this]; exact hs
      · simp [lastN]
end Go.Proofs.Ytceaklefdahfkab

/- SieveStreams: both rewriters, both maskers, made. -/
namespace Go.Proofs.Ytceaklefdahfkab
open Go.RowKit
theorem ft_vals (l : List ByteArray) (ns : List Nat) (m : Nat) (hn : NewOk l ns) : (ftT ((wdS l ns).map tl) ns m).values.length = l.length := by
  show (lbS _ _).values.length = _
  rw [(lbS_same _ _).2.2.2.2]
  exact hn.1.len
theorem ft_width (l : List ByteArray) (ns : List Nat) (m : Nat) : (ftT ((wdS l ns).map tl) ns m).width = m := by
  show (lbS _ _).width = _
  rw [(lbS_same _ _).2.2.1]
  rfl
theorem wdO_64 {l : List ByteArray} (t1 : l.length ≤ 4096) (t2 : (wdO l).2 = true) : (wdO l).1 ≤ 64 := by
  by_cases hl : l = []
  · subst hl
    exact Nat.zero_le _
  · exact (wdO_pt t2 t1 hl).m1
theorem st_blk {v : Value} {T : List ByteArray} {w : World} (h : St v T w) : ∀ j, v.ownBlock = some j → j < w.heap.size := fun j hj => by
  rcases h with ⟨rfl, _⟩ | ⟨b, off, c, rfl, _, _, h4, _⟩
  · cases hj
  · have : b = j := by cases hj; rfl
    omega
theorem prsE_nil (K La : Nat) (w : World) : PrsE K La none none w := ⟨_, _, _, _, _, _, _, _, _, prs_nil K La w.heap.size, (), _, trivial, rfl, rfl⟩
theorem rwrs {B0 : Nat} {l : List ByteArray} {p q : Option Addr} {w1 : World} (h : Both B0 l p q w1) (T : List ByteArray) (hTl : T.length ≤ 1048576) (hTz : ∀ s ∈ T, s.size ≤ 1099511627776) (ov tv : Value) (W : World) (hb : Below w1.heap.size w1 W) (ho : St ov T W) (ht : St tv T W) :
    Calls Try.prog 20 #[.pointer p, ov] W fun e w' => ∃ c er, e = .returned (.tuple #[.pointer c, .int .i64 er]) ∧ Below W.heap.size W w' ∧ Calls Try.prog 37 #[.pointer q, tv] w' fun e2 w2 => ∃ d, e2 = .returned (.tuple #[.pointer d, .int .i64 er]) ∧ Below W.heap.size W w2 ∧ ((c = none ∧ d = none) ∨ ∃ a b, c = some a ∧ d = some b) ∧ PrsE w1.heap.size W.heap.size c d w2 := by
  rcases h with ⟨rfl, rfl⟩ | ⟨g, h, rfl, rfl, t1, t2, t3, t4, t5, ns, t6, gt, lv, fv, t7, t8, t9⟩
  · refine (rewriter_nil ov W).mono ?_
    rintro e w' ⟨rfl, rfl⟩
    refine ⟨none, 0, rfl, Below.refl _ _, (rwrD_nil tv _).mono ?_⟩
    rintro e w' ⟨rfl, rfl⟩
    exact ⟨none, rfl, Below.refl _ _, .inl ⟨rfl, rfl⟩, prsE_nil _ _ _⟩
  · have hz := hb.size
    have hvl := ft_vals l ns (wdO l).1 t6
    have hwd := ft_width l ns (wdO l).1
    have h64 := wdO_64 t1 t2
    have hgz : g < w1.heap.size := (Array.getElem?_eq_some_iff.1 t7).1
    refine (rewriter_any g gt _ T hTl ov W ((hb.block g hgz).trans t7) (t8.tabK.tab.below hb) ho).mono ?_
    rintro e w' ⟨hb1, hc⟩
    have hz1 := hb1.size
    have hRf : Rf h lv fv l (fst (l.map tl)) (wdO l).1 w' := (t9.below hb).below hb1
    have CD := rwrD_new h lv fv l _ (wdO l).1 h64 T hTl hTz tv w' hRf (ht.below hb1)
    unfold RwnP at hc
    rw [hvl, hwd] at hc
    rcases hc with ⟨a1, rfl⟩ | ⟨a1, a2, rfl⟩ | ⟨a1, a2, gr, tc, rfl, a4, a5, a6, a7, a8⟩
    · refine ⟨none, 2, rfl, hb1, CD.mono ?_⟩
      rintro e w2 ⟨hb2, ⟨b1, rfl⟩ | ⟨b1, _⟩ | ⟨b1, _⟩⟩
      · exact ⟨none, rfl, hb1.trans (hb2.mono hz1), .inl ⟨rfl, rfl⟩, prsE_nil _ _ _⟩
      · exact absurd b1 a1
      · exact absurd b1 a1
    · refine ⟨none, 50, rfl, hb1, CD.mono ?_⟩
      rintro e w2 ⟨hb2, ⟨b1, rfl⟩ | ⟨b1, b2, rfl⟩ | ⟨b1, b2, _⟩⟩
      · exact absurd a1 b1
      · exact ⟨none, rfl, hb1.trans (hb2.mono hz1), .inl ⟨rfl, rfl⟩, prsE_nil _ _ _⟩
      · rw [a2] at b2; cases b2
    · refine ⟨_, 0, rfl, hb1, CD.mono ?_⟩
      rintro e w2 ⟨hb2, ⟨b1, rfl⟩ | ⟨b1, b2, rfl⟩ | ⟨b1, b2, gd, td, rfl, b4, b5, b6, b7, b8⟩⟩
      · exact absurd a1 b1
      · rw [a2] at b2; cases b2
      · have hz2 := hb2.size
        have hbW : Below W.heap.size W w2 := hb1.trans (hb2.mono hz1)
        have hgr : gr < w'.heap.size := (Array.getElem?_eq_some_iff.1 a5).1
        have hgd : gd < w2.heap.size := (Array.getElem?_eq_some_iff.1 b5).1
        refine ⟨_, rfl, hbW, .inr ⟨_, _, rfl, rfl⟩, prs_any t1 t2 t3 t6 t8 t9 T a1 a2 _ _ gr gd w2 tc td ⟨rfl, hz, ⟨a4, by omega⟩, ⟨by omega, hgd⟩, by omega, fun j hj => (hbW.block j (by omega)).trans (hb.block j hj), a6.below hb2, b6, fun j hj => ?_, fun j hj => ?_⟩ ((hb2.block gr hgr).trans a5) b5⟩
        · have q1 := st_blk a6 j hj
          have q2 := a8 j hj
          have q3 : j ≠ gr := fun e => a7 (by rw [hj, e])
          exact ⟨q2, by omega, q3, by omega⟩
        · have q1 := st_blk b6 j hj
          have q2 := b8 j hj
          have q3 : j ≠ gd := fun e => b7 (by rw [hj, e])
          exact ⟨by omega, q1, by omega, q3⟩
theorem mkrs {B0 : Nat} {l : List ByteArray} {p q : Option Addr} {w1 : World} (h : Both B0 l p q w1) (W : World) (hb : Below w1.heap.size w1 W) :
    Calls Try.prog 39 #[.pointer p] W fun e w' => ∃ c, e = .returned (.pointer c) ∧ Below W.heap.size W w' ∧ Calls Try.prog 40 #[.pointer q] w' fun e2 w2 => ∃ d, e2 = .returned (.pointer d) ∧ Below W.heap.size W w2 ∧ ((c = none ∧ d = none) ∨ ∃ a b, c = some a ∧ d = some b) ∧ PrsE w1.heap.size W.heap.size c d w2 := by
  rcases h with ⟨rfl, rfl⟩ | ⟨g, h, rfl, rfl, t1, t2, t3, t4, t5, ns, t6, gt, lv, fv, t7, t8, t9⟩
  · refine (masker_nil W).mono ?_
    rintro e w' ⟨rfl, hb1⟩
    refine ⟨none, rfl, hb1, (mkrD_nil _).mono ?_⟩
    rintro e w' ⟨rfl, rfl⟩
    exact ⟨none, rfl, hb1, .inl ⟨rfl, rfl⟩, prsE_nil _ _ _⟩
  · have hz := hb.size
    have hvl := ft_vals l ns (wdO l).1 t6
    have hwd := ft_width l ns (wdO l).1
    have h64 := wdO_64 t1 t2
    have hgz : g < w1.heap.size := (Array.getElem?_eq_some_iff.1 t7).1
    refine (masker_any g gt _ (by rw [hwd]; exact h64) (by rw [hvl]; omega) W ((hb.block g hgz).trans t7) (t8.tabK.tab.below hb)).mono ?_
    rintro e w' ⟨hb1, gr, tc, rfl, a4, a5, a6, a7, a8⟩
    have hz1 := hb1.size
    have hRf : Rf h lv fv l (fst (l.map tl)) (wdO l).1 w' := (t9.below hb).below hb1
    rw [hvl, hwd] at a6
    refine ⟨_, rfl, hb1, (mkrD_new h lv fv l t1 _ (wdO l).1 h64 w' hRf).mono ?_⟩
    rintro e w2 ⟨hb2, gd, td, rfl, b4, b5, b6, b7, b8⟩
    have hz2 := hb2.size
    have hbW : Below W.heap.size W w2 := hb1.trans (hb2.mono hz1)
    have hgr : gr < w'.heap.size := (Array.getElem?_eq_some_iff.1 a5).1
    have hgd : gd < w2.heap.size := (Array.getElem?_eq_some_iff.1 b5).1
    refine ⟨_, rfl, hbW, .inr ⟨_, _, rfl, rfl⟩, prs_any t1 t2 t3 t6 t8 t9 _ (by simp) (zall _ _) _ _ gr gd w2 tc td ⟨rfl, hz, ⟨a4, by omega⟩, ⟨by omega, hgd⟩, by omega, fun j hj => (hbW.block j (by omega)).trans (hb.block j hj), a6.below hb2, b6, fun j hj => ?_, fun j hj => ?_⟩ ((hb2.block gr hgr).trans a5) b5⟩
    · have q1 := st_blk a6 j hj
      have q2 := a8 j hj
      have q3 : j ≠ gr := fun e => a7 (by rw [hj, e])
      exact ⟨q2, by omega, q3, by omega⟩
    · have q1 := st_blk b6 j hj
      have q2 := b8 j hj
      have q3 : j ≠ gd := fun e => b7 (by rw [hj, e])
      exact ⟨by omega, q1, by omega, q3⟩
end Go.Proofs.Ytceaklefdahfkab

/- SieveScans: what is written over. -/
namespace Go.Proofs.Ytceaklefdahfkab
open Go.RowKit
theorem run_apM2 (w : World) (ty g : Nat) (d : List Nat) (hg : w.heap[g]? = some (.cells (ik .u8 d) 5 (0, 0))) (hl : d.length ≤ 1073741824) :
    ∃ v w', (apB ty #[.slice (some ⟨g, 0, none⟩) d.length d.length, .slice (some ⟨w.heap.size, 0, none⟩) 2 2]).run Try.prog (w.alloc (.cells #[.int .u8 90, .int .u8 165] 5)) = .ok v w' ∧ w'.ownsRow g 5 1 v (d.length + 2) (ik .u8 (d ++ [90, 165])).toList ∧ Below g w w' := by
  have gz : g < w.heap.size := (Array.getElem?_eq_some_iff.1 hg).1
  obtain ⟨i0, hi0, hz0, hz1, hz2⟩ := info_parts info5
  have hown : w.ownsRow g 5 1 (.slice (some ⟨g, 0, none⟩) d.length d.length) d.length (ik .u8 d).toList := ⟨by simp [ik_size], .inr ⟨g, d.length, ik .u8 d, rfl, Nat.le_refl _, hg, Nat.le_refl _, by unfold maxLen; omega, by simp [ik_size], by rw [Nat.mul_one, List.take_of_length_le (by simp [ik])]⟩⟩
  obtain ⟨v, w', hr, ho, hgr, _, _⟩ := run_append_own_at (P := Try.prog) (w.alloc (.cells #[.int .u8 90, .int .u8 165] 5)) g 23 ty 5 i0 _ 1 1 Try.underlying23 hi0 hz0 hz1 hz2 rfl (by omega) _ d.length _ (hown.alloc _) ⟨w.heap.size, 0, none⟩ 2 2 [.int .u8 90, .int .u8 165] rfl
    (World.news_of_block (cs := #[.int .u8 90, .int .u8 165]) (t := 5) (fr := (0, 0)) (heap_alloc_new w _)) (fun u hu => by simp at hu; rcases hu with rfl | rfl <;> rfl) (by unfold maxLen; omega) (by omega) (by simp; omega)
  have e : (ik .u8 d).toList ++ [Value.int .u8 90, Value.int .u8 165] = (ik .u8 (d ++ [90, 165])).toList := by simp [ik]
  rw [e] at ho
  refine ⟨v, w', hr, ho, ⟨by rw [hgr.os]; rfl, by rw [hgr.tape]; rfl, by rw [hgr.output]; rfl, by have := hgr.size; simp at this; omega, fun j hj => ?_⟩⟩
  rw [hgr.block j (by simp; omega) (fun e => by
    have : g = j := by cases e; rfl
    omega), heap_alloc_old _ _ (h := by omega)]
attribute [local go_sem ↓] toApB toSlB
set_option maxRecDepth 100000 in
theorem roomy_row (d : List Nat) (hd : d.length ≤ 1073741824) (v : Value) (w : World) (hv : Si .u8 v d w) :
    Calls Try.prog 29 #[v] w fun e w' => ∃ u, e = .returned u ∧ w'.ownsRow w.heap.size 5 1 u (d.length + 2) (ik .u8 (d ++ [90, 165])).toList ∧ Below w.heap.size w w' := by
  have CC : Hid _ := copied_any d hd v w hv
  have ADD : Hid (∀ W, W.heap[w.heap.size]? = some (.cells (ik .u8 d) 5 (0, 0)) → Below w.heap.size w W → ∃ u W', (apB 23 #[.slice (some ⟨w.heap.size, 0, none⟩) d.length d.length, .slice (some ⟨W.heap.size, 0, none⟩) 2 2]).run Try.prog (W.alloc (.cells #[.int .u8 90, .int .u8 165] 5)) = .ok u W' ∧ Hid (W'.ownsRow w.heap.size 5 1 u (d.length + 2) (ik .u8 (d ++ [90, 165])).toList ∧ Below w.heap.size w W')) := fun W hr hb => by
    obtain ⟨u, W', r, hs, hb2⟩ := run_apM2 W 23 w.heap.size d hr hd
    exact ⟨u, W', r, hs, hb.trans hb2⟩
  clear hv
  go_enter Try.func29, Try.ntmps29
  go_wp2_with fail
  refine Calls.mono CC.out ?_
  rintro e W ⟨rfl, hr, hb, hz⟩
  obtain ⟨u, W', r, HE⟩ := ADD.out W hr hb
  clear hr hb hz
  go_wp2
  go_ret
  exact ⟨u, rfl, HE.out⟩

/-- A row's block, and a cell of it written. -/
theorem own_row {W : World} {base e size N : Nat} {v : Value} {xs : List Value} (ho : W.ownsRow base e size v N xs) (h : 0 < N) : ∃ hb cap cur, v = .slice (some ⟨hb, 0, none⟩) N cap ∧ base ≤ hb ∧ W.heap[hb]? = some (.cells cur e (0, 0)) ∧ N * size ≤ cur.size ∧ cur.toList.take (N * size) = xs := by
  obtain ⟨h1, ⟨h2, h3⟩ | ⟨g, cap', cur, hv, h3, h4, h5, h6, h7, h8⟩⟩ := ho
  · omega
  · exact ⟨g, cap', cur, hv, h3, h4, by rw [h7]; exact Nat.mul_le_mul_right _ h5, h8⟩
end Go.Proofs.Ytceaklefdahfkab

/- SieveStreams: a piece to both; both closed. -/
namespace Go.Proofs.Ytceaklefdahfkab
open Go.RowKit
theorem si_grow {k : IntKind} {v : Value} {w w' : World} (h : Si k v [] w) (hs : w.heap.size ≤ w'.heap.size) : Si k v [] w' := by
  rcases h with h | ⟨b, off, c, h1, h2, h3, h4, h5⟩
  · exact .inl h
  · exact .inr ⟨b, off, c, h1, h2, h3, Nat.lt_of_lt_of_le h4 hs, fun j hj => absurd hj (by simp)⟩
theorem Bt.trans {Z : Nat → Prop} {a b c : World} (h : Bt Z a b) (k : Bt Z b c) : Bt Z a c := ⟨k.os.trans h.os, k.tape.trans h.tape, k.output.trans h.output, Nat.le_trans h.size k.size, fun j hj hn => (k.block j (Nat.lt_of_lt_of_le hj h.size) hn).trans (h.block j hj hn)⟩
theorem Bt.below {Z : Nat → Prop} {a b : World} (h : Below a.heap.size a b) : Bt Z a b := ⟨h.os, h.tape, h.output, h.size, fun j hj _ => h.block j hj⟩
attribute [local go_sem ↓] toSlB
set_option maxRecDepth 100000 in
set_option maxHeartbeats 3200000 in
theorem fed_any {K La Bb : Nat} {c d : Option Addr} {S : Type} {CI : S → World → Prop} {DI : S → (Nat → Prop) → World → Prop} {C : Nat → Prop} {FA : S → List Nat → (Int × Int × List Nat) × S} {CA : S → (Int × Int × List Nat) × S} {NA HA SZ : S → Nat} (P : Prs K La Bb c d S CI DI C FA CA NA HA SZ)
    (s : S) (D : Nat → Prop) (p : List Nat) (hpb : Byt p) (hpl : p.length ≤ 16777216) (hsz : SZ s ≤ 1125899906842624) (pv : Value) (w : World) (hC : CI s w) (hD : DI s D w) (hpv : Si .u8 pv p w) (hpn : ∀ j, pv.ownBlock = some j → ¬ C j ∧ ¬ D j) (hBb : Bb ≤ w.heap.size) (hK : K ≤ w.heap.size) :
    Calls Try.prog 41 #[.pointer c, .pointer d, pv] w fun e w' => e = .returned (.bool true) ∧ ∃ D', CI (FA s p).2 w' ∧ DI (FA s p).2 D' w' ∧ (∀ j, D' j → D j ∨ w.heap.size ≤ j) ∧ Bt (fun j => C j ∨ D j) w w' := by
  have C1 : Hid _ := roomy_row p (by omega) pv w hpv
  have HDz : Hid (∀ j, D j → j < w.heap.size) := fun j hj => (P.din s D w hD j hj).2.1
  have HCz : Hid (∀ j, C j → j < w.heap.size) := fun j hj => by have := (P.own j hj).2; omega
  have HP : Hid _ := P
  have HC0 : Hid (CI s w) := hC
  have HD0 : Hid (DI s D w) := hD
  have HPN : Hid _ := hpn
  have HPB : Hid (Byt p) := hpb
  obtain ⟨op, cp, hop, -⟩ := hpv.form
  subst hop
  have HPV : Hid (Si .u8 (.slice op p.length cp) p w) := hpv
  clear hC hD hpn hpb hpv P
  go_enter Try.func41, Try.ntmps41
  go_wp2_with fail
  refine Calls.mono C1.out ?_
  rintro e w1 ⟨u, rfl, hu1, hb1⟩
  clear C1
  obtain ⟨bf, cf, cur1, rfl, hbf, hr1, hc1, -⟩ := own_row hu1 (by omega)
  have hs1 : Si .u8 (.slice (some ⟨bf, 0, none⟩) (p.length + 2) cf) (p ++ [90, 165]) w1 := own_si hu1 (by simp)
  have bfz : bf < w1.heap.size := (Array.getElem?_eq_some_iff.1 hr1).1
  have hcf2 : p.length ≤ cf := by
    obtain ⟨o5, c5, hfo, hcf, _⟩ := hs1.form
    simp only [Value.slice.injEq] at hfo
    rw [List.length_append] at hcf
    omega
  have ct := run_cutH bf 0 (p.length + 2) cf p.length hcf2
  have hz1 := hb1.size
  have CF : Hid _ := HP.out.fc s p _ w1 (HP.out.kc _ _ _ HC0.out hb1.size fun j hj _ => hb1.block j hj) HPB.out hpl hsz hs1.cut (fun j hj e => by
    have e2 : bf = j := by cases hj; rfl
    have := HCz.out j e
    omega)
  have HD1 : Hid (DI s D w1) := HP.out.kd _ _ _ _ HD0.out hb1.size fun j hj _ => hb1.block j hj
  have HS1 : Hid (Si .u8 (.slice (some ⟨bf, 0, none⟩) (p.length + 2) cf) (p ++ [90, 165]) w1) := hs1
  have HR1 : Hid (w1.heap[bf]? = some (.cells cur1 5 (0, 0)) ∧ (p.length + 2) * 1 ≤ cur1.size) := ⟨hr1, hc1⟩
  have HB1 : Hid (Below w.heap.size w w1) := hb1
  have HZ1 : Hid (w.heap.size ≤ bf ∧ bf < w1.heap.size ∧ w.heap.size ≤ w1.heap.size) := ⟨hbf, bfz, hz1⟩
  obtain ⟨NF, hNF⟩ : ∃ NF, NF = p.length + 2 := ⟨_, rfl⟩
  have HNF : Hid (NF = p.length + 2) := hNF
  rw [← hNF] at ct HS1 ⊢
  clear hs1 hr1 hc1 hu1 hb1 hbf bfz hcf2 hz1 hNF
  go_wp2_with fail
  refine Calls.mono CF.out ?_
  rintro e w2 ⟨ox, nx, cx, ⟨rfl, hx2⟩, hwb, hC2, hb2⟩
  clear CF ct
  have hz1 := HZ1.out
  have hbfC : ¬ C bf := fun e => by have := HCz.out bf e; omega
  have hbfD : ¬ D bf := fun e => by have := HDz.out bf e; omega
  have hp2 : Si .u8 (.slice op p.length cp) p w2 := (HPV.out.below HB1.out).keep hb2.size fun j hj hz => hb2.block j hz (HPN.out j hj).1
  have hD2 := HP.out.kdc _ _ _ _ HD1.out hb2
  have CFR : Hid _ := HP.out.fr s D p _ w2 hD2 HPB.out hpl hsz hp2 (fun j hj => (HPN.out j hj).2)
  have HD2 : Hid (DI s D w2) := hD2
  have HP2 : Hid (Si .u8 (.slice op p.length cp) p w2) := hp2
  have HX2 : Hid (Si .u8 (.slice ox nx cx) (FA s p).1.2.2 w2 ∧ (nx = 0 ∨ ∃ g cur ty, ox = some ⟨g, 0, none⟩ ∧ w1.heap.size ≤ g ∧ g < w2.heap.size ∧ w2.heap[g]? = some (.cells cur ty (0, 0)) ∧ nx ≤ cur.size)) := ⟨hx2, by
    rcases hwb with h | ⟨g, cur, ty, h1, h2, h3, h4⟩
    · exact .inl h
    · exact .inr ⟨g, cur, ty, h1, h2, (Array.getElem?_eq_some_iff.1 h3).1, h3, h4⟩⟩
  have HC2 : Hid (CI (FA s p).2 w2) := hC2
  have HS2 : Hid (Si .u8 (.slice (some ⟨bf, 0, none⟩) NF cf) (p ++ [90, 165]) w2) := HS1.out.keep hb2.size fun k hk hz => hb2.block k hz (by
    have : bf = k := by cases hk; rfl
    rw [← this]; exact hbfC)
  have HR2 : Hid (w2.heap[bf]? = some (.cells cur1 5 (0, 0))) := (hb2.block bf hz1.2.1 hbfC).trans HR1.out.1
  have HB2 : Hid (Bt (fun j => C j ∨ D j) w w2) := (Bt.below HB1.out).trans (hb2.mono fun j hj => .inl hj)
  have HZ2 : Hid (w1.heap.size ≤ w2.heap.size) := hb2.size
  have hnx : (nx : Int) < 9223372036854775808 := by
    obtain ⟨o5, c5, hfo, hcf, hm, _⟩ := hx2.form
    simp only [Value.slice.injEq] at hfo
    omega
  clear hx2 hwb hC2 hb2 hp2 hD2 HD1 HS1 hz1
  go_wp2_with fail
  refine Calls.mono CFR.out ?_
  rintro e w3 ⟨oy, ny, cy, D', ⟨rfl, hy3⟩, hD3, hDD, hb3⟩
  clear CFR
  have hz1 := HZ1.out
  have hz2 := HZ2.out
  have hx3 : Si .u8 (.slice ox nx cx) (FA s p).1.2.2 w3 := by
    rcases HX2.out.2 with h | ⟨g, cur, ty, h1, h2, h3, h4, h5⟩
    · have hl : (FA s p).1.2.2 = [] := by
        obtain ⟨o5, c5, hfo, _⟩ := HX2.out.1.form
        simp only [Value.slice.injEq] at hfo
        exact List.length_eq_zero_iff.1 (by omega)
      have := HX2.out.1
      rw [hl] at this ⊢
      exact si_grow this hb3.size
    · refine HX2.out.1.keep hb3.size fun k hk hz => hb3.block k hz fun e => ?_
      have e2 : g = k := by rw [h1] at hk; cases hk; rfl
      have := HDz.out k e
      omega
  have cvx := conv_si hx3
  have cvy := conv_si hy3
  obtain ⟨sA, hsA⟩ : ∃ sA, sA = bst (FA s p).1.2.2 := ⟨_, rfl⟩
  rw [← hsA] at cvx cvy
  have hC3 : CI (FA s p).2 w3 := HP.out.kcd _ _ _ _ _ HC2.out HD2.out hb3
  have K1 : Hid _ := HP.out.ac _ w3 hC3
  have K2 : Hid _ := HP.out.ar _ _ w3 hD3
  have K3 : Hid _ := HP.out.hc _ w3 hC3
  have K4 : Hid _ := HP.out.hr _ _ w3 hD3
  have hbfD : ¬ D bf := fun e => by have := HDz.out bf e; omega
  have hs3 : Si .u8 (.slice (some ⟨bf, 0, none⟩) NF cf) (p ++ [90, 165]) w3 := HS2.out.keep hb3.size fun k hk hz => hb3.block k hz (by
    have : bf = k := by cases hk; rfl
    rw [← this]; exact hbfD)
  have hp3 : Si .u8 (.slice op p.length cp) p w3 := HP2.out.keep hb3.size fun j hj hz => hb3.block j hz (HPN.out j hj).2
  have K5 : Hid _ := kept_any p (by omega) (.slice (some ⟨bf, 0, none⟩) NF cf) _ w3 hs3 hp3
  have HC3 : Hid (CI (FA s p).2 w3) := hC3
  have HD3 : Hid (DI (FA s p).2 D' w3) := hD3
  have HDD : Hid (∀ j, D' j → D j ∨ w2.heap.size ≤ j) := hDD
  have HR3 : Hid (w3.heap[bf]? = some (.cells cur1 5 (0, 0))) := (hb3.block bf (by omega) hbfD).trans HR2.out
  have HX3 : Hid (nx = 0 ∨ ∃ g cur ty, ox = some ⟨g, 0, none⟩ ∧ w1.heap.size ≤ g ∧ g < w2.heap.size ∧ w3.heap[g]? = some (.cells cur ty (0, 0)) ∧ nx ≤ cur.size) := by
    rcases HX2.out.2 with h | ⟨g, cur, ty, h1, h2, h3, h4, h5⟩
    · exact .inl h
    · exact .inr ⟨g, cur, ty, h1, h2, h3, (hb3.block g h3 (fun e => by have := HDz.out g e; omega)).trans h4, h5⟩
  have HB3 : Hid (Bt (fun j => C j ∨ D j) w w3) := HB2.out.trans (hb3.mono fun j hj => .inr hj)
  have HZ3 : Hid (w2.heap.size ≤ w3.heap.size) := hb3.size
  obtain ⟨na, hna⟩ : ∃ na, na = NA (FA s p).2 := ⟨_, rfl⟩
  obtain ⟨ha, hha⟩ : ∃ ha, ha = HA (FA s p).2 := ⟨_, rfl⟩
  rw [← hna] at K1 K2
  rw [← hha] at K3 K4
  clear hx3 hy3 hD3 hDD hb3 hsA hC3 hbfD hs3 hp3 HC2 HD2 HS2 HR2 HX2 HB2 HP2 hz1 hz2 hna hha HC0 HD0 HPV HPN HPB HB1
  generalize hFA : FA s p = r at *
  obtain ⟨⟨ea, eb, el⟩, s'⟩ := r
  have HFA : Hid (FA s p = ((ea, eb, el), s')) := hFA
  clear hFA
  simp only at *
  go_wp2_with fail
  refine Calls.mono K1.out ?_
  rintro e w3 ⟨rfl, rfl⟩
  clear K1
  go_wp2_with fail
  refine Calls.mono K2.out ?_
  rintro e w3 ⟨rfl, rfl⟩
  clear K2
  go_wp2_with fail
  refine Calls.mono K3.out ?_
  rintro e w3 ⟨rfl, rfl⟩
  clear K3
  go_wp2_with fail
  refine Calls.mono K4.out ?_
  rintro e w3 ⟨rfl, rfl⟩
  clear K4
  go_wp2_with fail
  refine Calls.mono K5.out ?_
  rintro e w4 ⟨rfl, hb4⟩
  clear K5 cvx cvy
  have hz1 := HZ1.out
  have hz2 := HZ2.out
  have hz3 := HZ3.out
  obtain ⟨R, hR⟩ : ∃ R : World → Prop, R = fun W => CI s' W ∧ DI s' D' W ∧ w3.heap.size ≤ W.heap.size ∧ Bt (fun j => C j ∨ D j) w W := ⟨_, rfl⟩
  have HR4 : Hid (R w4) := by
    rw [hR]
    exact ⟨HP.out.kc _ _ _ HC3.out hb4.size fun j hj _ => hb4.block j hj, HP.out.kd _ _ _ _ HD3.out hb4.size fun j hj _ => hb4.block j hj, hb4.size, HB3.out.trans (Bt.below hb4)⟩
  have HRK : Hid (∀ (W : World) (bk off : Nat) (u : Value), w.heap.size ≤ bk → bk < w2.heap.size → R W → R (W.setCell ⟨bk, off, none⟩ u)) := fun W bk off u g1 g2 hh => by
    rw [hR] at hh ⊢
    obtain ⟨r1, r2, r3, r4⟩ := hh
    have hsz : (W.setCell ⟨bk, off, none⟩ u).heap.size = W.heap.size := by simp [World.setCell]
    have hne : ∀ j, j ≠ bk → (W.setCell ⟨bk, off, none⟩ u).heap[j]? = W.heap[j]? := fun j hj => Below.heap_setCell _ _ _ _ hj
    refine ⟨HP.out.kc _ _ _ r1 (by omega) (fun j _ hj => hne j (by omega)), HP.out.kd _ _ _ _ r2 (by omega) (fun j _ hj => hne j ?_), by omega, ⟨r4.os, r4.tape, r4.output, by have := r4.size; omega, fun j hj hn => (hne j (by omega)).trans (r4.block j hj hn)⟩⟩
    rcases hj with hj | hj | hj
    · omega
    · omega
    · rcases HDD.out j hj with hj | hj
      · have := HDz.out j hj; omega
      · omega
  have HRE : Hid (∀ W, R W → ∃ D', CI s' W ∧ DI s' D' W ∧ (∀ j, D' j → D j ∨ w.heap.size ≤ j) ∧ Bt (fun j => C j ∨ D j) w W) := fun W hh => by
    rw [hR] at hh
    obtain ⟨r1, r2, r3, r4⟩ := hh
    exact ⟨D', r1, r2, fun j hj => (HDD.out j hj).imp_right fun h => by omega, r4⟩
  have HX4 : Hid (nx = 0 ∨ ∃ g cur ty, ox = some ⟨g, 0, none⟩ ∧ w1.heap.size ≤ g ∧ g < w2.heap.size ∧ w4.heap[g]? = some (.cells cur ty (0, 0)) ∧ nx ≤ cur.size) := by
    rcases HX3.out with h | ⟨g, cur, ty, h1, h2, h3, h4, h5⟩
    · exact .inl h
    · exact .inr ⟨g, cur, ty, h1, h2, h3, (hb4.block g (by omega)).trans h4, h5⟩
  have HF4 : Hid (∃ cur : Array Value, w4.heap[bf]? = some (.cells cur 5 (0, 0)) ∧ NF ≤ cur.size) := ⟨cur1, (hb4.block bf (by omega)).trans HR3.out, by have := HR1.out.2; have := HNF.out; omega⟩
  have hbf0 := hz1.1
  have hbf1 : bf < w2.heap.size := by omega
  have hbf2 := hz1.2.1
  have hbf3 := hz1.2.2
  have hnfb : NF ≤ 16777218 := by have := HNF.out; omega
  clear hR hb4 HC3 HD3 HX3 HR3 HB3 HR1 HZ1 HZ2 HZ3 hz1 hz3 HP HDD HDz HCz
  go_wp2_with fail
  go_loopw [15] (fun iv wq => ∃ k : Nat, iv = .int .i64 (k : Int) ∧ k ≤ nx ∧ Hid (nx = 0 ∨ ∃ g cur ty, ox = some ⟨g, 0, none⟩ ∧ w1.heap.size ≤ g ∧ g < w2.heap.size ∧ wq.heap[g]? = some (.cells cur ty (0, 0)) ∧ nx ≤ cur.size) ∧ Hid (∃ cur : Array Value, wq.heap[bf]? = some (.cells cur 5 (0, 0)) ∧ NF ≤ cur.size) ∧ Hid (R wq)) (fun iv _ => nx - (intOf iv).toNat)
  case atStart => exact ⟨0, rfl, by omega, HX4, HF4, HR4⟩
  case round =>
    clear HX4 HF4 HR4
    obtain ⟨k, rfl, hk, HXR, HF, HRR⟩ := hrel
    by_cases hkl : k < nx
    · have hk0 : (0 : Int) ≤ (k : Int) := by omega
      have hk1 : (k : Int) < (nx : Int) := by omega
      obtain ⟨g, cur, ty, hox, q2, q3, q4, q5⟩ := HXR.out.resolve_left (by omega)
      subst hox
      obtain ⟨u0, c1⟩ : ∃ u, wr.cell? ⟨g, k, none⟩ = some u := ⟨_, by rw [cell_of_row wr _ _ _ _ _ q4]; exact Array.getElem?_eq_getElem (by omega)⟩
      have f1 : wr.frozen? ⟨g, k, none⟩ = false := frozen_of_row wr _ _ _ _ q4
      have N1 : ∀ u, Hid (nx = 0 ∨ ∃ g' cur ty, some (⟨g, 0, none⟩ : Addr) = some ⟨g', 0, none⟩ ∧ w1.heap.size ≤ g' ∧ g' < w2.heap.size ∧ (wr.setCell ⟨g, k, none⟩ u).heap[g']? = some (.cells cur ty (0, 0)) ∧ nx ≤ cur.size) := fun u => .inr ⟨g, _, _, rfl, q2, q3, heap_setCell_same _ _ _ _ _ _ q4, by simp; exact q5⟩
      have N2 : ∀ u, Hid (∃ cur : Array Value, (wr.setCell ⟨g, k, none⟩ u).heap[bf]? = some (.cells cur 5 (0, 0)) ∧ NF ≤ cur.size) := fun u => by
        obtain ⟨cf', z1, z2⟩ := HF.out
        exact ⟨cf', (Below.heap_setCell _ _ _ _ (by show bf ≠ g; omega)).trans z1, z2⟩
      have N3 : ∀ u, Hid (R (wr.setCell ⟨g, k, none⟩ u)) := fun u => HRK.out _ _ _ _ (by omega) q3 HRR.out
      clear q2 q3 q4 q5 HXR HF HRR
      go_wp2
      exact ⟨⟨k + 1, by rfl, by omega, N1 _, N2 _, N3 _⟩, by simp only [intOf]; omega⟩
    · have hk1 : ¬ ((k : Int) < (nx : Int)) := by omega
      clear HXR
      go_wp2_with fail
      go_loopw [16] (fun iv wq => ∃ k : Nat, iv = .int .i64 (k : Int) ∧ k ≤ NF ∧ Hid (∃ cur : Array Value, wq.heap[bf]? = some (.cells cur 5 (0, 0)) ∧ NF ≤ cur.size) ∧ Hid (R wq)) (fun iv _ => NF - (intOf iv).toNat)
      case atStart => exact ⟨0, rfl, by omega, HF, HRR⟩
      case round =>
        clear HF HRR
        obtain ⟨k2, rfl, hk2, HF, HRR⟩ := hrel
        by_cases hkl2 : k2 < NF
        · have hk20 : (0 : Int) ≤ (k2 : Int) := by omega
          have hk21 : (k2 : Int) < (NF : Int) := by omega
          obtain ⟨cf', z1, z2⟩ := HF.out
          obtain ⟨u0, c1⟩ : ∃ u, wr.cell? ⟨bf, k2, none⟩ = some u := ⟨_, by rw [cell_of_row wr _ _ _ _ _ z1]; exact Array.getElem?_eq_getElem (by omega)⟩
          have f1 : wr.frozen? ⟨bf, k2, none⟩ = false := frozen_of_row wr _ _ _ _ z1
          have N2 : ∀ u, Hid (∃ cur : Array Value, (wr.setCell ⟨bf, k2, none⟩ u).heap[bf]? = some (.cells cur 5 (0, 0)) ∧ NF ≤ cur.size) := fun u => ⟨_, heap_setCell_same _ _ _ _ _ _ z1, by simp; exact z2⟩
          have N3 : ∀ u, Hid (R (wr.setCell ⟨bf, k2, none⟩ u)) := fun u => HRK.out _ _ _ _ hbf0 hbf1 HRR.out
          clear z1 z2 HF HRR
          go_wp2
          exact ⟨⟨k2 + 1, by rfl, by omega, N2 _, N3 _⟩, by simp only [intOf]; omega⟩
        · have hk21 : ¬ ((k2 : Int) < (NF : Int)) := by omega
          have HG : Hid _ := HRE.out wr HRR.out
          clear HF
          go_wp2
          go_ret
          obtain ⟨D2, g1, g2, g3, g4⟩ := HG.out
          exact ⟨rfl, by rw [HFA.out]; exact g1, D2, by rw [HFA.out]; exact g2, g3, g4⟩
set_option maxRecDepth 100000 in
theorem closed_any {K La Bb : Nat} {c d : Option Addr} {S : Type} {CI : S → World → Prop} {DI : S → (Nat → Prop) → World → Prop} {C : Nat → Prop} {FA : S → List Nat → (Int × Int × List Nat) × S} {CA : S → (Int × Int × List Nat) × S} {NA HA SZ : S → Nat} (P : Prs K La Bb c d S CI DI C FA CA NA HA SZ)
    (s : S) (D : Nat → Prop) (w : World) (hC : CI s w) (hD : DI s D w) :
    Calls Try.prog 42 #[.pointer c, .pointer d] w fun e w' => e = .returned (.bool true) ∧ ∃ D', CI (CA s).2 w' ∧ DI (CA s).2 D' w' ∧ (∀ j, D' j → D j ∨ w.heap.size ≤ j) ∧ Bt (fun j => C j ∨ D j) w w' := by
  have C1 : Hid _ := P.cc s w hC
  have HDz : Hid (∀ j, D j → j < w.heap.size) := fun j hj => (P.din s D w hD j hj).2.1
  have HP : Hid _ := P
  have HD0 : Hid (DI s D w) := hD
  clear hC hD P
  go_enter Try.func42, Try.ntmps42
  go_wp2_with fail
  refine Calls.mono C1.out ?_
  rintro e w1 ⟨ox, nx, cx, ⟨rfl, hx1⟩, hxb, hC1, hb1⟩
  clear C1
  have hD1 := HP.out.kdc _ _ _ _ HD0.out hb1
  have C2 : Hid _ := HP.out.cr s D w1 hD1
  have HD1 : Hid (DI s D w1) := hD1
  have HC1 : Hid (CI (CA s).2 w1) := hC1
  have HB1 : Hid (Bt C w w1) := hb1
  have HX1 : Hid (Si .u8 (.slice ox nx cx) (CA s).1.2.2 w1 ∧ ∀ j, (Value.slice ox nx cx).ownBlock = some j → w.heap.size ≤ j) := ⟨hx1, hxb⟩
  clear hx1 hxb hC1 hb1 hD1 HD0
  go_wp2_with fail
  refine Calls.mono C2.out ?_
  rintro e w2 ⟨oy, ny, cy, D', ⟨rfl, hy2⟩, hD2, hDD, hb2⟩
  clear C2
  have hx2 : Si .u8 (.slice ox nx cx) (CA s).1.2.2 w2 := HX1.out.1.keep hb2.size fun j hj hz => hb2.block j hz fun e => by
    have := HX1.out.2 j hj
    have := HDz.out j e
    omega
  have cvx := conv_si hx2
  have cvy := conv_si hy2
  obtain ⟨sA, hsA⟩ : ∃ sA, sA = bst (CA s).1.2.2 := ⟨_, rfl⟩
  rw [← hsA] at cvx cvy
  have hC2 : CI (CA s).2 w2 := HP.out.kcd _ _ _ _ _ HC1.out HD1.out hb2
  have K1 : Hid _ := HP.out.ac _ w2 hC2
  have K2 : Hid _ := HP.out.ar _ _ w2 hD2
  have K3 : Hid _ := HP.out.hc _ w2 hC2
  have K4 : Hid _ := HP.out.hr _ _ w2 hD2
  have HE : Hid (∃ D', CI (CA s).2 w2 ∧ DI (CA s).2 D' w2 ∧ (∀ j, D' j → D j ∨ w.heap.size ≤ j) ∧ Bt (fun j => C j ∨ D j) w w2) := ⟨D', hC2, hD2, fun j hj => (hDD j hj).imp_right fun h => by have := HB1.out.size; omega, (HB1.out.mono fun j hj => .inl hj).trans (hb2.mono fun j hj => .inr hj)⟩
  obtain ⟨na, hna⟩ : ∃ na, na = NA (CA s).2 := ⟨_, rfl⟩
  obtain ⟨ha, hha⟩ : ∃ ha, ha = HA (CA s).2 := ⟨_, rfl⟩
  rw [← hna] at K1 K2
  rw [← hha] at K3 K4
  clear hx2 hy2 hD2 hDD hb2 hsA hC2 HC1 HD1 HX1 HB1 hna hha HDz HP
  generalize hFA : CA s = r at *
  obtain ⟨⟨ea, eb, el⟩, s'⟩ := r
  have HFA : Hid (CA s = ((ea, eb, el), s')) := hFA
  clear hFA
  simp only at *
  go_wp2_with fail
  refine Calls.mono K1.out ?_
  rintro e w3 ⟨rfl, rfl⟩
  clear K1
  go_wp2_with fail
  refine Calls.mono K2.out ?_
  rintro e w3 ⟨rfl, rfl⟩
  clear K2
  go_wp2_with fail
  refine Calls.mono K3.out ?_
  rintro e w3 ⟨rfl, rfl⟩
  clear K3
  go_wp2_with fail
  refine Calls.mono K4.out ?_
  rintro e w3 ⟨rfl, rfl⟩
  clear K4
  go_wp2
  go_ret
  obtain ⟨D2, g1, g2, g3, g4⟩ := HE.out
  exact ⟨rfl, D2, by rw [HFA.out]; exact g1, by rw [HFA.out]; exact g2, g3, g4⟩
end Go.Proofs.Ytceaklefdahfkab

/- SieveStreams: two pairs of rewriters beside one another. -/
namespace Go.Proofs.Ytceaklefdahfkab
open Go.RowKit
/-- Two pairs, and a list beside them. -/
structure Duo (w wB : World) (bL : Nat) (c d m k : Option Addr) (G : Nat → Nat → World → Prop) : Prop where
  fed1 : ∀ n1 n2 p pv W, G n1 n2 W → n1 ≤ 16777217 → Byt p → p.length ≤ 16777216 → Si .u8 pv p w → Calls Try.prog 41 #[.pointer c, .pointer d, pv] W fun e w' => e = .returned (.bool true) ∧ G (n1 + 1) n2 w'
  fed2 : ∀ n1 n2 p pv W, G n1 n2 W → n2 ≤ 16777217 → Byt p → p.length ≤ 16777216 → Si .u8 pv p w → Calls Try.prog 41 #[.pointer m, .pointer k, pv] W fun e w' => e = .returned (.bool true) ∧ G n1 (n2 + 1) w'
  cl1 : ∀ n1 n2 W, G n1 n2 W → Calls Try.prog 42 #[.pointer c, .pointer d] W fun e w' => e = .returned (.bool true) ∧ G n1 n2 w'
  cl2 : ∀ n1 n2 W, G n1 n2 W → Calls Try.prog 42 #[.pointer m, .pointer k] W fun e w' => e = .returned (.bool true) ∧ G n1 n2 w'
  drw : ∀ n1 n2 q W, G n1 n2 W → G n1 n2 (W.drewN q)
  lst : ∀ n1 n2 W, G n1 n2 W → W.heap[bL]? = wB.heap[bL]? ∧ Below w.heap.size w W
/-- A pair as it stands. -/
def Stn (K La Bb : Nat) (c d : Option Addr) (W : World) : Prop := ∃ (S : Type) (CI : S → World → Prop) (DI : S → (Nat → Prop) → World → Prop) (C : Nat → Prop) (FA : S → List Nat → (Int × Int × List Nat) × S) (CA : S → (Int × Int × List Nat) × S) (NA HA SZ : S → Nat), Prs K La Bb c d S CI DI C FA CA NA HA SZ ∧ ∃ s D, CI s W ∧ DI s D W ∧ SZ s = 0 ∧ ∀ j, D j → j < Bb
theorem PrsE.stn {K La : Nat} {c d : Option Addr} {w : World} (h : PrsE K La c d w) : Stn K La w.heap.size c d w := by
  obtain ⟨S, CI, DI, C, FA, CA, NA, HA, SZ, P, s, D, h1, h2, h3⟩ := h
  exact ⟨S, CI, DI, C, FA, CA, NA, HA, SZ, P, s, D, h1, h2, h3, fun j hj => (P.din s D w h2 j hj).2.1⟩
theorem Stn.keep {K La Bb : Nat} {c d : Option Addr} {W W' : World} (h : Stn K La Bb c d W) (hs : W.heap.size ≤ W'.heap.size) (hb : ∀ j, j < W.heap.size → (j < K ∨ (La ≤ j ∧ j < Bb)) → W'.heap[j]? = W.heap[j]?) : Stn K La Bb c d W' := by
  obtain ⟨S, CI, DI, C, FA, CA, NA, HA, SZ, P, s, D, h1, h2, h3, h4⟩ := h
  refine ⟨S, CI, DI, C, FA, CA, NA, HA, SZ, P, s, D, P.kc _ _ _ h1 hs hb, P.kd _ _ _ _ h2 hs fun j hj hq => hb j hj ?_, h3, h4⟩
  rcases hq with hq | hq | hq
  · exact .inl hq
  · exact .inr hq
  · exact .inr ⟨(P.din _ _ _ h2 j hq).1, h4 j hq⟩
theorem duo_mk {K L1 B1 L2 B2 : Nat} {c d m k : Option Addr} {wB : World} (h1 : Stn K L1 B1 c d wB) (h2 : Stn K L2 B2 m k wB) (w : World) (bL : Nat) (hw : Below w.heap.size w wB) (hwK : w.heap.size ≤ K) (hKL : K ≤ L1) (hBL : B1 ≤ L2) (hLB : L1 ≤ B1) (hLB2 : L2 ≤ B2) (hbL : B2 ≤ bL) (hbB : bL < wB.heap.size) :
    ∃ G, Duo w wB bL c d m k G ∧ G 0 0 wB := by
  obtain ⟨S, CI, DI, C, FA, CA, NA, HA, SZ, P, s, D, i1, i2, i3, i4⟩ := h1
  obtain ⟨S', CI', DI', C', FA', CA', NA', HA', SZ', P', s', D', j1, j2, j3, j4⟩ := h2
  refine ⟨fun n1 n2 W => ∃ s D s' D', CI s W ∧ DI s D W ∧ CI' s' W ∧ DI' s' D' W ∧ SZ s ≤ n1 * 16777216 ∧ SZ' s' ≤ n2 * 16777216 ∧ (∀ j, D j → j < B1 ∨ wB.heap.size ≤ j) ∧ (∀ j, D' j → j < B2 ∨ wB.heap.size ≤ j) ∧ (∀ j, D j → ¬ D' j) ∧ W.heap[bL]? = wB.heap[bL]? ∧ Below w.heap.size w W ∧ wB.heap.size ≤ W.heap.size, ⟨?_, ?_, ?_, ?_, ?_, ?_⟩, s, D, s', D', i1, i2, j1, j2, by omega, by omega, fun j hj => .inl (i4 j hj), fun j hj => .inl (j4 j hj), fun j hj hj' => by have := i4 j hj; have := (P'.din _ _ _ j2 j hj').1; omega, rfl, hw, Nat.le_refl _⟩
  · rintro n1 n2 p pv W ⟨s, D, s', D', g1, g2, g3, g4, g5, g6, g7, g8, g9, g10, g11, g12⟩ hn hpb hpl hpv
    have hblk := hpv.blk
    refine (fed_any P s D p hpb hpl (by omega) pv W g1 g2 (hpv.below g11) (fun j hj => ⟨fun e => by have := (P.own j e).1; have := hblk j hj; omega, fun e => by have := (P.din _ _ _ g2 j e).1; have := hblk j hj; omega⟩) (by omega) (by omega)).mono ?_
    rintro e w' ⟨he, D2, q1, q2, q3, q4⟩
    have hnC : ∀ j, (j < K ∨ B1 ≤ j) → ¬ C j := fun j hj e => by have := P.own j e; omega
    have hnD : ∀ j, (j < K ∨ (B1 ≤ j ∧ j < wB.heap.size)) → ¬ D j := fun j hj e => by have := (P.din _ _ _ g2 j e).1; have := g7 j e; omega
    have hz := q4.size
    refine ⟨he, (FA s p).2, D2, s', D', q1, q2, P'.kc _ _ _ g3 hz fun j hj hq => q4.block j hj ?_, P'.kd _ _ _ _ g4 hz fun j hj hq => q4.block j hj ?_, by have := P.szF s p; omega, g6, fun j hj => ?_, g8, fun j hj hj' => ?_, (q4.block bL (by omega) ?_).trans g10, g11.trans ⟨q4.os, q4.tape, q4.output, q4.size, fun j hj => q4.block j (by omega) ?_⟩, by omega⟩
    · rintro (e | e)
      · exact hnC j (by omega) e
      · exact hnD j (by omega) e
    · rintro (e | e)
      · refine hnC j ?_ e
        rcases hq with hq | hq | hq
        · exact .inl hq
        · omega
        · have := (P'.din _ _ _ g4 j hq).1; omega
      · rcases hq with hq | hq | hq
        · exact hnD j (.inl hq) e
        · exact hnD j (by omega) e
        · exact g9 j e hq
    · rcases q3 j hj with h | h
      · exact g7 j h
      · exact .inr (by omega)
    · rcases q3 j hj with h | h
      · exact g9 j h hj'
      · have := (P'.din _ _ _ g4 j hj').2.1; omega
    · rintro (e | e)
      · exact hnC bL (by omega) e
      · exact hnD bL (by omega) e
    · rintro (e | e)
      · exact hnC j (by omega) e
      · exact hnD j (by omega) e
  · rintro n1 n2 p pv W ⟨s, D, s', D', g1, g2, g3, g4, g5, g6, g7, g8, g9, g10, g11, g12⟩ hn hpb hpl hpv
    have hblk := hpv.blk
    refine (fed_any P' s' D' p hpb hpl (by omega) pv W g3 g4 (hpv.below g11) (fun j hj => ⟨fun e => by have := (P'.own j e).1; have := hblk j hj; omega, fun e => by have := (P'.din _ _ _ g4 j e).1; have := hblk j hj; omega⟩) (by omega) (by omega)).mono ?_
    rintro e w' ⟨he, D2, q1, q2, q3, q4⟩
    have hnC : ∀ j, (j < L2 ∨ B2 ≤ j) → ¬ C' j := fun j hj e => by have := P'.own j e; omega
    have hnD : ∀ j, (j < L2 ∨ (B2 ≤ j ∧ j < wB.heap.size)) → ¬ D' j := fun j hj e => by have := (P'.din _ _ _ g4 j e).1; have := g8 j e; omega
    have hz := q4.size
    refine ⟨he, s, D, (FA' s' p).2, D2, P.kc _ _ _ g1 hz fun j hj hq => q4.block j hj ?_, P.kd _ _ _ _ g2 hz fun j hj hq => q4.block j hj ?_, q1, q2, g5, by have := P'.szF s' p; omega, g7, fun j hj => ?_, fun j hj hj' => ?_, (q4.block bL (by omega) ?_).trans g10, g11.trans ⟨q4.os, q4.tape, q4.output, q4.size, fun j hj => q4.block j (by omega) ?_⟩, by omega⟩
    · rintro (e | e)
      · exact hnC j (by omega) e
      · exact hnD j (by omega) e
    · rintro (e | e)
      · refine hnC j ?_ e
        rcases hq with hq | hq | hq
        · omega
        · omega
        · have := g7 j hq; omega
      · rcases hq with hq | hq | hq
        · exact hnD j (by omega) e
        · exact hnD j (by omega) e
        · exact g9 j hq e
    · rcases q3 j hj with h | h
      · exact g8 j h
      · exact .inr (by omega)
    · rcases q3 j hj' with h | h
      · exact g9 j hj h
      · have := (P.din _ _ _ g2 j hj).2.1; omega
    · rintro (e | e)
      · exact hnC bL (by omega) e
      · exact hnD bL (by omega) e
    · rintro (e | e)
      · exact hnC j (by omega) e
      · exact hnD j (by omega) e
  · rintro n1 n2 W ⟨s, D, s', D', g1, g2, g3, g4, g5, g6, g7, g8, g9, g10, g11, g12⟩
    refine (closed_any P s D W g1 g2).mono ?_
    rintro e w' ⟨he, D2, q1, q2, q3, q4⟩
    have hnC : ∀ j, (j < K ∨ B1 ≤ j) → ¬ C j := fun j hj e => by have := P.own j e; omega
    have hnD : ∀ j, (j < K ∨ (B1 ≤ j ∧ j < wB.heap.size)) → ¬ D j := fun j hj e => by have := (P.din _ _ _ g2 j e).1; have := g7 j e; omega
    have hz := q4.size
    refine ⟨he, (CA s).2, D2, s', D', q1, q2, P'.kc _ _ _ g3 hz fun j hj hq => q4.block j hj ?_, P'.kd _ _ _ _ g4 hz fun j hj hq => q4.block j hj ?_, by have := P.szC s; omega, g6, fun j hj => ?_, g8, fun j hj hj' => ?_, (q4.block bL (by omega) ?_).trans g10, g11.trans ⟨q4.os, q4.tape, q4.output, q4.size, fun j hj => q4.block j (by omega) ?_⟩, by omega⟩
    · rintro (e | e)
      · exact hnC j (by omega) e
      · exact hnD j (by omega) e
    · rintro (e | e)
      · refine hnC j ?_ e
        rcases hq with hq | hq | hq
        · exact .inl hq
        · omega
        · have := (P'.din _ _ _ g4 j hq).1; omega
      · rcases hq with hq | hq | hq
        · exact hnD j (.inl hq) e
        · exact hnD j (by omega) e
        · exact g9 j e hq
    · rcases q3 j hj with h | h
      · exact g7 j h
      · exact .inr (by omega)
    · rcases q3 j hj with h | h
      · exact g9 j h hj'
      · have := (P'.din _ _ _ g4 j hj').2.1; omega
    · rintro (e | e)
      · exact hnC bL (by omega) e
      · exact hnD bL (by omega) e
    · rintro (e | e)
      · exact hnC j (by omega) e
      · exact hnD j (by omega) e
  · rintro n1 n2 W ⟨s, D, s', D', g1, g2, g3, g4, g5, g6, g7, g8, g9, g10, g11, g12⟩
    refine (closed_any P' s' D' W g3 g4).mono ?_
    rintro e w' ⟨he, D2, q1, q2, q3, q4⟩
    have hnC : ∀ j, (j < L2 ∨ B2 ≤ j) → ¬ C' j := fun j hj e => by have := P'.own j e; omega
    have hnD : ∀ j, (j < L2 ∨ (B2 ≤ j ∧ j < wB.heap.size)) → ¬ D' j := fun j hj e => by have := (P'.din _ _ _ g4 j e).1; have := g8 j e; omega
    have hz := q4.size
    refine ⟨he, s, D, (CA' s').2, D2, P.kc _ _ _ g1 hz fun j hj hq => q4.block j hj ?_, P.kd _ _ _ _ g2 hz fun j hj hq => q4.block j hj ?_, q1, q2, g5, by have := P'.szC s'; omega, g7, fun j hj => ?_, fun j hj hj' => ?_, (q4.block bL (by omega) ?_).trans g10, g11.trans ⟨q4.os, q4.tape, q4.output, q4.size, fun j hj => q4.block j (by omega) ?_⟩, by omega⟩
    · rintro (e | e)
      · exact hnC j (by omega) e
      · exact hnD j (by omega) e
    · rintro (e | e)
      · refine hnC j ?_ e
        rcases hq with hq | hq | hq
        · omega
        · omega
        · have := g7 j hq; omega
      · rcases hq with hq | hq | hq
        · exact hnD j (by omega) e
        · exact hnD j (by omega) e
        · exact g9 j hq e
    · rcases q3 j hj with h | h
      · exact g8 j h
      · exact .inr (by omega)
    · rcases q3 j hj' with h | h
      · exact g9 j hj h
      · have := (P.din _ _ _ g2 j hj).2.1; omega
    · rintro (e | e)
      · exact hnC bL (by omega) e
      · exact hnD bL (by omega) e
    · rintro (e | e)
      · exact hnC j (by omega) e
      · exact hnD j (by omega) e
  · rintro n1 n2 q W ⟨s, D, s', D', g1, g2, g3, g4, g5, g6, g7, g8, g9, g10, g11, g12⟩
    exact ⟨s, D, s', D', P.kc _ _ _ g1 (Nat.le_refl _) (fun _ _ _ => rfl), P.kd _ _ _ _ g2 (Nat.le_refl _) (fun _ _ _ => rfl), P'.kc _ _ _ g3 (Nat.le_refl _) (fun _ _ _ => rfl), P'.kd _ _ _ _ g4 (Nat.le_refl _) (fun _ _ _ => rfl), g5, g6, g7, g8, g9, g10, Below.drewN' g11 q, g12⟩
  · rintro n1 n2 W ⟨s, D, s', D', g1, g2, g3, g4, g5, g6, g7, g8, g9, g10, g11, g12⟩
    exact ⟨g10, g11⟩
end Go.Proofs.Ytceaklefdahfkab
