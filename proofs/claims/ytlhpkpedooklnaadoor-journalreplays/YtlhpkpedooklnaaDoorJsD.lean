/- JournalReplays: the document's takes, a body more. -/
import Derived.Test.YtlhpkpedooklnaaDoorJsC
namespace Go.Proofs.YtlhpkpedooklnaaDoor
open Go.RowKit
open JM
/-- Below a block all is as it was, but for one. -/
structure Bu (B g : Nat) (W w : World) : Prop where
  os : w.os = W.os
  tape : w.tape = W.tape
  output : w.output = W.output
  size : W.heap.size ≤ w.heap.size
  block : ∀ k : Nat, k < B → k ≠ g → w.heap[k]? = W.heap[k]?
theorem Bu.refl (B g : Nat) (W : World) : Bu B g W W := ⟨rfl, rfl, rfl, Nat.le_refl _, fun _ _ _ => rfl⟩
theorem Bu.trans {B g : Nat} {a b c : World} (h : Bu B g a b) (k : Bu B g b c) : Bu B g a c :=
  ⟨k.os.trans h.os, k.tape.trans h.tape, k.output.trans h.output, Nat.le_trans h.size k.size, fun i hi hn => (k.block i hi hn).trans (h.block i hi hn)⟩
theorem Bu.below {B g : Nat} {a b : World} (h : Below a.heap.size a b) (hB : B ≤ a.heap.size) : Bu B g a b := ⟨h.os, h.tape, h.output, h.size, fun k hk _ => h.block k (by omega)⟩
theorem Bu.set {B g : Nat} (w : World) (i : Nat) (v : Value) : Bu B g w (w.setCell ⟨g, i, none⟩ v) := ⟨rfl, rfl, rfl, by simp, fun k _ hn => heap_setCell_other w ⟨g, i, none⟩ k v hn⟩
theorem Bu.gr {B t g : Nat} {a b : World} (h : Gr B t a b) (hB : B ≤ a.heap.size) : Bu B g a b := ⟨h.os, h.tape, h.output, h.size, fun k hk _ => h.low k hk (by omega)⟩
/-- Where the document is in a file: what is told lies below P, what is pending from there on. -/
def RdS (B g : Nat) (w : World) (s : St) : Prop := ∃ (ab at_ ap : Option Addr) (cb ct cp P : Nat), w.heap[g]? = some (.cells (rgA s (.slice ab s.base.length cb) (.slice at_ s.batches.length ct) (.slice ap s.pending.length cp) 0 0) 56 (0, 0)) ∧ B ≤ P ∧ P ≤ w.heap.size ∧
  (∀ w' : World, (∀ k : Nat, B ≤ k → k < P → w'.heap[k]? = w.heap[k]?) → Ll B w' (.slice ab s.base.length cb) s.base ∧ Lb B w' (.slice at_ s.batches.length ct) s.batches) ∧ Ll P w (.slice ap s.pending.length cp) s.pending ∧ (s.pending = [] → ap = none ∧ cp = 0) ∧ (s.batches = [] → at_ = none ∧ ct = 0)
theorem Ll.fix {B : Nat} {w : World} {v : Value} {ls : List (List Nat)} (h : Ll B w v ls) (w' : World) (hk : ∀ k : Nat, B ≤ k → k < w.heap.size → w'.heap[k]? = w.heap[k]?) : Ll B w' v ls := h.keep fun k _ _ hB _ hc => hk k hB (Array.getElem?_eq_some_iff.1 hc).1
theorem Lb.fix {B : Nat} {w : World} {v : Value} {ls : List (List (List Nat))} (h : Lb B w v ls) (w' : World) (hk : ∀ k : Nat, B ≤ k → k < w.heap.size → w'.heap[k]? = w.heap[k]?) : Lb B w' v ls := h.keep fun k _ _ hB _ hc => hk k hB (Array.getElem?_eq_some_iff.1 hc).1
def TakesP (B g : Nat) (W : World) (s : St) (r : Rec) (stop : Nat) (e : Ending) (w' : World) : Prop :=
  Bu B g W w' ∧ match s.take r stop with
  | some s' => e = .returned (.bool true) ∧ RdS B g w' s'
  | none => e = .returned (.bool false) ∧ RdS B g w' s
/-- A region that draws: a call, a list of one, an append and a store, each behind the one ahead; the world by what has been done. -/
structure SW (N c b a t ld : Nat) (Z0 Z1 Z2 Z3 Z4 : World) (l : Array Bool) (w : World) : Prop where
  sz : l.size = N
  d1 : l.getD b false = true → l.getD c false = true
  d2 : l.getD a false = true → l.getD b false = true
  d3 : l.getD t false = true → l.getD a false = true ∧ l.getD ld false = true
  w0 : l.getD c false = false → w = Z0
  w1 : l.getD c false = true → l.getD b false = false → w = Z1
  w2 : l.getD b false = true → l.getD a false = false → w = Z2
  w3 : l.getD a false = true → l.getD t false = false → w = Z3
  w4 : l.getD t false = true → w = Z4
theorem SW.mv {N c b a t ld : Nat} {Z0 Z1 Z2 Z3 Z4 : World} {l : Array Bool} {w : World} (h : SW N c b a t ld Z0 Z1 Z2 Z3 Z4 l w) (i : Nat) (hi : i < N) (n1 : c ≠ i) (n2 : b ≠ i) (n3 : a ≠ i) (n4 : t ≠ i) : SW N c b a t ld Z0 Z1 Z2 Z3 Z4 (l.setIfInBounds i true) w := by
  have hs : i < l.size := by rw [h.sz]; exact hi
  have g1 : (l.setIfInBounds i true).getD c false = l.getD c false := by rw [gset _ _ _ hs, if_neg n1]
  have g2 : (l.setIfInBounds i true).getD b false = l.getD b false := by rw [gset _ _ _ hs, if_neg n2]
  have g3 : (l.setIfInBounds i true).getD a false = l.getD a false := by rw [gset _ _ _ hs, if_neg n3]
  have g4 : (l.setIfInBounds i true).getD t false = l.getD t false := by rw [gset _ _ _ hs, if_neg n4]
  refine ⟨by simpa using h.sz, ?_, ?_, ?_, ?_, ?_, ?_, ?_, ?_⟩
  · rw [g1, g2]; exact h.d1
  · rw [g2, g3]; exact h.d2
  · rw [g3, g4]; exact fun q => ⟨(h.d3 q).1, gnt _ hs (h.d3 q).2⟩
  · rw [g1]; exact h.w0
  · rw [g1, g2]; exact h.w1
  · rw [g2, g3]; exact h.w2
  · rw [g3, g4]; exact h.w3
  · rw [g4]; exact h.w4
theorem bfalse {x : Bool} (h : ¬ x = true) : x = false := by cases x <;> simp_all
theorem SW.c {N c b a t ld : Nat} {Z0 Z1 Z2 Z3 Z4 : World} {l : Array Bool} {w : World} (h : SW N c b a t ld Z0 Z1 Z2 Z3 Z4 l w) (hi : c < N) (n1 : b ≠ c) (n2 : a ≠ c) (n3 : t ≠ c) (hu : l.getD c true = false) : w = Z0 ∧ SW N c b a t ld Z0 Z1 Z2 Z3 Z4 (l.setIfInBounds c true) Z1 := by
  have hs : c < l.size := by rw [h.sz]; exact hi
  have fc := gfalse hu
  have fb : l.getD b false = false := bfalse fun q => by rw [h.d1 q] at fc; cases fc
  have fa : l.getD a false = false := bfalse fun q => by rw [h.d2 q] at fb; cases fb
  have ft : l.getD t false = false := bfalse fun q => by rw [(h.d3 q).1] at fa; cases fa
  have g1 : (l.setIfInBounds c true).getD c false = true := gself hs
  have g2 : (l.setIfInBounds c true).getD b false = false := by rw [gset _ _ _ hs, if_neg n1]; exact fb
  have g3 : (l.setIfInBounds c true).getD a false = false := by rw [gset _ _ _ hs, if_neg n2]; exact fa
  have g4 : (l.setIfInBounds c true).getD t false = false := by rw [gset _ _ _ hs, if_neg n3]; exact ft
  exact ⟨h.w0 fc, by simpa using h.sz, fun _ => g1, fun q => (by rw [g3] at q; cases q), fun q => (by rw [g4] at q; cases q), fun q => (by rw [g1] at q; cases q), fun _ _ => rfl, fun q => (by rw [g2] at q; cases q), fun q => (by rw [g3] at q; cases q), fun q => (by rw [g4] at q; cases q)⟩
theorem SW.b {N c b a t ld : Nat} {Z0 Z1 Z2 Z3 Z4 : World} {l : Array Bool} {w : World} (h : SW N c b a t ld Z0 Z1 Z2 Z3 Z4 l w) (hi : b < N) (n1 : c ≠ b) (n2 : a ≠ b) (n3 : t ≠ b) (hu : l.getD b true = false) (hc : l.getD c false = true) : w = Z1 ∧ SW N c b a t ld Z0 Z1 Z2 Z3 Z4 (l.setIfInBounds b true) Z2 := by
  have hs : b < l.size := by rw [h.sz]; exact hi
  have fb := gfalse hu
  have fa : l.getD a false = false := bfalse fun q => by rw [h.d2 q] at fb; cases fb
  have ft : l.getD t false = false := bfalse fun q => by rw [(h.d3 q).1] at fa; cases fa
  have g1 : (l.setIfInBounds b true).getD c false = true := gnt _ hs hc
  have g2 : (l.setIfInBounds b true).getD b false = true := gself hs
  have g3 : (l.setIfInBounds b true).getD a false = false := by rw [gset _ _ _ hs, if_neg n2]; exact fa
  have g4 : (l.setIfInBounds b true).getD t false = false := by rw [gset _ _ _ hs, if_neg n3]; exact ft
  have _ := n1
  exact ⟨h.w1 hc fb, by simpa using h.sz, fun _ => g1, fun q => (by rw [g3] at q; cases q), fun q => (by rw [g4] at q; cases q), fun q => (by rw [g1] at q; cases q), fun _ q => (by rw [g2] at q; cases q), fun _ _ => rfl, fun q => (by rw [g3] at q; cases q), fun q => (by rw [g4] at q; cases q)⟩
theorem SW.a {N c b a t ld : Nat} {Z0 Z1 Z2 Z3 Z4 : World} {l : Array Bool} {w : World} (h : SW N c b a t ld Z0 Z1 Z2 Z3 Z4 l w) (hi : a < N) (n3 : t ≠ a) (hu : l.getD a true = false) (hb : l.getD b false = true) : w = Z2 ∧ SW N c b a t ld Z0 Z1 Z2 Z3 Z4 (l.setIfInBounds a true) Z3 := by
  have hs : a < l.size := by rw [h.sz]; exact hi
  have fa := gfalse hu
  have ft : l.getD t false = false := bfalse fun q => by rw [(h.d3 q).1] at fa; cases fa
  have g1 : (l.setIfInBounds a true).getD c false = true := gnt _ hs (h.d1 hb)
  have g2 : (l.setIfInBounds a true).getD b false = true := gnt _ hs hb
  have g3 : (l.setIfInBounds a true).getD a false = true := gself hs
  have g4 : (l.setIfInBounds a true).getD t false = false := by rw [gset _ _ _ hs, if_neg n3]; exact ft
  exact ⟨h.w2 hb fa, by simpa using h.sz, fun _ => g1, fun _ => g2, fun q => (by rw [g4] at q; cases q), fun q => (by rw [g1] at q; cases q), fun _ q => (by rw [g2] at q; cases q), fun _ q => (by rw [g3] at q; cases q), fun _ _ => rfl, fun q => (by rw [g4] at q; cases q)⟩
theorem SW.t {N c b a t ld : Nat} {Z0 Z1 Z2 Z3 Z4 : World} {l : Array Bool} {w : World} (h : SW N c b a t ld Z0 Z1 Z2 Z3 Z4 l w) (hi : t < N) (hu : l.getD t true = false) (ha : l.getD a false = true) (hl : l.getD ld false = true) : w = Z3 ∧ SW N c b a t ld Z0 Z1 Z2 Z3 Z4 (l.setIfInBounds t true) Z4 := by
  have hs : t < l.size := by rw [h.sz]; exact hi
  have ft := gfalse hu
  have g1 : (l.setIfInBounds t true).getD c false = true := gnt _ hs (h.d1 (h.d2 ha))
  have g2 : (l.setIfInBounds t true).getD b false = true := gnt _ hs (h.d2 ha)
  have g3 : (l.setIfInBounds t true).getD a false = true := gnt _ hs ha
  have g4 : (l.setIfInBounds t true).getD t false = true := gself hs
  exact ⟨h.w3 ha ft, by simpa using h.sz, fun _ => g1, fun _ => g2, fun _ => ⟨g3, gnt _ hs hl⟩, fun q => (by rw [g1] at q; cases q), fun _ q => (by rw [g2] at q; cases q), fun _ q => (by rw [g3] at q; cases q), fun _ q => (by rw [g4] at q; cases q), fun _ => rfl⟩
/-- Ahead of the load the store has not been. -/
theorem SW.any {N c b a t ld : Nat} {Z0 Z1 Z2 Z3 Z4 : World} {l : Array Bool} {w : World} (h : SW N c b a t ld Z0 Z1 Z2 Z3 Z4 l w) (hu : l.getD ld true = false) : w = Z0 ∨ w = Z1 ∨ w = Z2 ∨ w = Z3 := by
  have ft : l.getD t false = false := bfalse fun q => by have := (h.d3 q).2; rw [gfalse hu] at this; cases this
  by_cases hc : l.getD c false = true
  · by_cases hb : l.getD b false = true
    · by_cases ha : l.getD a false = true
      · exact .inr (.inr (.inr (h.w3 ha ft)))
      · exact .inr (.inr (.inl (h.w2 hb (bfalse ha))))
    · exact .inr (.inl (h.w1 hc (bfalse hb)))
  · exact .inl (h.w0 (bfalse hc))
theorem SW.start (N c b a t ld : Nat) (Z0 Z1 Z2 Z3 Z4 : World) : SW N c b a t ld Z0 Z1 Z2 Z3 Z4 (Array.replicate N false) Z0 := by
  have hz : ∀ i, (Array.replicate N false).getD i false = false := fun i => by simp [Array.getD]
  exact ⟨by simp, fun q => (by rw [hz] at q; cases q), fun q => (by rw [hz] at q; cases q), fun q => (by rw [hz] at q; cases q), fun _ => rfl, fun q => (by rw [hz] at q; cases q), fun q => (by rw [hz] at q; cases q), fun q => (by rw [hz] at q; cases q), fun q => (by rw [hz] at q; cases q)⟩
theorem SW.fin {N c b a t ld : Nat} {Z0 Z1 Z2 Z3 Z4 : World} {w : World} (h : SW N c b a t ld Z0 Z1 Z2 Z3 Z4 (Array.replicate N true) w) (ht : t < N) : w = Z4 := h.w4 (by simp [Array.getD, ht])
end Go.Proofs.YtlhpkpedooklnaaDoor
