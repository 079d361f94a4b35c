/- NoteInts: where (*Copy).deep stands. -/
import Derived.Test.YtnljnknnjahjkaaNiP
namespace Go.Proofs.Ytnljnknnjahjkaa
open Go.RowKit
theorem own_keep {X X' : World} {base e sz n : Nat} {v : Value} {xs : List Value} (h : X.ownsRow base e sz v n xs) (hk : ∀ g, v.ownBlock = some g → X'.heap[g]? = X.heap[g]?) : X'.ownsRow base e sz v n xs := by
  obtain ⟨h0, h1⟩ := h
  refine ⟨h0, ?_⟩
  rcases h1 with h1 | ⟨g, cap, cur, rfl, hB, hg, hr⟩
  · exact .inl h1
  · exact .inr ⟨g, cap, cur, rfl, hB, (hk g rfl).trans hg, hr⟩
def zN : Array Value := #[.int .i64 0, .bool false, .float .f64 0, .string ⟨#[]⟩, .slice none 0 0, .slice none 0 0]
/-- Where deep stands. -/
structure Ds (cb : Nat) (W : World) (c : Array Value) (lf q : Int) (X : World) : Prop where
  cbr : X.heap[cb]? = some (.cells #[.int .i64 q] 35 (0, 0))
  box : X.heap[W.heap.size]? = some (.cells c 26 (0, 0))
  res : X.heap[W.heap.size + 1]? = some (.cells zN 26 (0, 0))
  tch : Tch cb W X
  q0 : -1 ≤ q
  q1 : q < lf
/-- The blocks of twins beside a list of one's own. -/
def Bk (lo : Nat) (X : World) (v : Value) (g : Nat) : Prop := lo ≤ g ∧ g < X.heap.size ∧ v.ownBlock ≠ some g
/-- A list of twins in the making. -/
structure Ls (B k lo e sz : Nat) (T : Array Value → Array Value → (Nat → Prop) → World → Prop) (v : Value) (ls ln : List (Array Value)) (q : Int) (X : World) : Prop where
  own : X.ownsRow lo e sz v ls.length (flat ls)
  szs : ∀ c ∈ ls, c.size = sz
  le : ls.length ≤ ln.length
  tws : 0 ≤ q → ∀ (i : Nat) a c, ls[i]? = some a → ln[i]? = some c → T a c (Bk lo X v) X
/-- A property of twins that may be carried. -/
def Carr (B : Nat) (T : Array Value → Array Value → (Nat → Prop) → World → Prop) : Prop :=
  ∀ (Q Q' : Nat → Prop) (X X' : World) a c, (∀ j, j < B → X'.heap[j]? = X.heap[j]?) → (∀ j, Q j → X'.heap[j]? = X.heap[j]?) → (∀ j, Q j → Q' j) → T a c Q X → T a c Q' X'
theorem carr_note (B k : Nat) : Carr B (fun a c Q X => Tw B Q X k a c) := fun _ _ _ _ _ _ h1 h2 h3 h => h.keep h1 h2 h3
theorem carr_field (B k : Nat) : Carr B (fun a c Q X => ∃ s r r', a = #[.string s] ++ r ∧ c = #[.string s] ++ r' ∧ Tw B Q X k r r') := fun _ _ _ _ _ _ h1 h2 h3 ⟨s, r, r', e1, e2, h⟩ => ⟨s, r, r', e1, e2, h.keep h1 h2 h3⟩
/-- A call of deep, with a list beside it. -/
theorem Ls.call {B k lo e sz cb : Nat} {T : Array Value → Array Value → (Nat → Prop) → World → Prop} (hC : Carr B T) {v : Value} {ls ln : List (Array Value)} {q q' : Int} {X X' : World} (h : Ls B k lo e sz T v ls ln q X) (hq : 0 ≤ q) (hcb : cb < lo) (hB : B ≤ cb) (hlo : lo ≤ X.heap.size) (ht : Tch cb X X') : Ls B k lo e sz T v ls ln q' X' := by
  have hlt := h.own.lt
  refine ⟨own_keep h.own fun g hg => ht.block g (hlt g hg).2 (by have := (hlt g hg).1; omega), h.szs, h.le, fun _ i a c ha hc => ?_⟩
  refine hC _ _ _ _ _ _ (fun j hj => ht.block j (by omega) (by omega)) (fun j hj => ht.block j hj.2.1 (by have := hj.1; omega)) (fun j hj => ⟨hj.1, Nat.lt_of_lt_of_le hj.2.1 ht.size, hj.2.2⟩) (h.tws hq i a c ha hc)
/-- One more twin. -/
theorem Ls.add {B k lo e sz ty : Nat} {T : Array Value → Array Value → (Nat → Prop) → World → Prop} (hC : Carr B T) {v v' : Value} {ls ln : List (Array Value)} {q : Int} {X X3 : World} {t c : Array Value} {N : Nat} (h : Ls B k lo e sz T v ls ln q X) (hB : B ≤ lo) (hlo : lo ≤ N) (hN : N ≤ X.heap.size) (hvN : ∀ g, v.ownBlock = some g → g < N) (hc : ln[ls.length]? = some c) (hz : t.size = sz)
    (hT : 0 ≤ q → T t c (fun g => N ≤ g ∧ g < X.heap.size) X) (ho : X3.ownsRow lo e sz v' (ls.length + 1) (flat (ls ++ [t]))) (hg : (X.alloc (.cells t ty)).grownBy X3 v.ownBlock) (hat : v'.ownBlock = v.ownBlock ∨ v'.ownBlock = some (X.heap.size + 1)) : Ls B k lo e sz T v' (ls ++ [t]) ln q X3 := by
  have hlt := h.own.lt
  have hsz : X.heap.size + 1 ≤ X3.heap.size := by have := hg.size; simpa using this
  have keep : ∀ j, j < X.heap.size → v.ownBlock ≠ some j → X3.heap[j]? = X.heap[j]? := fun j hj hn => (hg.block j (by simp; omega) (fun e => hn e.symm)).trans (heap_alloc_old _ _ (h := hj))
  have keepB : ∀ j, j < B → X3.heap[j]? = X.heap[j]? := fun j hj => keep j (by omega) (fun e => by have := (hlt j e).1; omega)
  have hne : ∀ j, j < X.heap.size → v.ownBlock ≠ some j → v'.ownBlock ≠ some j := fun j hj hn e => by
    rcases hat with h1 | h1
    · exact hn (h1.symm.trans e)
    · rw [h1] at e
      have := Option.some.inj e
      omega
  refine ⟨by rw [List.length_append]; exact ho, fun c hc => ?_, ?_, fun hq i a c' ha hc' => ?_⟩
  · rcases List.mem_append.1 hc with h1 | h1
    · exact h.szs c h1
    · rw [List.mem_singleton.1 h1]; exact hz
  · rw [List.length_append]
    exact (List.getElem?_eq_some_iff.1 hc).1
  · rcases Nat.lt_or_ge i ls.length with hi | hi
    · rw [List.getElem?_append_left hi] at ha
      exact hC _ _ _ _ _ _ keepB (fun j hj => keep j hj.2.1 hj.2.2) (fun j hj => ⟨hj.1, by have := hj.2.1; omega, hne j hj.2.1 hj.2.2⟩) (h.tws hq i a c' ha hc')
    · have hi2 : i = ls.length := by
        have := (List.getElem?_eq_some_iff.1 ha).1
        simp at this
        omega
      subst hi2
      obtain rfl : t = a := by simpa using ha
      obtain rfl : c = c' := Option.some.inj (hc.symm.trans hc')
      have nv : ∀ j, N ≤ j → v.ownBlock ≠ some j := fun j hj e => by have := hvN j e; omega
      exact hC _ _ _ _ _ _ keepB (fun j hj => keep j hj.2 (nv j hj.1)) (fun j hj => ⟨by have := hj.1; omega, by have := hj.2; omega, hne j hj.2 (nv j hj.1)⟩) (hT hq)
end Go.Proofs.Ytnljnknnjahjkaa
