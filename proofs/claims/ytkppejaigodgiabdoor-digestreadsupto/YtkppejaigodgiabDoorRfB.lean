/- The law's hoard: what it keeps. -/
import Derived.Test.YtkppejaigodgiabDoorRfK
namespace Go.Proofs.YtkppejaigodgiabDoor
open Go.RowKit
/-- The hoard and all that it keeps: every list lies alone. -/
structure Kp (g : Nat) (vl vw : Value) (xs ws : List Value) (ls : List (List Nat)) (w : World) : Prop where
  hd : Hd g vl vw xs ws w
  len : xs.length = ls.length
  own : ∀ (i : Nat) x l, xs[i]? = some x → ls[i]? = some l → w.ownsRow (g + 1) 5 1 x l.length (bs l).toList
  cop : ∀ (i : Nat) x l, ws[i]? = some x → ls[i]? = some l → Byl x l w
  apl : ∀ (i : Nat) x k, xs[i]? = some x → x.ownBlock = some k → k < w.heap.size ∧ k ≠ g ∧ ¬ vl.ownBlock = some k ∧ ¬ vw.ownBlock = some k
  apw : ∀ (i : Nat) x k, ws[i]? = some x → x.ownBlock = some k → k < w.heap.size ∧ k ≠ g ∧ ¬ vl.ownBlock = some k ∧ ¬ vw.ownBlock = some k
  xx : ∀ (i j : Nat) x y k, xs[i]? = some x → xs[j]? = some y → x.ownBlock = some k → y.ownBlock = some k → i = j
  xw : ∀ (i j : Nat) x y k, xs[i]? = some x → ws[j]? = some y → x.ownBlock = some k → ¬ y.ownBlock = some k
theorem Hd.wlen {g : Nat} {vl vw : Value} {xs ws : List Value} {w : World} (h : Hd g vl vw xs ws w) : ws.length = xs.length := by have := h.w.1; omega
theorem Hd.below {g : Nat} {vl vw : Value} {xs ws : List Value} {w w' : World} (h : Hd g vl vw xs ws w) (b : Below w.heap.size w w') : Hd g vl vw xs ws w' :=
  ⟨(b.block g (Array.getElem?_eq_some_iff.1 h.row).1).trans h.row, own_keep h.l fun k hk => b.block k (h.l.lt k hk).2, own_keep h.w fun k hk => b.block k (h.w.lt k hk).2, h.ne⟩
theorem Kp.below {g : Nat} {vl vw : Value} {xs ws : List Value} {ls : List (List Nat)} {w w' : World} (h : Kp g vl vw xs ws ls w) (b : Below w.heap.size w w') : Kp g vl vw xs ws ls w' :=
  ⟨h.hd.below b, h.len, fun i x l hx hl => own_keep (h.own i x l hx hl) fun k hk => b.block k ((h.own i x l hx hl).lt k hk).2, fun i x l hx hl => (h.cop i x l hx hl).below b,
    fun i x k hx hk => ⟨Nat.lt_of_lt_of_le (h.apl i x k hx hk).1 b.size, (h.apl i x k hx hk).2⟩, fun i x k hx hk => ⟨Nat.lt_of_lt_of_le (h.apw i x k hx hk).1 b.size, (h.apw i x k hx hk).2⟩, h.xx, h.xw⟩
theorem snoc_get {α : Type} {xs : List α} {v x : α} {i : Nat} (h : (xs ++ [v])[i]? = some x) : (xs[i]? = some x ∧ i < xs.length) ∨ (i = xs.length ∧ x = v) := by
  by_cases hi : i < xs.length
  · rw [List.getElem?_append_left hi] at h
    exact .inl ⟨h, hi⟩
  · have hj := (List.getElem?_eq_some_iff.1 h).1
    rw [List.length_append, List.length_singleton] at hj
    have : i = xs.length := by omega
    subst this
    exact .inr ⟨rfl, by simpa using h.symm⟩
theorem kp_take (g : Nat) (vl vw v : Value) (xs ws : List Value) (ls : List (List Nat)) (l : List Nat) (W w : World) (hl : l.length ≤ 1099511627776) (hn : xs.length ≤ 1000)
    (K : Kp g vl vw xs ws ls W) (b : Below W.heap.size W w) (hv : w.ownsRow W.heap.size 5 1 v l.length (bs l).toList) :
    Calls Tryd.prog 47 #[.pointer (some ⟨g, 0, none⟩), v] w fun e w' => ∃ vl' vw' x, e = .returned (.tuple #[]) ∧ Kp g vl' vw' (xs ++ [v]) (ws ++ [x]) (ls ++ [l]) w' ∧
      w'.os = w.os ∧ w'.tape = w.tape ∧ w'.output = w.output ∧ w.heap.size ≤ w'.heap.size ∧ (∀ k, k < w.heap.size → W.heap.size ≤ k → w'.heap[k]? = w.heap[k]?) ∧ (∀ k, k < g → w'.heap[k]? = w.heap[k]?) := by
  have hgW : g < W.heap.size := (Array.getElem?_eq_some_iff.1 K.hd.row).1
  have K' := K.below b
  have ltl := fun k hk => K.hd.l.lt k hk
  have ltw := fun k hk => K.hd.w.lt k hk
  have ltv := fun k hk => hv.lt k hk
  refine (take_any g vl vw v xs ws l w hl hn K'.hd (byl_own hv).1 (fun k hk => by
    have := ltv k hk
    exact ⟨by omega, fun h => by have := ltl k h; omega, fun h => by have := ltw k h; omega⟩)).mono ?_
  rintro e w' ⟨vl', vw', x, rfl, H, hx, xb, lb, wb, os, tape, out, sz, blk⟩
  have wl := K.hd.wlen
  refine ⟨vl', vw', x, rfl, ⟨H, by simp [K.len], ?_, ?_, ?_, ?_, ?_, ?_⟩, os, tape, out, sz, fun k hk hk2 => blk k hk (by omega) (fun h => by have := ltl k h; omega) (fun h => by have := ltw k h; omega),
    fun k hk => blk k (by have := b.size; omega) (by omega) (fun h => by have := ltl k h; omega) (fun h => by have := ltw k h; omega)⟩
  · intro i y m hy hm
    rcases snoc_get hy with ⟨hy, hi⟩ | ⟨rfl, rfl⟩
    · rw [List.getElem?_append_left (by rw [← K.len]; exact hi)] at hm
      exact own_keep (K'.own i y m hy hm) fun k hk => by
        have := K'.apl i y k hy hk
        exact blk k this.1 this.2.1 this.2.2.1 this.2.2.2
    · rcases snoc_get hm with ⟨_, hi⟩ | ⟨_, rfl⟩
      · rw [K.len] at hi; omega
      · have : w'.ownsRow W.heap.size 5 1 y m.length (bs m).toList := own_keep hv fun k hk => by
          have := ltv k hk
          exact blk k this.2 (by omega) (fun h => by have := ltl k h; omega) (fun h => by have := ltw k h; omega)
        obtain ⟨h0, h1 | ⟨g', cap, cur, h2, h3, h4⟩⟩ := this
        · exact ⟨h0, .inl h1⟩
        · exact ⟨h0, .inr ⟨g', cap, cur, h2, by omega, h4⟩⟩
  · intro i y m hy hm
    rcases snoc_get hy with ⟨hy, hi⟩ | ⟨rfl, rfl⟩
    · rw [List.getElem?_append_left (by rw [← K.len]; omega)] at hm
      exact byl_block (K'.cop i y m hy hm) sz fun k hk => by
        have := K'.apw i y k hy hk
        exact blk k this.1 this.2.1 this.2.2.1 this.2.2.2
    · rcases snoc_get hm with ⟨_, hi⟩ | ⟨_, rfl⟩
      · rw [← K.len] at hi; omega
      · exact hx
  · intro i y k hy hk
    rcases snoc_get hy with ⟨hy, hi⟩ | ⟨rfl, rfl⟩
    · have a := K'.apl i y k hy hk
      exact ⟨by omega, a.2.1, fun h => (lb k h).elim a.2.2.1 (fun h => by omega), fun h => (wb k h).elim a.2.2.2 (fun h => by omega)⟩
    · have a := ltv k hk
      exact ⟨by omega, by omega, fun h => (lb k h).elim (fun h => by have := ltl k h; omega) (fun h => by omega), fun h => (wb k h).elim (fun h => by have := ltw k h; omega) (fun h => by omega)⟩
  · intro i y k hy hk
    rcases snoc_get hy with ⟨hy, hi⟩ | ⟨rfl, rfl⟩
    · have a := K'.apw i y k hy hk
      exact ⟨by omega, a.2.1, fun h => (lb k h).elim a.2.2.1 (fun h => by omega), fun h => (wb k h).elim a.2.2.2 (fun h => by omega)⟩
    · have a := xb k hk
      have := b.size
      exact ⟨byl_lt hx k hk, by omega, a.2.1, a.2.2⟩
  · intro i j y z k hy hz hk hk2
    rcases snoc_get hy with ⟨hy', hi⟩ | ⟨rfl, rfl⟩
    · rcases snoc_get hz with ⟨hz', hj⟩ | ⟨rfl, rfl⟩
      · exact K.xx i j y z k hy' hz' hk hk2
      · have a := (K.apl i y k hy' hk).1
        have := ltv k hk2
        omega
    · rcases snoc_get hz with ⟨hz', hj⟩ | ⟨rfl, _⟩
      · have a := (K.apl j z k hz' hk2).1
        have := ltv k hk
        omega
      · rfl
  · intro i j y z k hy hz hk hk2
    rcases snoc_get hy with ⟨hy', hi⟩ | ⟨rfl, rfl⟩
    · rcases snoc_get hz with ⟨hz', hj⟩ | ⟨rfl, rfl⟩
      · exact K.xw i j y z k hy' hz' hk hk2
      · have a := (K'.apl i y k hy' hk).1
        have := xb k hk2
        omega
    · rcases snoc_get hz with ⟨hz', hj⟩ | ⟨rfl, rfl⟩
      · have a := (K.apw j z k hz' hk2).1
        have := ltv k hk
        omega
      · have := ltv k hk
        have := xb k hk2
        omega
end Go.Proofs.YtkppejaigodgiabDoor
