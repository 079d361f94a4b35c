/- DigestHashers: what each call does to the row of hashers. -/
import Derived.Test.YtkppejaigodgiacDoorHs39
namespace Go.Proofs.YtkppejaigodgiacDoor.Hash
open Go.RowKit Go.Proofs.YtkppejaigodgiacDoor.Sha
abbrev Bl := YtkppejaigodgiacDoor.Byl
abbrev Fs := YtkppejaigodgiacDoor.Fst
/-- The row of hashers, at rest. -/
def Hq (N : Nat) (vA vB : Value) (A Bk : List Nat) (ms : List (List Nat)) (w : World) : Prop := ∃ ds O, Hv N vA vB A Bk A Bk ds ms ms O w
/-- The messages are bytes, and short. -/
def Mok (L : Nat) (ms : List (List Nat)) : Prop := ∀ m ∈ ms, Byt m ∧ m.length ≤ L
theorem Mok.mono {L L' : Nat} {ms : List (List Nat)} (h : Mok L ms) (hl : L ≤ L') : Mok L' ms := fun m hm => ⟨(h m hm).1, Nat.le_trans (h m hm).2 hl⟩
theorem Mok.set {L : Nat} {ms : List (List Nat)} {m : List Nat} (h : Mok L ms) (hm : Byt m ∧ m.length ≤ L) (i : Nat) : Mok L (ms.set i m) := fun x hx => by
  rcases List.mem_or_eq_of_mem_set hx with h1 | h1
  · exact h x h1
  · rw [h1]; exact hm
theorem own_form {w : World} {B e n : Nat} {v : Value} {xs : List Value} (h : w.ownsRow B e 1 v n xs) (hn : 0 < n) :
    ∃ b c, v = .slice (some ⟨b, 0, none⟩) n c ∧ B ≤ b ∧ b < w.heap.size ∧ ∀ (j : Nat) x, xs[j]? = some x → w.cell? ⟨b, j, none⟩ = some x := by
  obtain ⟨h0, ⟨h1, rfl⟩ | ⟨g, cap, cur, rfl, h3, h4, h5, h6, h7, h8⟩⟩ := h
  · omega
  · refine ⟨g, cap, rfl, h3, (Array.getElem?_eq_some_iff.1 h4).1, fun j x hx => ?_⟩
    rw [cell_of_row w _ _ _ _ _ h4, ← Array.getElem?_toList]
    rw [← h8, List.getElem?_take] at hx
    split at hx
    · exact hx
    · cases hx
theorem Hq.below {N : Nat} {vA vB : Value} {A Bk : List Nat} {ms : List (List Nat)} {w w' : World} (h : Hq N vA vB A Bk ms w) (b : Below w.heap.size w w') : Hq N vA vB A Bk ms w' := by
  obtain ⟨ds, O, h⟩ := h
  exact ⟨ds, O, h.below b⟩
/-- One pair of the row. -/
theorem Hq.at {N : Nat} {vA vB : Value} {A Bk : List Nat} {ms : List (List Nat)} {w : World} (h : Hq N vA vB A Bk ms w) (k : Nat) (hk : k < A.length) :
    ∃ g b m d, A[k]? = some g ∧ Bk[k]? = some b ∧ ms[k]? = some m ∧ Tk m g w ∧ Rk N m b d w ∧ N ≤ g ∧ N ≤ b := by
  obtain ⟨ds, O, h⟩ := h
  obtain ⟨g, hg⟩ : ∃ g, A[k]? = some g := ⟨_, List.getElem?_eq_getElem hk⟩
  obtain ⟨b, hb⟩ := get_of h.lb hg
  obtain ⟨m, hm⟩ := get_of h.la hg
  obtain ⟨d, hd⟩ := get_of h.ld hg
  exact ⟨g, b, m, d, hg, hb, hm, h.tk k g m hg hm, h.rk k b d m hb hd hm, (h.ta k g hg).1, (h.tb k b hb).1⟩
theorem Hq.forms {N : Nat} {vA vB : Value} {A Bk : List Nat} {ms : List (List Nat)} {w : World} (h : Hq N vA vB A Bk ms w) (hA : 0 < A.length) :
    ∃ bA cA bB cB, vA = .slice (some ⟨bA, 0, none⟩) A.length cA ∧ vB = .slice (some ⟨bB, 0, none⟩) A.length cB := by
  obtain ⟨ds, O, h⟩ := h
  obtain ⟨bA, cA, h1, _⟩ := own_form h.va hA
  obtain ⟨bB, cB, h2, _⟩ := own_form h.vb (by have := h.lb; omega)
  rw [h.lb] at h2
  exact ⟨bA, cA, bB, cB, h1, h2⟩
theorem Hv.cellA {N : Nat} {vB : Value} {LA LB A Bk : List Nat} {ds : List Value} {ma mb : List (List Nat)} {O : Nat → Nat × Nat} {w : World} {bA n cA : Nat} (h : Hv N (.slice (some ⟨bA, 0, none⟩) n cA) vB LA LB A Bk ds ma mb O w) {k g : Nat} (hg : LA[k]? = some g) : w.cell? ⟨bA, k, none⟩ = some (.pointer (some ⟨g, 0, none⟩)) := by
  obtain ⟨b, c, h1, _, _, h2⟩ := own_form h.va (by have := (List.getElem?_eq_some_iff.1 hg).1; omega)
  simp only [Value.slice.injEq, Option.some.injEq, Addr.mk.injEq, and_true] at h1
  rw [h1.1]
  exact h2 k _ (by rw [List.getElem?_map, hg]; rfl)
theorem Hv.cellB {N : Nat} {vA : Value} {LA LB A Bk : List Nat} {ds : List Value} {ma mb : List (List Nat)} {O : Nat → Nat × Nat} {w : World} {bB n cB : Nat} (h : Hv N vA (.slice (some ⟨bB, 0, none⟩) n cB) LA LB A Bk ds ma mb O w) {k g : Nat} (hg : LB[k]? = some g) : w.cell? ⟨bB, k, none⟩ = some (.pointer (some ⟨g, 0, none⟩)) := by
  obtain ⟨b, c, h1, _, _, h2⟩ := own_form h.vb (by have := (List.getElem?_eq_some_iff.1 hg).1; omega)
  simp only [Value.slice.injEq, Option.some.injEq, Addr.mk.injEq, and_true] at h1
  rw [h1.1]
  exact h2 k _ (by rw [List.getElem?_map, hg]; rfl)
/-- In the midst of the two Writes. -/
def S15 (N : Nat) (vA vB : Value) (A Bk : List Nat) (ms : List (List Nat)) (kk : Nat) (mp : List Nat) (F s : Nat) (fl : List Nat) (pv : Value) (w0 : World) (fa fb : Bool) (W : World) : Prop :=
  ∃ ds O, Hv N vA vB A Bk A Bk ds (if fa then ms.set kk mp else ms) (if fb then ms.set kk mp else ms) O W ∧ Fs F fl W ∧ (∃ a b, W.heap[s]? = some (.cells #[a, b, pv] 37 (0, 0))) ∧ O F = (9, 0) ∧ O s = (9, 0) ∧ N ≤ F ∧ N ≤ s ∧ Below N w0 W
theorem fs_keep {F : Nat} {l : List Nat} {w w' : World} (h : Fs F l w) (hb : w'.heap[F]? = w.heap[F]?) : Fs F l w' := by
  obtain ⟨cur, h1, h2⟩ := h
  exact ⟨cur, hb.trans h1, h2⟩
theorem fs_lt {F : Nat} {l : List Nat} {w : World} (h : Fs F l w) : F < w.heap.size := by
  obtain ⟨cur, h1, h2⟩ := h
  exact (Array.getElem?_eq_some_iff.1 h1).1
section
variable {N : Nat} {vA vB : Value} {A Bk : List Nat} {ms : List (List Nat)} {kk : Nat} {mp : List Nat} {F s : Nat} {fl : List Nat} {pv : Value} {w0 : World} {fa fb : Bool} {W W' : World}
theorem S15.below (h : S15 N vA vB A Bk ms kk mp F s fl pv w0 fa fb W) (b : Below W.heap.size W W') : S15 N vA vB A Bk ms kk mp F s fl pv w0 fa fb W' := by
  obtain ⟨ds, O, h1, h2, ⟨x, y, h3⟩, h4, h5, h6, h7, h8⟩ := h
  have hs : s < W.heap.size := (Array.getElem?_eq_some_iff.1 h3).1
  exact ⟨ds, O, h1.below b, fs_keep h2 (b.block F (fs_lt h2)), ⟨x, y, (b.block s hs).trans h3⟩, h4, h5, h6, h7, h8.trans (b.mono h1.sz)⟩
theorem S15.wa {g : Nat} (hg : A[kk]? = some g) (h : S15 N vA vB A Bk ms kk mp F s fl pv w0 false fb W) (t : Touch g W W') (hk : Tk mp g W') : S15 N vA vB A Bk ms kk mp F s fl pv w0 true fb W' := by
  obtain ⟨ds, O, h1, h2, ⟨x, y, h3⟩, h4, h5, h6, h7, h8⟩ := h
  have hs : s < W.heap.size := (Array.getElem?_eq_some_iff.1 h3).1
  have hO := (h1.ta kk g hg)
  have n1 : F ≠ g := fun e => by rw [e, hO.2] at h4; cases h4
  have n2 : s ≠ g := fun e => by rw [e, hO.2] at h5; cases h5
  have h9 := h1.wa (w' := W') hg t.size t.block hk
  refine ⟨ds, O, ?_, fs_keep h2 (t.block F (fs_lt h2) n1), ⟨x, y, (t.block s hs n2).trans h3⟩, h4, h5, h6, h7, h8.trans ⟨t.os, t.tape, t.output, t.size, fun j hj => t.block j (by have := h1.sz; omega) (by omega)⟩⟩
  simpa using h9
theorem S15.wb {b : Nat} {d d' : Value} {ds : List Value} {O : Nat → Nat × Nat} (hb : Bk[kk]? = some b) (hd : ds[kk]? = some d)
    (h1 : Hv N vA vB A Bk A Bk ds (if fa then ms.set kk mp else ms) ms O W) (h2 : Fs F fl W) (h3 : ∃ a b, W.heap[s]? = some (.cells #[a, b, pv] 37 (0, 0))) (h4 : O F = (9, 0)) (h5 : O s = (9, 0)) (h6 : N ≤ F) (h7 : N ≤ s) (h8 : Below N w0 W)
    (R : Rk N mp b d' W') (hk : ∀ k, d'.ownBlock = some k → d.ownBlock = some k ∨ k = W.heap.size) (os : W'.os = W.os) (tape : W'.tape = W.tape) (out : W'.output = W.output) (hs : W.heap.size ≤ W'.heap.size) (hf : ∀ k, k < W.heap.size → k ≠ b → ¬ d.ownBlock = some k → W'.heap[k]? = W.heap[k]?) :
    S15 N vA vB A Bk ms kk mp F s fl pv w0 fa true W' := by
  obtain ⟨x, y, h3⟩ := h3
  have hsl : s < W.heap.size := (Array.getElem?_eq_some_iff.1 h3).1
  have hO := (h1.tb kk b hb)
  have h9 := h1.wb hb hd R hk hs hf
  have f1 := fs_lt h2
  have eF : W'.heap[F]? = W.heap[F]? := hf F f1 (fun e => by rw [e, hO.2] at h4; cases h4) (fun e => by rw [h1.td kk d F hd e] at h4; cases h4)
  have eS : W'.heap[s]? = W.heap[s]? := hf s hsl (fun e => by rw [e, hO.2] at h5; cases h5) (fun e => by rw [h1.td kk d s hd e] at h5; cases h5)
  refine ⟨_, _, by simpa using h9, fs_keep h2 eF, ⟨x, y, eS.trans h3⟩, (upd_old (by omega)).trans h4, (upd_old (by omega)).trans h5, h6, h7, h8.trans ⟨os, tape, out, hs, fun j hj => hf j (by have := h1.sz; omega) (by omega) (fun e => by have := (h1.dLt hd e).1; omega)⟩⟩
end
/-- The list that was turned about is nobody's. -/
theorem hq_touch {N : Nat} {vA vB : Value} {A Bk : List Nat} {ms : List (List Nat)} {F : Nat} {w w' : World} {ds : List Value} {O : Nat → Nat × Nat} (h : Hv N vA vB A Bk A Bk ds ms ms O w) (hO : O F = (9, 0)) (t : Touch F w w') : Hq N vA vB A Bk ms w' :=
  ⟨ds, O, h.keep t.size fun k _ hk ht => t.block k hk (fun e => by rw [e, hO] at ht; simp at ht)⟩
theorem hq_reset {N : Nat} {vA vB : Value} {A Bk : List Nat} {ms : List (List Nat)} {kk g b : Nat} {w w1 w2 : World} {ds : List Value} {O : Nat → Nat × Nat} {d : Value} (h : Hv N vA vB A Bk A Bk ds ms ms O w) (hg : A[kk]? = some g) (hb : Bk[kk]? = some b) (hd : ds[kk]? = some d)
    (t1 : Touch g w w1) (k1 : Tk [] g w1) (t2 : Touch b w1 w2) (k2 : Rk N [] b (.slice none 0 0) w2) : Hq N vA vB A Bk (ms.set kk []) w2 := by
  have h1 := h.wa (w' := w1) hg t1.size t1.block k1
  have h2 := h1.wb (w' := w2) (m' := []) hb hd k2 (fun k hk => by simp [Value.ownBlock] at hk) t2.size (fun k hk hne _ => t2.block k hk hne)
  exact ⟨_, _, h2⟩
end Go.Proofs.YtkppejaigodgiacDoor.Hash
