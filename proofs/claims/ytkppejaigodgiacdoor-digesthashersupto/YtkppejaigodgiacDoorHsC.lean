/- DigestHashers: a clone more; the script. -/
import Derived.Test.YtkppejaigodgiacDoorHsT
namespace Go.Proofs.YtkppejaigodgiacDoor.Hash
open Go.RowKit Go.Proofs.YtkppejaigodgiacDoor.Sha
theorem info30 : (Tryd.prog.info? 30).map (fun i => (i.zero, i.size, i.bytes)) = some (some (.pointer none), 1, 8) := by kernel_rfl
theorem info33 : (Tryd.prog.info? 33).map (fun i => (i.zero, i.size, i.bytes)) = some (some (.pointer none), 1, 8) := by kernel_rfl
def apA (ty : Nat) (vs : Array Value) : Sem Value := Builtin.append_ #[32, 32] ty vs
theorem toApA (ty : Nat) (vs : Array Value) : Builtin.append_ #[32, 32] ty vs = apA ty vs := rfl
def apB (ty : Nat) (vs : Array Value) : Sem Value := Builtin.append_ #[35, 35] ty vs
theorem toApB (ty : Nat) (vs : Array Value) : Builtin.append_ #[35, 35] ty vs = apB ty vs := rfl
theorem run_ptrs {t e : Nat} (hi : (Tryd.prog.info? e).map (fun i => (i.zero, i.size, i.bytes)) = some (some (.pointer none), 1, 8)) (hu : Tryd.prog.underlying t = some (.slice e)) (w : World) (base n ty : Nat) (v x : Value) (xs : List Value) (hown : w.ownsRow base e 1 v n xs) (hx : x.oneCell' = true) (hb : n + 1 ≤ 1099511627776) (hbase : base ≤ w.heap.size) :
    ∃ v' w', (Builtin.append_ #[t, t] ty #[v, .slice (some ⟨w.heap.size, 0, none⟩) 1 1]).run Tryd.prog (w.alloc (.cells #[x] e)) = .ok v' w' ∧ w'.ownsRow base e 1 v' (n + 1) (xs ++ [x]) ∧ (w.alloc (.cells #[x] e)).grownBy w' v.ownBlock ∧ (v'.ownBlock = v.ownBlock ∨ v'.ownBlock = some (w.heap.size + 1)) := by
  obtain ⟨i0, hi0, hz0, hz1, hz2⟩ := info_parts hi
  obtain ⟨v', w', hr, ho, hg, _, hat⟩ := run_append_own_at (P := Tryd.prog) (w.alloc (.cells #[x] e)) base t ty e i0 _ 1 8 hu hi0 hz0 hz1 hz2 rfl (by omega) v n _ (hown.alloc _) ⟨w.heap.size, 0, none⟩ 1 1 [x] rfl (fun j u hu => by
    have hj : j = 0 := by have := (List.getElem?_eq_some_iff.1 hu).1; simp at this; exact this
    subst hj
    have : u = x := by simpa using hu.symm
    subst this
    exact (cell_of_row (w.alloc (.cells #[u] e)) w.heap.size 0 #[u] e (0, 0) (heap_alloc_new w (.cells #[u] e))).trans rfl) (fun u hu => by
      have : u = x := by simpa using hu
      rw [this]; exact hx) (by unfold maxLen; omega) (by omega) (by simp; omega)
  refine ⟨v', w', hr, ho, hg, ?_⟩
  rcases hat with hat | hat
  · exact .inl hat
  · exact .inr (by rw [hat]; simp)
theorem own_base {w : World} {B B' e n : Nat} {v : Value} {xs : List Value} (h : w.ownsRow B e 1 v n xs) (hB : B' ≤ B) : w.ownsRow B' e 1 v n xs := by
  obtain ⟨h0, h1 | ⟨g, cap, cur, h2, h3, h4⟩⟩ := h
  · exact ⟨h0, .inl h1⟩
  · exact ⟨h0, .inr ⟨g, cap, cur, h2, by omega, h4⟩⟩
theorem ptrs_snoc (A : List Nat) (g : Nat) : A.map ptr ++ [.pointer (some ⟨g, 0, none⟩)] = (A ++ [g]).map ptr := by simp [ptr]
/-- The code's clone, and its list grown. -/
theorem clone_a {N : Nat} {vA vB : Value} {A Bk : List Nat} {ms : List (List Nat)} {w w1 : World} {ds : List Value} {O : Nat → Nat × Nat} {m : List Nat} (h : Hv N vA vB A Bk A Bk ds ms ms O w) (b1 : Below w.heap.size w w1) (k1 : Tk m w.heap.size w1) (hn : A.length ≤ 1099511627) :
    ∃ vA' w2 O', (apA 32 #[vA, .slice (some ⟨w1.heap.size, 0, none⟩) 1 1]).run Tryd.prog (w1.alloc (.cells #[.pointer (some ⟨w.heap.size, 0, none⟩)] 30)) = .ok vA' w2 ∧
      Hv N vA' vB (A ++ [w.heap.size]) Bk A Bk ds ms ms O' w2 ∧ O' w.heap.size = (0, A.length) ∧ Tk m w.heap.size w2 ∧ Below N w w2 ∧ w.heap.size < w2.heap.size := by
  have hs1 := k1.lt
  have h1 := (h.res w.heap.size (Nat.le_refl _) (0, A.length)).below b1
  obtain ⟨vA', w2, r, ho, hg, ha⟩ := run_ptrs info30 (by kernel_rfl : Tryd.prog.underlying 32 = some (.slice 30)) w1 N A.length 32 vA (.pointer (some ⟨w.heap.size, 0, none⟩)) _ h1.va rfl (by omega) h1.sz
  have h2 := h1.res (w1.heap.size + 1) (by omega) (3, 0)
  have z2 : w1.heap.size ≤ w2.heap.size := by have := hg.size; simp at this; omega
  have bl : ∀ k, k < w1.heap.size → ¬ vA.ownBlock = some k → w2.heap[k]? = w1.heap[k]? := fun k hk hne => by
    rw [hg.block k (by simp; omega) (fun e => hne e.symm), heap_alloc_old _ _ (h := hk)]
  refine ⟨vA', w2, _, r, h2.sa (LA' := A ++ [w.heap.size]) z2 bl ?_ ?_, ?_, k1.keep (bl _ hs1 fun e => ?_), ?_, by omega⟩
  · rw [← ptrs_snoc]; simpa using ho
  · intro k hk
    rcases ha with ha | ha
    · exact h2.ya k (ha.symm.trans hk)
    · rw [ha] at hk; rw [← Option.some.inj hk]; exact upd_new
  · rw [upd_old (by omega)]; exact upd_new
  · have := (h.va.lt _ e).2; omega
  · exact (b1.mono h.sz).trans ⟨by rw [hg.os]; rfl, by rw [hg.tape]; rfl, by rw [hg.output]; rfl, z2, fun j hj => bl j (by have := h1.sz; omega) (fun e => by have := (h.va.lt _ e).1; omega)⟩
/-- The document's clone, and its list grown. -/
theorem clone_b {N : Nat} {vA vB : Value} {A Bk : List Nat} {ms : List (List Nat)} {w w3 : World} {ds : List Value} {O : Nat → Nat × Nat} {m : List Nat} {g h' : Nat} {d' : Value} (h : Hv N vA vB (A ++ [g]) Bk A Bk ds ms ms O w) (og : O g = (0, A.length)) (hgN : N ≤ g) (kg : Tk m g w)
    (b3 : Below w.heap.size w w3) (r3 : Rk w.heap.size m h' d' w3) (hh : w.heap.size ≤ h') (hd : ¬ d'.ownBlock = some h') (hn : A.length ≤ 1099511627) :
    ∃ vB' w4, (apB 35 #[vB, .slice (some ⟨w3.heap.size, 0, none⟩) 1 1]).run Tryd.prog (w3.alloc (.cells #[.pointer (some ⟨h', 0, none⟩)] 33)) = .ok vB' w4 ∧ Hq N vA vB' (A ++ [g]) (Bk ++ [h']) (ms ++ [m]) w4 ∧ Below N w w4 := by
  have hs := h.sz
  have gl := kg.lt
  have hs3 := r3.lt
  have ⟨O1, hO1, hO2, hO3, hO4⟩ : ∃ O1, Hv N vA vB (A ++ [g]) Bk A Bk ds ms ms O1 w ∧ O1 h' = (1, A.length) ∧ (∀ k, d'.ownBlock = some k → O1 k = (2, A.length)) ∧ O1 g = (0, A.length) := by
    have q1 := h.res h' hh (1, A.length)
    cases hdo : d'.ownBlock with
    | none => exact ⟨_, q1, upd_new, fun k hk => (by cases hk), (upd_old (by omega)).trans og⟩
    | some k0 =>
      have := (r3.2.lt k0 hdo).1
      refine ⟨_, q1.res k0 this (2, A.length), (upd_old (fun e => hd (by rw [hdo, e]))).trans upd_new, fun k hk => ?_, (upd_old (by omega)).trans ((upd_old (by omega)).trans og)⟩
      rw [← Option.some.inj hk]; exact upd_new
  have h3 := hO1.below b3
  obtain ⟨vB', w4, r, ho, hg, ha⟩ := run_ptrs info33 (by kernel_rfl : Tryd.prog.underlying 35 = some (.slice 33)) w3 N Bk.length 35 vB (.pointer (some ⟨h', 0, none⟩)) _ h3.vb rfl (by have := h.lb; omega) h3.sz
  have h4 := h3.res (w3.heap.size + 1) (by omega) (4, 0)
  have z4 : w3.heap.size ≤ w4.heap.size := by have := hg.size; simp at this; omega
  have bl : ∀ k, k < w3.heap.size → ¬ vB.ownBlock = some k → w4.heap[k]? = w3.heap[k]? := fun k hk hne => by
    rw [hg.block k (by simp; omega) (fun e => hne e.symm), heap_alloc_old _ _ (h := hk)]
  have h5 := h4.sb (w' := w4) (LB' := Bk ++ [h']) z4 bl (by rw [← ptrs_snoc]; simpa using ho) (fun k hk => by
    rcases ha with ha | ha
    · exact h4.yb k (ha.symm.trans hk)
    · rw [ha] at hk; rw [← Option.some.inj hk]; exact upd_new)
  have lt3 := b3.size
  have nb : ∀ k, w.heap.size ≤ k → ¬ vB.ownBlock = some k := fun k hk e => by have := (h.vb.lt _ e).2; omega
  have kg4 : Tk m g w4 := (kg.keep (b3.block g gl)).keep (bl g (by omega) (fun e => by have := hO1.yb g e; rw [hO4] at this; cases this))
  have r4 : Rk N m h' d' w4 := by
    have : Rk w.heap.size m h' d' w4 := r3.keep (bl h' hs3 (nb _ hh)) (fun k hk => bl k (r3.2.lt k hk).2 (nb k (r3.2.lt k hk).1))
    exact ⟨this.1, own_base this.2 hs⟩
  refine ⟨vB', w4, r, ⟨_, _, h5.more kg4 r4 hgN (by omega) ((upd_old (by omega)).trans hO4) ((upd_old (by omega)).trans hO2) (fun k hk => (upd_old (by have := (r3.2.lt k hk).2; omega)).trans (hO3 k hk))⟩, ?_⟩
  exact (b3.mono hs).trans ⟨by rw [hg.os]; rfl, by rw [hg.tape]; rfl, by rw [hg.output]; rfl, z4, fun j hj => bl j (by omega) (fun e => by have := (h.vb.lt _ e).1; omega)⟩
/-- The script that is handed in. -/
structure Stp where
  kind : Int
  which : Int
  pv : Value
  p : List Nat
def Scr (v : Value) (l : List Stp) (w : World) : Prop :=
  (v = .slice none 0 0 ∧ l = []) ∨ ∃ b off cap, v = .slice (some ⟨b, off, none⟩) l.length cap ∧ l.length ≤ maxLen ∧ b < w.heap.size ∧
    ∀ (j : Nat) x, l[j]? = some x → w.cell? ⟨b, off + j * 3, none⟩ = some (.int .i64 x.kind) ∧ w.cell? ⟨b, off + j * 3 + 1, none⟩ = some (.int .i64 x.which) ∧ w.cell? ⟨b, off + j * 3 + 2, none⟩ = some x.pv ∧ Byz x.pv x.p w
def I64 (x : Int) : Prop := -9223372036854775808 ≤ x ∧ x < 9223372036854775808
def tot (l : List Stp) (k : Nat) : Nat := ((l.take k).map fun x => x.p.length).sum
theorem tot_succ {l : List Stp} {k : Nat} {x : Stp} (h : l[k]? = some x) : tot l (k + 1) = tot l k + x.p.length := by
  unfold tot
  rw [List.take_add_one, h]
  simp
theorem tot_le (l : List Stp) : ∀ k, tot l k ≤ (l.map fun x => x.p.length).sum := by
  intro k
  unfold tot
  conv => rhs; rw [← List.take_append_drop k l, List.map_append, List.sum_append]
  omega
end Go.Proofs.YtkppejaigodgiacDoor.Hash
