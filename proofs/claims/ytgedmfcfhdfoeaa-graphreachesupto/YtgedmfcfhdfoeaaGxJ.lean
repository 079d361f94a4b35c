/- What the law gathers of an iterator: pairs behind one another, in a list of its own in a box. -/
import Derived.Test.YtgedmfcfhdfoeaaGxI
namespace Go.Proofs.Ytgedmfcfhdfoeaa
open Go.RowKit GM
set_option maxRecDepth 20000
theorem ik_app (a b : List Nat) : (ik (a ++ b)).toList = (ik a).toList ++ (ik b).toList := by simp [ik]
/-- Two numbers appended. -/
theorem run_apI2 (w : World) (base n ty : Nat) (v : Value) (l : List Nat) (x y : Nat) (hown : w.ownsRow base 3 1 v n (ik l).toList) (hb : n + 2 ≤ 1099511627776) (hbase : base ≤ w.heap.size) :
    ∃ v' w', (apI ty #[v, .slice (some ⟨w.heap.size, 0, none⟩) 2 2]).run Try.prog (w.alloc (.cells #[.int .i64 (x : Int), .int .i64 (y : Int)] 3)) = .ok v' w' ∧ w'.ownsRow base 3 1 v' (n + 2) (ik (l ++ [x, y])).toList ∧ (w.alloc (.cells #[.int .i64 (x : Int), .int .i64 (y : Int)] 3)).grownBy w' v.ownBlock ∧ (v'.ownBlock = v.ownBlock ∨ v'.ownBlock = some (w.heap.size + 1)) := by
  obtain ⟨i0, hi0, hz0, hz1, hz2⟩ := info_parts info3
  obtain ⟨v', w', hr, ho, hg, _, hat⟩ := run_append_own_at (P := Try.prog) (w.alloc (.cells #[.int .i64 (x : Int), .int .i64 (y : Int)] 3)) base 32 ty 3 i0 _ 1 8 Try.underlying32 hi0 hz0 hz1 hz2 rfl (by omega) v n _ (hown.alloc _) ⟨w.heap.size, 0, none⟩ 2 2 [.int .i64 (x : Int), .int .i64 (y : Int)] rfl
    (World.news_of_block (cs := #[.int .i64 (x : Int), .int .i64 (y : Int)]) (t := 3) (fr := (0, 0)) (heap_alloc_new w _)) (fun u hu => by
      rcases List.mem_cons.1 hu with q | q
      · subst q; rfl
      · have q := List.mem_singleton.1 q
        subst q; rfl) (by unfold maxLen; omega) (by omega) (by simp; omega)
  refine ⟨v', w', hr, ?_, hg, ?_⟩
  · rw [ik_app]
    exact ho
  · rcases hat with hat | hat
    · exact .inl hat
    · exact .inr (by rw [hat]; simp)
/-- Pairs behind one another. -/
def fl (L : List (Nat × Nat)) : List Nat := L.flatMap fun p => [p.1, p.2]
theorem fl_len (L : List (Nat × Nat)) : (fl L).length = 2 * L.length := by
  induction L with
  | nil => rfl
  | cons p r ih =>
    have : fl (p :: r) = p.1 :: p.2 :: fl r := rfl
    rw [this, List.length_cons, List.length_cons, ih, List.length_cons]
    omega
theorem fl_snoc (L : List (Nat × Nat)) (p : Nat × Nat) : fl (L ++ [p]) = fl L ++ [p.1, p.2] := by simp [fl]
theorem take_snocP {α : Type} {l : List α} {i : Nat} {p : α} (h : l[i]? = some p) : l.take (i + 1) = l.take i ++ [p] := by
  obtain ⟨h1, h2⟩ := List.getElem?_eq_some_iff.1 h
  rw [List.take_add_one, h]
  rfl
/-- What has been gathered of the first i pairs: in the list in box kc. -/
structure Col (B kc : Nat) (L : List (Nat × Nat)) (i : Nat) (o : Option Addr) (n c : Nat) (X : Nat → Prop) (w : World) : Prop where
  len : n = 2 * i
  row : w.heap[kc]? = some (.cells #[.slice o n c] 32 (0, 0))
  own : w.ownsRow B 3 1 (.slice o n c) n (ik (fl (L.take i))).toList
  xs : ∀ k, X k ↔ k = kc ∨ (Value.slice o n c).ownBlock = some k
  kB : kc < B
section
variable {B kc i n c : Nat} {L : List (Nat × Nat)} {o : Option Addr} {X : Nat → Prop} {w w' : World}
theorem Col.blkB (h : Col B kc L i o n c X w) {k : Nat} (hk : (Value.slice o n c).ownBlock = some k) : B ≤ k ∧ k < w.heap.size := by
  have := h.own.lt k hk
  exact ⟨this.1, this.2⟩
theorem Col.keep (h : Col B kc L i o n c X w) (hb : ∀ k, k < w.heap.size → X k → w'.heap[k]? = w.heap[k]?) : Col B kc L i o n c X w' :=
  ⟨h.len, (hb kc (Array.getElem?_eq_some_iff.1 h.row).1 ((h.xs kc).2 (.inl rfl))).trans h.row, own_keep2 h.own fun k hk => hb k (h.blkB hk).2 ((h.xs k).2 (.inr hk)), h.xs, h.kB⟩
/-- A pair more. -/
theorem Col.step (h : Col B kc L i o n c X w) {p : Nat × Nat} (hp : L[i]? = some p) (hB : B ≤ w.heap.size) (hn : n ≤ 1000000000) :
    ∃ o' c' w2, (apI 32 #[.slice o n c, .slice (some ⟨w.heap.size, 0, none⟩) 2 2]).run Try.prog (w.alloc (.cells #[.int .i64 (p.1 : Int), .int .i64 (p.2 : Int)] 3)) = .ok (.slice o' (n + 2) c') w2 ∧ w2.heap[kc]? = some (.cells #[.slice o n c] 32 (0, 0)) ∧
      ∃ X' : Nat → Prop, Rm.Frm X w (w2.setCell ⟨kc, 0, none⟩ (.slice o' (n + 2) c')) ∧ (∀ k, X' k → (X k ∨ w.heap.size ≤ k) ∧ k < (w2.setCell ⟨kc, 0, none⟩ (.slice o' (n + 2) c')).heap.size) ∧ Col B kc L (i + 1) o' (n + 2) c' X' (w2.setCell ⟨kc, 0, none⟩ (.slice o' (n + 2) c')) := by
  obtain ⟨v', w2, r1, r2, r3, r4⟩ := run_apI2 w B n 32 (.slice o n c) (fl (L.take i)) p.1 p.2 h.own (by omega) hB
  obtain ⟨o', c', rfl⟩ := own_size r2
  have hkc := (Array.getElem?_eq_some_iff.1 h.row).1
  have hnk : ¬ (Value.slice o n c).ownBlock = some kc := fun q => by
    have := (h.blkB q).1
    have := h.kB
    omega
  have old := fun k hk hn => grown_oldR r3 k hk hn
  have hz : w.heap.size ≤ w2.heap.size := by have := r3.size; simp at this; omega
  have rk := (old kc hkc hnk).trans h.row
  have e := setCell_eq_setRow w2 kc 0 _ _ _ (.slice o' (n + 2) c') rk
  have oth : ∀ k, k ≠ kc → (w2.setCell ⟨kc, 0, none⟩ (.slice o' (n + 2) c')).heap[k]? = w2.heap[k]? := fun k hk => heap_setCell_other w2 ⟨kc, 0, none⟩ k _ hk
  have sz : (w2.setCell ⟨kc, 0, none⟩ (.slice o' (n + 2) c')).heap.size = w2.heap.size := by simp
  have n4 : ∀ k, (Value.slice o' (n + 2) c').ownBlock = some k → (Value.slice o n c).ownBlock = some k ∨ w.heap.size ≤ k := fun k q => by
    rcases r4 with q1 | q1
    · exact .inl (q1.symm.trans q)
    · rw [q1] at q
      have := Option.some.inj q
      exact .inr (by omega)
  have hlt2 := r2.lt
  refine ⟨o', c', w2, r1, rk, fun k => k = kc ∨ (Value.slice o' (n + 2) c').ownBlock = some k, ⟨?_, ?_, ?_, by rw [sz]; exact hz, fun k hk hx => ?_⟩, fun k hk => ?_, ?_, ?_, ?_, fun k => Iff.rfl, h.kB⟩
  · rw [e]; exact r3.os
  · rw [e]; exact r3.tape
  · rw [e]; exact r3.output
  · exact (oth k (fun q => hx ((h.xs k).2 (.inl q)))).trans (old k hk (fun q => hx ((h.xs k).2 (.inr q))))
  · rcases hk with q | q
    · exact ⟨.inl ((h.xs k).2 (.inl q)), by rw [sz, q]; omega⟩
    · refine ⟨?_, by rw [sz]; exact (hlt2 k q).2⟩
      rcases n4 k q with q | q
      · exact .inl ((h.xs k).2 (.inr q))
      · exact .inr q
  · have := h.len
    omega
  · rw [e, setRow_heap _ _ _ _ _ _ rk]
    rfl
  · rw [take_snocP hp, fl_snoc]
    refine own_keep2 r2 fun k hk => oth k fun q => ?_
    have := (hlt2 k hk).1
    have := h.kB
    omega
end
end Go.Proofs.Ytgedmfcfhdfoeaa
