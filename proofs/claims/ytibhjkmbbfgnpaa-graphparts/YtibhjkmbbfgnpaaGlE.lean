/- Graphs in order: what lies there. -/
import Derived.Test.YtibhjkmbbfgnpaaGlD
namespace Go.Proofs.Ytibhjkmbbfgnpaa
open Go.RowKit GM Gl
set_option maxRecDepth 1000000 in
theorem run_mkI0 (w : World) (n : Nat) (hn : n ≤ 1099511627776) : ∃ w', (mkI (.int .i64 0) (.int .i64 (n : Int))).run Try.prog w = .ok (.slice (some ⟨w.heap.size, 0, none⟩) 0 n) w' ∧ w'.heap[w.heap.size]? = some (.cells (ik (List.replicate n 0)) 3 (0, 0)) ∧ Below w.heap.size w w' := by
  obtain ⟨i0, hi0, hz0, hz1, hz2⟩ := info_parts info3
  have hr := run_make (P := Try.prog) w 28 3 i0 _ (by kernel_rfl) hi0 hz0 .i64 .i64 0 n (by omega) (by omega) (by rw [hz2]; omega) (by omega)
  simp only [Int.toNat_natCast, Int.toNat_zero] at hr
  refine ⟨_, hr, ?_, (Below.refl _ w).alloc (Nat.le_refl _) _⟩
  rw [heap_alloc_new, hz1, Nat.mul_one]
  congr 2
  apply Array.ext'
  have : (Value.int IntKind.i64 0).cells = #[Value.int .i64 0] := rfl
  rw [this, toList_madeCells_one]
  simp [ik]
/-- How many needs of each node are missing, and the heap. -/
structure Oo (W1 : World) (gm B fb N : Nat) (ms : List Nat) (v : Value) (F : List Nat) (X : World) : Prop where
  b1 : Below W1.heap.size W1 X
  row : X.heap[gm]? = some (.cells (ik ms) 3 (0, 0))
  ml : ms.length = N
  hp : Hp fb v F X
  vo : ∀ k, v.ownBlock = some k → B ≤ k
  g1 : W1.heap.size ≤ gm
  g2 : gm < B
  g3 : B < fb
theorem Oo.get {W1 : World} {gm B fb N : Nat} {ms : List Nat} {v : Value} {F : List Nat} {X : World} (h : Oo W1 gm B fb N ms v F X) (j : Nat) (hj : j < N) : X.cell? ⟨gm, j, none⟩ = some (.int .i64 ((ms.getD j 0 : Nat) : Int)) ∧ X.frozen? ⟨gm, j, none⟩ = false := ⟨(cell_of_row X gm j _ _ _ h.row).trans (ik_get ms j (by rw [h.ml]; exact hj)), frozen_of_row X _ _ _ _ h.row⟩
theorem Oo.set {W1 : World} {gm B fb N : Nat} {ms : List Nat} {v : Value} {F : List Nat} {X : World} (h : Oo W1 gm B fb N ms v F X) (j x : Nat) : Oo W1 gm B fb N (ms.set j x) v F (X.setCell ⟨gm, j, none⟩ (.int .i64 (x : Int))) := by
  have h1 := h.g1
  have h2 := h.g2
  have h3 := h.g3
  refine ⟨h.b1.setCell (by show W1.heap.size ≤ gm; exact h1) _, ?_, by simp [h.ml], ⟨(heap_setCell_other _ _ _ _ (by show fb ≠ gm; omega)).trans h.hp.row, own_keep2 h.hp.own fun k hk => heap_setCell_other _ _ _ _ (by show k ≠ gm; have := h.vo k hk; omega)⟩, h.vo, h1, h2, h3⟩
  rw [heap_setCell_same _ _ _ _ _ _ h.row, ik_set]
theorem Oo.ch {W1 : World} {gm B fb N : Nat} {ms : List Nat} {v v' : Value} {F F' : List Nat} {X X' : World} (h : Oo W1 gm B fb N ms v F X) (hp : Hp fb v' F' X') (hc : Ch fb v v' X X') : Oo W1 gm B fb N ms v' F' X' := by
  have h1 := h.g1
  have h2 := h.g2
  have h3 := h.g3
  have hs := (Array.getElem?_eq_some_iff.1 h.hp.row).1
  have hk : ∀ k, k < B → X'.heap[k]? = X.heap[k]? := fun k hk => hc.blk k (by omega) (by omega) (fun q => by have := h.vo k q; omega)
  refine ⟨⟨hc.os.trans h.b1.os, hc.tape.trans h.b1.tape, hc.output.trans h.b1.output, Nat.le_trans h.b1.size hc.size, fun k q => (hk k (by omega)).trans (h.b1.block k q)⟩, (hk gm h2).trans h.row, h.ml, hp, fun k q => ?_, h1, h2, h3⟩
  rcases hc.own k q with r | r
  · exact h.vo k r
  · omega
/-- What stands already. -/
structure Ou (B fb : Nat) (v ov : Value) (o : List Nat) (X : World) : Prop where
  own : X.ownsRow (B + 1) 3 1 ov o.length (ik o).toList
  ap : ∀ k, ov.ownBlock = some k → ¬ v.ownBlock = some k ∧ k ≠ fb
theorem Ou.ch {B fb : Nat} {v v' ov : Value} {o : List Nat} {X X' : World} (h : Ou B fb v ov o X) (hc : Ch fb v v' X X') : Ou B fb v' ov o X' := by
  refine ⟨own_keep2 h.own fun k hk => hc.blk k (h.own.lt k hk).2 (h.ap k hk).2 (h.ap k hk).1, fun k hk => ⟨fun q => ?_, (h.ap k hk).2⟩⟩
  rcases hc.own k q with r | r
  · exact (h.ap k hk).1 r
  · have := (h.own.lt k hk).2; omega
theorem Ou.set {W1 : World} {gm B fb N : Nat} {ms : List Nat} {v ov : Value} {F o : List Nat} {X : World} (h : Ou B fb v ov o X) (hO : Oo W1 gm B fb N ms v F X) (j : Nat) (x : Value) : Ou B fb v ov o (X.setCell ⟨gm, j, none⟩ x) :=
  ⟨own_keep2 h.own fun k hk => heap_setCell_other _ _ _ _ (by show k ≠ gm; have := (h.own.lt k hk).1; have := hO.g2; omega), h.ap⟩
/-- One more stands. -/
theorem Ou.add {W1 : World} {gm B fb N : Nat} {ms : List Nat} {v ov : Value} {F o : List Nat} {X : World} (h : Ou B fb v ov o X) (hO : Oo W1 gm B fb N ms v F X) (x : Nat) (hn : o.length ≤ 1000000) :
    ∃ a n c V, (apI 28 #[ov, .slice (some ⟨X.heap.size, 0, none⟩) 1 1]).run Try.prog (X.alloc (.cells #[.int .i64 (x : Int)] 3)) = .ok (.slice a n c) V ∧ Ou B fb v (.slice a n c) (o ++ [x]) V ∧ Oo W1 gm B fb N ms v F V := by
  have h1 := hO.g1
  have h2 := hO.g2
  have h3 := hO.g3
  have hs := (Array.getElem?_eq_some_iff.1 hO.hp.row).1
  obtain ⟨v', V, r, ow, g, at'⟩ := run_apI X (B + 1) o.length 28 ov o x h.own (by omega) (by omega)
  obtain ⟨a, c, rfl⟩ := own_size ow
  have hk : ∀ k, k < X.heap.size → ¬ ov.ownBlock = some k → V.heap[k]? = X.heap[k]? := fun k hk hn => (g.block k (by simp; omega) (fun q => hn q.symm)).trans (heap_alloc_old X _ (h := hk))
  have hf : V.heap[fb]? = X.heap[fb]? := hk fb hs (fun q => (h.ap fb q).2 rfl)
  refine ⟨a, _, c, V, r, ⟨by rw [List.length_append]; exact ow, fun k q => ?_⟩, ⟨⟨g.os.trans hO.b1.os, g.tape.trans hO.b1.tape, g.output.trans hO.b1.output, ?_, fun k q => (hk k (by omega) (fun z => by have := (h.own.lt k z).1; omega)).trans (hO.b1.block k q)⟩, (hk gm (by omega) (fun z => by have := (h.own.lt gm z).1; omega)).trans hO.row, hO.ml, ⟨hf.trans hO.hp.row, own_keep2 hO.hp.own fun k q => hk k (hO.hp.own.lt k q).2 (fun z => (h.ap k z).1 q)⟩, hO.vo, h1, h2, h3⟩⟩
  · rcases at' with e | e
    · rw [e] at q
      exact h.ap k q
    · rw [e] at q
      have := Option.some.inj q
      refine ⟨fun z => ?_, by omega⟩
      have := (hO.hp.own.lt k z).2
      omega
  · have := g.size
    have := hO.b1.size
    simp at *
    omega
theorem kn_len {L : Nat → List Nat} {N : Nat} {o F : List Nat} {M : Nat → Nat} (h : Kn L N o F M) : o.length + F.length ≤ N := by
  have := List.Nodup.length_le_of_subset (l₁ := o ++ F) (l₂ := List.range N) h.nd (fun v hv => List.mem_range.2 (h.lt v hv))
  simpa using this
theorem kp_len {L : Nat → List Nat} {N : Nat} {o F : List Nat} {M : Nat → Nat} {r : List Nat} (h : Kp L N o F M r) : o.length + F.length ≤ N := by
  have := List.Nodup.length_le_of_subset (l₁ := o ++ F) (l₂ := List.range N) h.nd (fun v hv => List.mem_range.2 (h.lt v hv))
  simpa using this
theorem kf_len {L : Nat → List Nat} {N k : Nat} {F : List Nat} {M : Nat → Nat} (h : Kf L N k F M) : F.length ≤ k := by
  have := List.Nodup.length_le_of_subset (l₁ := F) (l₂ := List.range k) h.nd (fun v hv => List.mem_range.2 ((h.zr v).1 hv).1)
  simpa using this
end Go.Proofs.Ytibhjkmbbfgnpaa
