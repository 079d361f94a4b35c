/- Graphs in order: the heap's methods. -/
import Derived.Test.YtibhjkmbbfgnpaaGi
import Derived.Test.YtibhjkmbbfgnpaaGlM
namespace Go.Proofs.Ytibhjkmbbfgnpaa
open Go.RowKit
set_option maxRecDepth 100000
set_option maxRecDepth 100000 in
theorem rowLen : (Try.prog.info? 110).bind (fun i => (i.methods.find? (·.name == "Len")).map fun m => (m.path.size, m.func)) = some (0, some (78, false)) := by kernel_rfl
set_option maxRecDepth 100000 in
theorem rowLess : (Try.prog.info? 110).bind (fun i => (i.methods.find? (·.name == "Less")).map fun m => (m.path.size, m.func)) = some (0, some (121, false)) := by kernel_rfl
set_option maxRecDepth 100000 in
theorem rowSwap : (Try.prog.info? 110).bind (fun i => (i.methods.find? (·.name == "Swap")).map fun m => (m.path.size, m.func)) = some (0, some (124, false)) := by kernel_rfl
set_option maxRecDepth 100000 in
theorem mtPush (v : Value) (w : World) : (Go.method 261 110 v "Push").run Try.prog w = .ok (123, v) w := by kernel_rfl
set_option maxRecDepth 100000 in
theorem mtPop (v : Value) (w : World) : (Go.method 261 110 v "Pop").run Try.prog w = .ok (122, v) w := by kernel_rfl
set_option maxRecDepth 100000 in
theorem nilchk (a : Addr) (w : World) (s t : ByteArray) : (Builtin.ssaWrapNilChk_ #[110] 110 #[.pointer (some a), .string s, .string t]).run Try.prog w = .ok (.pointer (some a)) w := by rfl
set_option maxRecDepth 100000 in
theorem recv (a : Addr) (w : World) (n : String) : (receiverAt 110 (.val (.pointer (some a))) false (some n)).run Try.prog w = (loadVar 111 a).run Try.prog w := by
  simp [receiverAt, go_sem, Place.get, nilchk, strVal]
/-- A method of the list behind the pointer. -/
theorem mt_of {f : Nat} {s : String} (hr : (Try.prog.info? 110).bind (fun i => (i.methods.find? (·.name == s)).map fun m => (m.path.size, m.func)) = some (0, some (f, false))) (a : Addr) (w : World) (v : Value) (h : w.cell? a = some v) : (Go.method 261 110 (.pointer (some a)) s).run Try.prog w = .ok (f, v) w := by
  obtain ⟨i, hi, h2⟩ := Option.bind_eq_some_iff.1 hr
  obtain ⟨m, hm, h3⟩ := Option.map_eq_some_iff.1 h2
  injection h3 with h4 h5
  have hp : m.path = #[] := Array.eq_empty_of_size_eq_zero h4
  show (Go.method (261 - 1 + 1) 110 (.pointer (some a)) s).run Try.prog w = _
  unfold Go.method
  simp [go_sem, typeInfo, hi, hm, hp, h5, follow, recv, h]
/-- The heap's list in its variable. -/
structure Hp (fb : Nat) (v : Value) (F : List Nat) (w : World) : Prop where
  row : w.heap[fb]? = some (.cells #[v] 111 (0, 0))
  own : w.ownsRow 0 3 1 v F.length (ik F).toList
/-- Nothing else is changed. -/
structure Ch (fb : Nat) (v v' : Value) (w w' : World) : Prop where
  os : w'.os = w.os
  tape : w'.tape = w.tape
  output : w'.output = w.output
  size : w.heap.size ≤ w'.heap.size
  blk : ∀ k, k < w.heap.size → k ≠ fb → ¬ v.ownBlock = some k → w'.heap[k]? = w.heap[k]?
  own : ∀ k, v'.ownBlock = some k → v.ownBlock = some k ∨ w.heap.size ≤ k
theorem Ch.refl (fb : Nat) (v : Value) (w : World) : Ch fb v v w w := ⟨rfl, rfl, rfl, Nat.le_refl _, fun _ _ _ _ => rfl, fun _ h => .inl h⟩
theorem Ch.trans {fb : Nat} {v v' v'' : Value} {w w' w'' : World} (h : Ch fb v v' w w') (h2 : Ch fb v' v'' w' w'') : Ch fb v v'' w w'' := by
  refine ⟨h2.os.trans h.os, h2.tape.trans h.tape, h2.output.trans h.output, Nat.le_trans h.size h2.size, fun k hk hf hv => ?_, fun k hk => ?_⟩
  · refine (h2.blk k (Nat.lt_of_lt_of_le hk h.size) hf fun q => ?_).trans (h.blk k hk hf hv)
    rcases h.own k q with r | r
    · exact hv r
    · omega
  · rcases h2.own k hk with r | r
    · exact h.own k r
    · have := h.size; exact .inr (by omega)
theorem Ch.drew {fb : Nat} {v v' : Value} {w w' : World} (h : Ch fb v v' w w') (n : Nat) : Ch fb v v' w (w'.drewN n) := ⟨h.os, h.tape, h.output, h.size, h.blk, h.own⟩
theorem Hp.drew {fb : Nat} {v : Value} {F : List Nat} {w : World} (h : Hp fb v F w) (n : Nat) : Hp fb v F (w.drewN n) := ⟨h.row, own_keep2 h.own fun _ _ => rfl⟩
theorem Hp.cell {fb : Nat} {v : Value} {F : List Nat} {w : World} (h : Hp fb v F w) : w.cell? ⟨fb, 0, none⟩ = some v ∧ w.frozen? ⟨fb, 0, none⟩ = false := ⟨(cell_of_row w fb 0 _ _ _ h.row).trans rfl, frozen_of_row w _ _ _ _ h.row⟩
/-- The list's own block is another one. -/
theorem Hp.ne {fb : Nat} {v : Value} {F : List Nat} {w : World} (h : Hp fb v F w) : ¬ v.ownBlock = some fb := fun q => by
  obtain ⟨h0, h1⟩ := h.own
  rcases h1 with ⟨rfl, -⟩ | ⟨g, cap, cur, rfl, -, hg, -⟩
  · cases q
  · have e : g = fb := Option.some.inj q
    subst e
    have := hg.symm.trans h.row
    injection this with this
    injection this with _ e2
    exact absurd e2 (by decide)
/-- A number of an owned list is written over. -/
theorem own_set {w : World} {B b n c : Nat} {l : List Nat} (h : w.ownsRow B 3 1 (.slice (some ⟨b, 0, none⟩) n c) n (ik l).toList) (j x : Nat) : (w.setCell ⟨b, j, none⟩ (.int .i64 (x : Int))).ownsRow B 3 1 (.slice (some ⟨b, 0, none⟩) n c) n (ik (l.set j x)).toList ∧ w.frozen? ⟨b, j, none⟩ = false := by
  obtain ⟨h0, h1⟩ := h
  rcases h1 with ⟨h1, -⟩ | ⟨g, cap, cur, e, hB, hg, hnc, hcm, hcs, htk⟩
  · cases h1
  · injection e with e1 e2 e3
    injection e1 with e1
    injection e1 with e1
    subst e1 e3
    refine ⟨⟨by simpa [ik] using h0, .inr ⟨b, c, cur.setIfInBounds j (.int .i64 (x : Int)), rfl, hB, heap_setCell_same _ _ _ _ _ _ hg, hnc, hcm, by simpa using hcs, ?_⟩⟩, frozen_of_row _ _ _ _ _ hg⟩
    rw [← ik_set, Array.toList_setIfInBounds, Array.toList_setIfInBounds, ← htk, List.take_set]
theorem own_at {w : World} {B n : Nat} {v : Value} {l : List Nat} (h : w.ownsRow B 3 1 v n (ik l).toList) (hl : 0 < l.length) : ∃ b c, n = l.length ∧ v = .slice (some ⟨b, 0, none⟩) l.length c ∧ b < w.heap.size ∧ ∀ j, j < l.length → w.cell? ⟨b, j, none⟩ = some (.int .i64 ((l.getD j 0 : Nat) : Int)) := by
  obtain ⟨h1, o, c, h2, h3⟩ := own_get h
  obtain ⟨b, rfl, h4, -, h5⟩ := h3 hl
  exact ⟨b, c, h1, h2, h4, h5⟩
end Go.Proofs.Ytibhjkmbbfgnpaa
