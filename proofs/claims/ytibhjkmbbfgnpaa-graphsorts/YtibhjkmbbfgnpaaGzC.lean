/- Graphs: marks cleared; slices.Backward as an iterator. -/
import Derived.Test.YtibhjkmbbfgnpaaGxD
namespace Go.Proofs.Ytibhjkmbbfgnpaa
open Go.RowKit GM
set_option maxRecDepth 20000
def clS (ty : Nat) (vs : Array Value) : Sem Value := Builtin.clear_ #[86] ty vs
theorem toClS (ty : Nat) (vs : Array Value) : Builtin.clear_ #[86] ty vs = clS ty vs := rfl
theorem Mks.clear {w : World} {b : Nat} {M : List Nat} (h : Mks w b M) (ty : Nat) : ∃ w', (clS ty #[.map (some b)]).run Try.prog w = .ok (.tuple #[]) w' ∧ Mks w' b [] ∧ Rm.Frm (fun k => k = b) w w' := by
  obtain ⟨D, ⟨es, clock, hb, F, hs, hD⟩, h2, h3⟩ := h
  have hlt := (Array.getElem?_eq_some_iff.1 hb).1
  refine ⟨{ w with heap := w.heap.setIfInBounds b (.map #[] clock) }, ?_, ⟨.map [], ⟨#[], clock, by simp [hlt], ⟨by simp, MapKept.stamped_empty clock, by simp⟩, Nat.le_refl _, rfl⟩, rfl, fun _ _ => rfl⟩, rfl, rfl, rfl, by simp, fun k hk hx => ?_⟩
  · simp [clS, Builtin.clear_, run_underlying Try.underlying86, MapKept.run_getObj_map hb, MapKept.run_setObj_map _ hb, Result.andThen]
  · have : ¬ b = k := fun e => hx e.symm
    simp [this]
/-- What a round of Backward is handed. -/
def BkV (E : List Nat) (i : Nat) (x : Array Value) (_ : World) : Prop := ∃ j v, j + i + 1 = E.length ∧ E[j]? = some v ∧ x = #[.int .i64 (j : Int), .int .i64 (v : Int)]
/-- Between two rounds. -/
structure Bw (W : World) (X0 : Nat → Prop) (J : Nat → (Nat → Prop) → World → Prop) (i : Nat) (Xo : Nat → Prop) (w : World) : Prop where
  j : J i Xo w
  grw : ∀ k, Xo k → X0 k ∨ W.heap.size ≤ k
  frm : Rm.Frm X0 W w
theorem Bw.frm2 {W w w' : World} {X0 Xo X' : Nat → Prop} {J : Nat → (Nat → Prop) → World → Prop} {i : Nat} (h : Bw W X0 J i Xo w) (hf : Rm.Frm (fun k => Xo k ∨ False) w w') (hX : ∀ k, X' k → (Xo k ∨ w.heap.size ≤ k) ∧ k < w'.heap.size) : (∀ k, X' k → X0 k ∨ W.heap.size ≤ k) ∧ Rm.Frm X0 W w' := by
  have hs := h.frm.size
  refine ⟨fun k hk => ?_, hf.os.trans h.frm.os, hf.tape.trans h.frm.tape, hf.output.trans h.frm.output, Nat.le_trans hs hf.size, fun k hk hx => (hf.blk k (Nat.lt_of_lt_of_le hk hs) (fun q => ?_)).trans (h.frm.blk k hk hx)⟩
  · rcases (hX k hk).1 with q | q
    · exact h.grw k q
    · exact .inr (by omega)
  · rcases q with q | q
    · rcases h.grw k q with q | q
      · exact hx q
      · omega
    · exact q
theorem wrB (n : Nat) (h : n < 1000000000) : wrap64 ((n : Int) - 1) = (n : Int) - 1 := by unfold wrap64; omega
theorem wrB2 (m i : Nat) (h : m < 1000000000) (hi : i < m) : wrap64 ((m : Int) - 1 - (i : Int) - 1) = (m : Int) - 1 - ((i + 1 : Nat) : Int) := by unfold wrap64; omega
theorem stepJ (j : Nat) (h : (0 : Int) ≤ (j : Int)) : (intOf (.int .i64 ((j : Int) - 1)) + 1).toNat < (intOf (.int .i64 (j : Int)) + 1).toNat := by
  simp only [intOf]
  omega
theorem measB (m i : Nat) (h : i < m) : ((m : Int) - 1 - ((i + 1 : Nat) : Int) + 1).toNat < ((m : Int) - 1 - (i : Int) + 1).toNat := by omega
attribute [local go_sem] Oper.semAt_some
set_option maxRecDepth 100000 in
set_option maxHeartbeats 6400000 in
theorem back_iter {Da : Nat → Prop} {kb g : Nat} {vE : Value} {E : List Nat} {w0 : World} (n : Nat) (hc : w0.cell? ⟨kb, 0, none⟩ = some vE) (hi : Il g vE E w0) (hd1 : Da kb) (hd2 : 0 < E.length → Da g) (hDa : ∀ k, Da k → k < w0.heap.size) (hE : E.length < 1000000000) :
    Rm.Iter Fence.wide n Try.prog 100 #[.pointer (some ⟨kb, 0, none⟩)] E.length (BkV E) (fun _ _ => False) (fun _ _ _ => True) w0 Da := by
  intro l J Jx W X0 hW hJ hJx hY h0 hX0 hX1
  obtain ⟨o, c, rfl, hil⟩ := hi
  obtain ⟨m, hm⟩ : ∃ m, E.length = m := ⟨_, rfl⟩
  rw [hm] at hc hil hE hY hd2 ⊢
  have HS : Hid (∃ Xo, Bw W X0 J 0 Xo W) := ⟨X0, h0, fun k hk => .inl hk, Rm.Frm.refl _ _⟩
  have HC : Hid (∀ w, Rm.Frm X0 W w → w.cell? ⟨kb, 0, none⟩ = some (.slice o m c) ∧ ∀ j v : Nat, E[j]? = some v → ∃ off, o = some ⟨g, off, none⟩ ∧ w.cell? ⟨g, off + j, none⟩ = some (.int .i64 (v : Int))) := fun w hf => by
    have kp : ∀ k, Da k → w.heap[k]? = w0.heap[k]? := fun k hk => (hf.blk k (Nat.lt_of_lt_of_le (hDa k hk) hW.size) (fun q => hX1 k q hk)).trans (hW.block k (hDa k hk))
    refine ⟨(World.cell?_of_block (w := w0) (a := ⟨kb, 0, none⟩) (kp kb hd1)).trans hc, fun j v hj => ?_⟩
    have hjm : j < m := by rw [← hm]; exact (List.getElem?_eq_some_iff.1 hj).1
    obtain ⟨off, e1, -, e2⟩ := hil (by omega)
    refine ⟨off, e1, (World.cell?_of_block (w := w0) (a := ⟨g, off + j, none⟩) (kp g (hd2 (by omega)))).trans ?_⟩
    have e3 := e2 j hjm
    rw [List.getD_eq_getElem?_getD, hj] at e3
    exact e3
  have HY := mkHid (And.intro hJ (And.intro hJx (And.intro hY (And.intro hm (And.intro hX0 hE)))))
  have cb := (HC.out W (Rm.Frm.refl _ _)).1
  have w1 := wrB m hE
  clear hJ hJx hY h0 hX0 hX1 hm hil hc hd1 hd2 hDa hE hW
  show CallsIn _ _ _ _ #[.func (.yield l) #[] #[], .pointer (some ⟨kb, 0, none⟩)] W _
  refine callsIn_of_wp Try.func100 rfl trivial ?_ rfl
  simp only [Try.ntmps100, List.size_toArray, List.length_cons, List.length_nil, Nat.reduceAdd, Nat.reduceSub, Array.replicate_succ, Array.replicate_zero, List.push_toArray, List.append_toArray, List.nil_append, List.cons_append]
  gi_wp2
  clear cb w1
  gi_loopw [3] (fun iv wr => ∃ i : Nat, iv = .int .i64 ((m : Int) - 1 - (i : Int)) ∧ i ≤ m ∧ Hid (∃ Xo, Bw W X0 J i Xo wr)) (fun iv _ => (intOf iv + 1).toNat)
  case atStart => exact ⟨0, by simp, Nat.zero_le _, HS⟩
  case round =>
    obtain ⟨i, rfl, hi, HI⟩ := hrel
    obtain ⟨Xo, hs⟩ := HI.out
    by_cases hlt : i < m
    · obtain ⟨cb, cE⟩ := HC.out wr hs.frm
      obtain ⟨j, hj⟩ : ∃ j, j + i + 1 = m := ⟨m - 1 - i, by omega⟩
      have hjE : j < E.length := by rw [HY.out.2.2.2.1]; omega
      have hv := List.getElem?_eq_getElem hjE
      obtain ⟨v, hvv⟩ : ∃ v, E[j] = v := ⟨_, rfl⟩
      rw [hvv] at hv
      obtain ⟨off, rfl, cj⟩ := cE j v hv
      obtain ⟨fn, tmps, assign, body, hy, hR⟩ := HY.out.2.2.1 i #[.int .i64 (j : Int), .int .i64 (v : Int)] Xo wr hlt hs.j hs.frm.size ⟨j, v, by rw [HY.out.2.2.2.1]; exact hj, hv, rfl⟩ (fun k hk => hk.elim)
      have ej : (m : Int) - 1 - (i : Int) = (j : Int) := by omega
      have ej2 : (m : Int) - 1 - ((i + 1 : Nat) : Int) = (j : Int) - 1 := by omega
      have j0 : (0 : Int) ≤ (j : Int) := by omega
      have j1 : (j : Int) < (m : Int) := by omega
      have wj := wrB j (by have := HY.out.2.2.2.2.2; omega)
      have HQ := mkHid (And.intro hs (And.intro hlt (And.intro ej ej2)))
      rw [ej]
      clear hs hlt cE hj hjE hv hvv ej ej2 HI
      gi_wp2
      refine ⟨fun h => (by cases h), hR.mono ?_⟩
      rintro e W2 ⟨X', hf, hX', (⟨rfl, hJ2, hR2⟩ | ⟨rfl, hJx2⟩)⟩
      · have HE : Hid (∃ Xo, Bw W X0 J (i + 1) Xo W2) := ⟨X', hJ2, (HQ.out.1.frm2 hf hX').1, (HQ.out.1.frm2 hf hX').2⟩
        clear hf hX' hJ2 hR2 hy hR
        gi_wp2
        obtain ⟨-, h1, -, h2⟩ := HQ.out
        exact ⟨⟨i + 1, by rw [wj, h2], h1, HE⟩, by rw [wj]; exact stepJ j j0⟩
      · have HE : Hid (∃ X : Nat → Prop, (∀ k, X k → X0 k ∨ W.heap.size ≤ k) ∧ Rm.Frm X0 W W2 ∧ Jx X W2) := ⟨X', (HQ.out.1.frm2 hf hX').1, (HQ.out.1.frm2 hf hX').2, hJx2⟩
        clear hf hX' hJx2 hR hy
        gi_wp2
        refine bodyPost_ret (results_none rfl _ _ _) rfl ?_
        obtain ⟨X1, q1, q2, q3⟩ := HE.out
        exact ⟨⟨_, rfl⟩, X1, q1, q2, .inr q3⟩
    · obtain rfl := eqI hi hlt
      have HE : Hid (∃ X : Nat → Prop, (∀ k, X k → X0 k ∨ W.heap.size ≤ k) ∧ Rm.Frm X0 W wr ∧ J i X wr) := ⟨Xo, hs.grw, hs.frm, hs.j⟩
      have im : ¬ (0 : Int) ≤ (i : Int) - 1 - (i : Int) := by omega
      clear hs
      gi_wp2
      go_end0
      obtain ⟨X1, q1, q2, q3⟩ := HE.out
      exact ⟨⟨_, rfl⟩, X1, q1, q2, .inl q3⟩
end Go.Proofs.Ytibhjkmbbfgnpaa
