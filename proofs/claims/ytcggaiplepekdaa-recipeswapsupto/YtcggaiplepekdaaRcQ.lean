/- Recipes: regions by values, helpers; steps in a fixed order. -/
import Derived.Test.YtcggaiplepekdaaRcVals
namespace Go.Proofs.Ytcggaiplepekdaa
open Go.RowKit
def findR (n : Nat) : Code → Option (Array Oper)
  | .region m ops _ => if m = n then some ops else none
  | .seq a b => match findR n a with
    | some c => some c
    | none => findR n b
  | .scope c => findR n c
  | .block _ c => findR n c
  | .loop c => findR n c
  | .cond _ a b => match findR n a with
    | some c => some c
    | none => findR n b
  | _ => none
/-- The closed facts of a region, by running. -/
def okR (ops : Array Oper) (N : Nat) : Bool :=
  (List.range ops.size).all fun i => ((ops[i]?).map fun o => (o.after.all fun e => !Region.binds .any e || decide (e.on < i)) && (match o.dst with | some d => decide (d < N) | none => true) &&
    (List.range ops.size).all fun j => decide (j = i) || ((ops[j]?).map fun p => decide (o.dst = none) || decide (p.dst ≠ o.dst)).getD true).getD true
theorem okR_at {ops : Array Oper} {N : Nat} (h : okR ops N = true) {i : Nat} {o : Oper} (ho : ops[i]? = some o) :
    (∀ e ∈ o.after, Region.binds .any e = true → e.on < i) ∧ (∀ d, o.dst = some d → d < N) ∧ ∀ (j : Nat) oj d, ops[j]? = some oj → oj.dst = some d → o.dst = some d → j = i := by
  have hi : i < ops.size := (Array.getElem?_eq_some_iff.1 ho).1
  have h1 := List.all_eq_true.1 h i (List.mem_range.2 hi)
  rw [ho] at h1
  simp only [Option.map_some, Option.getD_some, Bool.and_eq_true] at h1
  obtain ⟨⟨h1, h2⟩, h3⟩ := h1
  refine ⟨fun e he hb => ?_, fun d hd => ?_, fun j oj d hj hdj hd => ?_⟩
  · have := Array.all_eq_true_iff_forall_mem.1 h1 e he
    rw [hb] at this
    simpa using this
  · rw [hd] at h2
    simpa using h2
  · have hjs : j < ops.size := (Array.getElem?_eq_some_iff.1 hj).1
    have h4 := List.all_eq_true.1 h3 j (List.mem_range.2 hjs)
    rw [hj] at h4
    simp only [Option.map_some, Option.getD_some, Bool.or_eq_true, decide_eq_true_eq] at h4
    rcases h4 with h4 | h4 | h4
    · exact h4
    · rw [hd] at h4; cases h4
    · rw [hd, hdj] at h4; exact absurd rfl h4
theorem ev_old {ops : Array Oper} {a0 a : Act} {V : Nat → Value} {listed : Array Bool} (hF : RFr ops a0 V listed a) (s : Nat) (v : Value) (hs : a0.tmps[s]? = some v) (hno : (ops.all fun o => decide (o.dst ≠ some s)) = true) : a.eval (.tmp s) = v := by
  have h := hF.old s (fun j o hj hd => by
    have := Array.all_eq_true_iff_forall_mem.1 hno o (Array.mem_of_getElem? hj)
    simp [hd] at this)
  rw [hs] at h
  show a.tmps.getD s undef = v
  rw [Array.getD_eq_getD_getElem?, h]
  rfl
theorem tm_dep {ops : Array Oper} {a0 a : Act} {V : Nat → Value} {listed : Array Bool} (hF : RFr ops a0 V listed a) (j d : Nat) (hd : (ops[j]?).bind (·.dst) = some d) (hl : listed.getD j false = true) : a.tmps[d]? = some (V j) := by
  obtain ⟨o, ho, hod⟩ : ∃ o, ops[j]? = some o ∧ o.dst = some d := by
    cases h : ops[j]? with
    | none => rw [h] at hd; cases hd
    | some o => rw [h] at hd; exact ⟨o, rfl, hd⟩
  refine hF.val j o d ho hod ?_
  have hj : j < listed.size := by
    rcases Nat.lt_or_ge j listed.size with h | h
    · exact h
    · unfold Array.getD at hl; rw [dif_neg (by omega)] at hl; cases hl
  rw [agetD _ _ _ hj] at hl ⊢
  exact hl
theorem tm_old {ops : Array Oper} {a0 a : Act} {V : Nat → Value} {listed : Array Bool} (hF : RFr ops a0 V listed a) (s : Nat) (v : Value) (hs : a0.tmps[s]? = some v) (hno : (ops.all fun o => decide (o.dst ≠ some s)) = true) : a.tmps[s]? = some v := by
  have h := hF.old s (fun j o hj hd => by
    have := Array.all_eq_true_iff_forall_mem.1 hno o (Array.mem_of_getElem? hj)
    simp [hd] at this)
  rw [h, hs]
theorem ev_dep {ops : Array Oper} {a0 a : Act} {V : Nat → Value} {listed : Array Bool} (hF : RFr ops a0 V listed a) (j d : Nat) (hd : (ops[j]?).bind (·.dst) = some d) (hl : listed.getD j false = true) : a.eval (.tmp d) = V j := by
  show a.tmps.getD d undef = V j
  rw [Array.getD_eq_getD_getElem?, tm_dep hF j d hd hl]
  rfl
theorem yl_dep {ops : Array Oper} {a0 a : Act} {V : Nat → Value} {listed : Array Bool} (hF : RFr ops a0 V listed a) (j d : Nat) (b : Bool) (hd : (ops[j]?).bind (·.dst) = some d) (hl : listed.getD j false = true) (hv : V j = .bool b) : yielded ops a.tmps j = some b := by
  unfold yielded
  rw [hd]
  show (match a.tmps[d]? with | some (.bool b) => some b | _ => none) = _
  rw [tm_dep hF j d hd hl, hv]
theorem fact {ops : Array Oper} {i : Nat} {o : Oper} {α : Type} {f : Oper → α} {x : α} (ho : ops[i]? = some o) (h : (ops[i]?).map f = some x) : f o = x := by rw [ho] at h; exact Option.some.inj h
theorem dep_of {ops : Array Oper} {i : Nat} {o : Oper} {listed : Array Bool} (ho : ops[i]? = some o) (hdep : ∀ e ∈ o.after, Region.binds .any e = true → listed.getD e.on false = true) (j : Nat) (h : ((ops[i]?).map fun o => o.after.any fun e => Region.binds .any e && e.on == j) = some true) : listed.getD j false = true := by
  have h1 : (o.after.any fun e => Region.binds .any e && e.on == j) = true := fact ho h
  rw [← Array.any_toList] at h1
  obtain ⟨e, he, hb⟩ := List.any_eq_true.1 h1
  simp only [Bool.and_eq_true, beq_iff_eq] at hb
  rw [← hb.2]
  exact hdep e (Array.mem_toList_iff.1 he) hb.1
theorem want_none {o : Oper} {f : Nat → Option Bool} (h : o.guard = none) : Region.wanted o f = true := by unfold Region.wanted; rw [h]
theorem want_some {o : Oper} {f : Nat → Option Bool} {j : Nat} {b c : Bool} (h : o.guard = some (j, b)) (hy : f j = some c) : Region.wanted o f = (c == b) := by
  unfold Region.wanted; rw [h]; show (f j == some b) = _; rw [hy]; cases b <;> cases c <;> rfl

/-- The operations ix change the world, in that order; behind the first p of them all of pre are done. -/
def Sq (ix pre : List Nat) (p : Nat) (ws : Nat → World) (l : Array Bool) (Y : World) : Prop :=
  ∃ j, j ≤ ix.length ∧ Y = ws j ∧ (∀ (m : Nat) i, ix[m]? = some i → l.getD i true = decide (m < j)) ∧ (p < j → ∀ i ∈ pre, l.getD i true = true)
theorem getD_set_ne (l : Array Bool) (i k : Nat) (h : i ≠ k) : (l.setIfInBounds i true).getD k true = l.getD k true := by
  simp [Array.getD_eq_getD_getElem?, h]
theorem getD_set_eq (l : Array Bool) (i : Nat) : (l.setIfInBounds i true).getD i true = true := by
  simp only [Array.getD_eq_getD_getElem?, Array.getElem?_setIfInBounds]
  by_cases h : i < l.size <;> simp [h]
theorem getD_set_mono (l : Array Bool) (i k : Nat) (h : l.getD k true = true) : (l.setIfInBounds i true).getD k true = true := by
  by_cases e : i = k
  · subst e; exact getD_set_eq l i
  · rw [getD_set_ne l i k e]; exact h
theorem Sq.mv {ix pre : List Nat} {p : Nat} {ws : Nat → World} {l : Array Bool} {Y : World} (h : Sq ix pre p ws l Y) (i : Nat) (hi : i ∉ ix) : Sq ix pre p ws (l.setIfInBounds i true) Y := by
  obtain ⟨j, h1, h2, h3, h4⟩ := h
  refine ⟨j, h1, h2, fun m k hk => ?_, fun q k hk => getD_set_mono _ _ _ (h4 q k hk)⟩
  rw [getD_set_ne l i k (fun e => hi (e ▸ List.mem_of_getElem? hk))]
  exact h3 m k hk
theorem Sq.early {ix pre : List Nat} {p : Nat} {ws : Nat → World} {l : Array Bool} {Y : World} (h : Sq ix pre p ws l Y) {i : Nat} (hi : i ∈ pre) (hu : l.getD i true = false) : ∃ j, j ≤ p ∧ j ≤ ix.length ∧ Y = ws j := by
  obtain ⟨j, h1, h2, h3, h4⟩ := h
  refine ⟨j, ?_, h1, h2⟩
  rcases Nat.lt_or_ge p j with q | q
  · have := h4 q i hi
    rw [hu] at this
    cases this
  · exact q
theorem Sq.any {ix pre : List Nat} {p : Nat} {ws : Nat → World} {l : Array Bool} {Y : World} (h : Sq ix pre p ws l Y) : ∃ j, j ≤ ix.length ∧ Y = ws j := by
  obtain ⟨j, h1, h2, -⟩ := h
  exact ⟨j, h1, h2⟩
theorem Sq.step {ix pre : List Nat} {p : Nat} {ws : Nat → World} {l : Array Bool} {Y : World} (h : Sq ix pre p ws l Y) (nd : ix.Nodup) (m i : Nat) (hi : ix[m]? = some i) (hu : l.getD i true = false) (hp : ∀ m' i', m = m' + 1 → ix[m']? = some i' → l.getD i' true = true) (hpre : p = m → ∀ k ∈ pre, l.getD k true = true) : Y = ws m ∧ Sq ix pre p ws (l.setIfInBounds i true) (ws (m + 1)) := by
  obtain ⟨j, h1, h2, h3, h4⟩ := h
  have hm := (List.getElem?_eq_some_iff.1 hi).1
  have e1 : ¬ m < j := by
    have := h3 m i hi
    rw [hu] at this
    simpa using this.symm
  have e2 : j = m := by
    cases m with
    | zero => omega
    | succ m' =>
      have hm' : m' < ix.length := by omega
      have := h3 m' _ (List.getElem?_eq_getElem hm')
      rw [hp m' _ rfl (List.getElem?_eq_getElem hm')] at this
      have : m' < j := by simpa using this.symm
      omega
  subst e2
  refine ⟨h2, j + 1, by omega, rfl, fun k i' hk => ?_, fun q k hk => getD_set_mono _ _ _ ?_⟩
  · by_cases e : k = j
    · subst e
      obtain rfl : i = i' := Option.some.inj (hi.symm.trans hk)
      rw [getD_set_eq]
      simp
    · have hne : i ≠ i' := fun q => by
        subst q
        have hk' := (List.getElem?_eq_some_iff.1 hk).1
        exact e ((List.getElem?_inj hk' nd).1 (hk.trans hi.symm))
      rw [getD_set_ne l i i' hne, h3 k i' hk]
      by_cases q : k < j
      · rw [decide_eq_true q, decide_eq_true (by omega)]
      · rw [decide_eq_false q, decide_eq_false (by omega)]
  · by_cases e : p = j
    · exact hpre e k hk
    · exact h4 (by omega) k hk
theorem Sq.start (ix pre : List Nat) (p : Nat) (ws : Nat → World) (n : Nat) (h : ∀ i ∈ ix, i < n) : Sq ix pre p ws (Array.replicate n false) (ws 0) := by
  refine ⟨0, Nat.zero_le _, rfl, fun m i hi => ?_, fun q => absurd q (Nat.not_lt_zero _)⟩
  have := h i (List.mem_of_getElem? hi)
  simp [Array.getD_eq_getD_getElem?, this]
theorem Sq.done {ix pre : List Nat} {p : Nat} {ws : Nat → World} {n : Nat} {Y : World} (h : Sq ix pre p ws (Array.replicate n true) Y) : Y = ws ix.length := by
  obtain ⟨j, h1, h2, h3, -⟩ := h
  rcases Nat.lt_or_ge j ix.length with q | q
  · have := h3 j _ (List.getElem?_eq_getElem q)
    simp [Array.getD_eq_getD_getElem?, Array.getElem?_replicate] at this
    split at this <;> simp at this
  · rw [h2, show j = ix.length by omega]
theorem dep_t {l : Array Bool} {j : Nat} (h : l.getD j false = true) : l.getD j true = true := by
  unfold Array.getD at h ⊢
  split at h
  · rename_i q; rw [dif_pos q]; exact h
  · cases h
end Go.Proofs.Ytcggaiplepekdaa
