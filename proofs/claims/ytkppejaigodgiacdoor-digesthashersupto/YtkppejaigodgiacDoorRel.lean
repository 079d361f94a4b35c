/- A region that draws its order, by what holds of each value: values that hang on the world (new memory) too. -/
import Derived.Test.YtkppejaigodgiacDoorVals
namespace Go.Proofs.YtkppejaigodgiacDoor
open Go.RowKit
def findR (n : Nat) : Code → Option (Array Oper)
  | .region m ops _ => if m = n then some ops else none
  | .seq a b => match findR n a with
    | some c => some c
    | none => findR n b
  | .scope c => findR n c
  | .block _ c => findR n c
  | .loop c => findR n c
  | .cond _ a b => match findR n a with
    | some c => some c
    | none => findR n b
  | _ => none
/-- The closed facts of a region, by running. -/
def okR (ops : Array Oper) (N : Nat) : Bool :=
  (List.range ops.size).all fun i => ((ops[i]?).map fun o => (o.after.all fun e => !Region.binds .any e || decide (e.on < i)) && (match o.dst with | some d => decide (d < N) | none => true) &&
    (List.range ops.size).all fun j => decide (j = i) || ((ops[j]?).map fun p => decide (o.dst = none) || decide (p.dst ≠ o.dst)).getD true).getD true
theorem okR_at {ops : Array Oper} {N : Nat} (h : okR ops N = true) {i : Nat} {o : Oper} (ho : ops[i]? = some o) :
    (∀ e ∈ o.after, Region.binds .any e = true → e.on < i) ∧ (∀ d, o.dst = some d → d < N) ∧ ∀ (j : Nat) oj d, ops[j]? = some oj → oj.dst = some d → o.dst = some d → j = i := by
  have hi : i < ops.size := (Array.getElem?_eq_some_iff.1 ho).1
  have h1 := List.all_eq_true.1 h i (List.mem_range.2 hi)
  rw [ho] at h1
  simp only [Option.map_some, Option.getD_some, Bool.and_eq_true] at h1
  obtain ⟨⟨h1, h2⟩, h3⟩ := h1
  refine ⟨fun e he hb => ?_, fun d hd => ?_, fun j oj d hj hdj hd => ?_⟩
  · have := Array.all_eq_true_iff_forall_mem.1 h1 e he
    rw [hb] at this
    simpa using this
  · rw [hd] at h2
    simpa using h2
  · have hjs : j < ops.size := (Array.getElem?_eq_some_iff.1 hj).1
    have h4 := List.all_eq_true.1 h3 j (List.mem_range.2 hjs)
    rw [hj] at h4
    simp only [Option.map_some, Option.getD_some, Bool.or_eq_true, decide_eq_true_eq] at h4
    rcases h4 with h4 | h4 | h4
    · exact h4
    · rw [hd] at h4; cases h4
    · rw [hd, hdj] at h4; exact absurd rfl h4
theorem fact {ops : Array Oper} {i : Nat} {o : Oper} {α : Type} {f : Oper → α} {x : α} (ho : ops[i]? = some o) (h : (ops[i]?).map f = some x) : f o = x := by rw [ho] at h; exact Option.some.inj h
theorem dep_of {ops : Array Oper} {i : Nat} {o : Oper} {listed : Array Bool} (ho : ops[i]? = some o) (hdep : ∀ e ∈ o.after, Region.binds .any e = true → listed.getD e.on false = true) (j : Nat) (h : ((ops[i]?).map fun o => o.after.any fun e => Region.binds .any e && e.on == j) = some true) : listed.getD j false = true := by
  have h1 : (o.after.any fun e => Region.binds .any e && e.on == j) = true := fact ho h
  rw [← Array.any_toList] at h1
  obtain ⟨e, he, hb⟩ := List.any_eq_true.1 h1
  simp only [Bool.and_eq_true, beq_iff_eq] at hb
  rw [← hb.2]
  exact hdep e (Array.mem_toList_iff.1 he) hb.1
theorem want_none {o : Oper} {f : Nat → Option Bool} (h : o.guard = none) : Region.wanted o f = true := by unfold Region.wanted; rw [h]
theorem want_some {o : Oper} {f : Nat → Option Bool} {j : Nat} {b c : Bool} (h : o.guard = some (j, b)) (hy : f j = some c) : Region.wanted o f = (c == b) := by
  unfold Region.wanted; rw [h]; show (f j == some b) = _; rw [hy]; cases b <;> cases c <;> rfl
section
variable {P : Program} {md : Region.Mode} {ops : Array Oper} {Q : Exit → Act → World → Prop}
/-- The frame in a region that draws: of what is listed its property holds. -/
structure RFv (ops : Array Oper) (a0 : Act) (V : Nat → Value → World → Prop) (listed : Array Bool) (a : Act) (w : World) : Prop where
  df : a.defers = a0.defers
  sz : a.tmps.size = a0.tmps.size
  old : ∀ s : Nat, (∀ (j : Nat) o, ops[j]? = some o → o.dst ≠ some s) → a.tmps[s]? = a0.tmps[s]?
  val : ∀ (j : Nat) o d, ops[j]? = some o → o.dst = some d → listed.getD j true = true → ∃ v, a.tmps[d]? = some v ∧ V j v w
theorem RFv.put {a0 : Act} {V : Nat → Value → World → Prop} {listed : Array Bool} {a : Act} {w w' : World} (h : RFv ops a0 V listed a w) {i : Nat} {o : Oper} (ho : ops[i]? = some o) (hs : listed.size = ops.size)
    (hd : ∀ (j : Nat) oj d, ops[j]? = some oj → oj.dst = some d → o.dst = some d → j = i) (hN : ∀ d, o.dst = some d → d < a0.tmps.size) (v : Value) (hv : V i v w') (hw : ∀ j u, V j u w → V j u w') : RFv ops a0 V (listed.setIfInBounds i true) (a.put o.dst v) w' := by
  refine ⟨(put_defers _ _ _).trans h.df, (put_size _ _ _).trans h.sz, fun s hno => ?_, fun j oj d hj hdj hl => ?_⟩
  · have h1 := hno i o ho
    have h2 := h.old s hno
    cases hc : o.dst with
    | none => exact h2
    | some d =>
      have hne : d ≠ s := fun e => h1 (by rw [hc, e])
      show (a.tmps.setIfInBounds d v)[s]? = _
      rw [Array.getElem?_setIfInBounds_ne hne]
      exact h2
  · by_cases hji : j = i
    · subst hji
      have : oj = o := Option.some.inj (hj.symm.trans ho)
      subst this
      rw [hdj]
      refine ⟨v, ?_, hv⟩
      show (a.tmps.setIfInBounds d v)[d]? = _
      rw [Array.getElem?_setIfInBounds_self]
      have := hN d hdj
      rw [if_pos (by rw [h.sz]; exact this)]
    · have hl2 : listed.getD j true = true := by
        have hjs : j < ops.size := (Array.getElem?_eq_some_iff.1 hj).1
        have hjl : j < listed.size := by omega
        rw [agetD _ _ _ (by simpa using hjl)] at hl
        rw [agetD _ _ _ hjl]
        rw [Array.getElem_setIfInBounds_ne hjl (Ne.symm hji)] at hl
        exact hl
      obtain ⟨u, h3, h4⟩ := h.val j oj d hj hdj hl2
      refine ⟨u, ?_, hw j u h4⟩
      cases hc : o.dst with
      | none => exact h3
      | some d' =>
        have hne : d' ≠ d := fun e => hji (hd j oj d hj hdj (by rw [hc, e]))
        show (a.tmps.setIfInBounds d' v)[d]? = _
        rw [Array.getElem?_setIfInBounds_ne hne]
        exact h3
theorem wpAny_rel {a0 : Act} {V : Nat → Value → World → Prop} {S : World → Prop} {T : World → World → Prop} (hT : ∀ j u w w', V j u w → T w w' → V j u w') (hlt : ∀ (i : Nat) o, ops[i]? = some o → ∀ e ∈ o.after, Region.binds md e = true → e.on < i)
    (hd : ∀ (i j : Nat) o oj d, ops[i]? = some o → ops[j]? = some oj → oj.dst = some d → o.dst = some d → j = i) (hN : ∀ (i : Nat) o d, ops[i]? = some o → o.dst = some d → d < a0.tmps.size)
    (hstep : ∀ (i : Nat) o a w listed, ops[i]? = some o → RFv ops a0 V listed a w → S w → (∀ e ∈ o.after, Region.binds md e = true → listed.getD e.on false = true) →
      if Region.wanted o (yielded ops a.tmps) = true then Oper.wp P o a w (fun a' w' => ∃ v, a' = a.put o.dst v ∧ V i v w' ∧ S w' ∧ T w w') Q else V i undef w)
    (hend : ∀ a w, S w → RFv ops a0 V (Array.replicate ops.size true) a w → Q .normal a w) :
    ∀ (fuel : Nat) (listed : Array Bool) (a : Act) (w : World), listed.size = ops.size → listed.toList.count false ≤ fuel → RFv ops a0 V listed a w → S w → wpAny P md ops Q fuel listed a w := by
  have hall : ∀ (listed : Array Bool), listed.size = ops.size → (∀ i, i < ops.size → listed.getD i true = true) → listed = Array.replicate ops.size true := by
    intro listed hs h
    apply Array.ext
    · simp [hs]
    · intro i h1 h2
      have := h i (by omega)
      rw [agetD _ _ _ h1] at this
      simpa using this
  have hfin : ∀ (listed : Array Bool) a w, listed.size = ops.size → RFv ops a0 V listed a w → S w → Region.ready md ops listed = [] → Q .normal a w := by
    intro listed a w hs hF hS hr
    have he := hall listed hs (ready_nil hlt hs hr)
    rw [he] at hF
    exact hend a w hS hF
  intro fuel
  induction fuel with
  | zero =>
    intro listed a w hs hc hF hS
    have hr : Region.ready md ops listed = [] := by
      cases hr : Region.ready md ops listed with
      | nil => rfl
      | cons i rs =>
        exfalso
        have hm := mem_ready (md := md) (ops := ops) (listed := listed) (i := i) (by rw [hr]; simp)
        have hil : i < listed.size := by omega
        have h1 : listed[i] = false := by rw [← agetD _ _ true hil]; exact hm.2.1
        have h2 : false ∈ listed.toList := by rw [← h1]; exact Array.getElem_mem_toList hil
        have := List.count_pos_iff.2 h2
        omega
    exact ⟨hr, hfin listed a w hs hF hS hr⟩
  | succ fuel ih =>
    intro listed a w hs hc hF hS
    refine ⟨hfin listed a w hs hF hS, fun i hi => ?_⟩
    obtain ⟨hil, hun, hdep⟩ := mem_ready hi
    obtain ⟨o, ho⟩ : ∃ o, ops[i]? = some o := ⟨_, Array.getElem?_eq_getElem hil⟩
    have hls : i < listed.size := by omega
    have h1 : listed[i] = false := by rw [← agetD _ _ true hls]; exact hun
    have hcnt : (listed.setIfInBounds i true).toList.count false ≤ fuel := by
      have h2 : listed.toList[i]'(by simpa using hls) = false := by simpa using h1
      rw [Array.toList_setIfInBounds, List.count_set (by simpa using hls), h2]
      simp only [BEq.rfl, if_true]
      have h3 : ¬ ((true == false) = true) := by decide
      rw [if_neg h3]
      omega
    have hst := hstep i o a w listed ho hF hS (hdep o ho)
    have hnext : ∀ v w', V i v w' → S w' → (∀ j u, V j u w → V j u w') → wpAny P md ops Q fuel (listed.setIfInBounds i true) (a.put o.dst v) w' := fun v w' hv hS' hw =>
      ih _ _ _ (by simpa using hs) hcnt (hF.put ho hs (fun j oj d hj h2 h3 => hd i j o oj d ho hj h2 h3) (fun d h => hN i o d ho h) v hv hw) hS'
    refine wpOp_step ho fun K' hK => ?_
    by_cases hw : Region.wanted o (yielded ops a.tmps) = true
    · rw [if_pos hw] at hst ⊢
      exact Oper.wp_mono (fun a' w' ⟨v, e, hv, hS', ht⟩ => hK _ _ (by rw [e]; exact hnext v w' hv hS' (fun j u h => hT j u w w' h ht))) hst
    · rw [if_neg hw] at hst ⊢
      exact hK _ _ (hnext undef w hst hS (fun _ _ h => h))
theorem RFv.start (a0 : Act) (V : Nat → Value → World → Prop) (listed : Array Bool) (w : World) (h : ∀ j, j < ops.size → listed.getD j true = false) : RFv ops a0 V listed a0 w :=
  ⟨rfl, rfl, fun _ _ => rfl, fun j o d hj _ hl => by have := h j (Array.getElem?_eq_some_iff.1 hj).1; rw [this] at hl; cases hl⟩
/-- THE REGION, WHOLE: whatever the order, the frame is that of the text's own order at some values of which their properties hold. -/
theorem wp_region_rel {id : Nat} {a0 : Act} {V : Nat → Value → World → Prop} {S : World → Prop} {T : World → World → Prop} {w : World} (hm : P.follows .mixedOrders = true) (hT : ∀ j u w w', V j u w → T w w' → V j u w') (hlt : ∀ (i : Nat) o, ops[i]? = some o → ∀ e ∈ o.after, Region.binds .any e = true → e.on < i)
    (hd : ∀ (i j : Nat) o oj d, ops[i]? = some o → ops[j]? = some oj → oj.dst = some d → o.dst = some d → j = i) (hN : ∀ (i : Nat) o d, ops[i]? = some o → o.dst = some d → d < a0.tmps.size)
    (hstep : ∀ (i : Nat) o a w listed, ops[i]? = some o → RFv ops a0 V listed a w → S w → (∀ e ∈ o.after, Region.binds .any e = true → listed.getD e.on false = true) →
      if Region.wanted o (yielded ops a.tmps) = true then Oper.wp P o a w (fun a' w' => ∃ v, a' = a.put o.dst v ∧ V i v w' ∧ S w' ∧ T w w') Q else V i undef w)
    (hS : S w.drew) (hend : ∀ (X : Nat → Value) w', S w' → (∀ (j : Nat) o d, ops[j]? = some o → o.dst = some d → V j (X j) w') → Q .normal (putN ops X a0 ops.size) w') : (Code.region id ops true).wp P Q a0 w := by
  refine wp_region_any hm ?_
  show wpAny P .any ops Q ops.size (Array.replicate ops.size false) a0 w.drew
  refine wpAny_rel hT hlt hd hN hstep (fun a w' hS' hF => ?_) _ _ _ _ (by simp) (by simp) (RFv.start a0 V _ _ fun j hj => ?_) hS
  · have hrep : ∀ j, j < ops.size → (Array.replicate ops.size true).getD j true = true := fun j hj => by rw [agetD _ _ _ (by simpa using hj)]; simp
    obtain ⟨X, hX⟩ : ∃ X : Nat → Value, ∀ (j : Nat) o d, ops[j]? = some o → o.dst = some d → a.tmps[d]? = some (X j) ∧ V j (X j) w' := by
      refine ⟨fun j => (((ops[j]?).bind (·.dst)).bind fun d => a.tmps[d]?).getD undef, fun j o d hj hdj => ?_⟩
      obtain ⟨v, h1, h2⟩ := hF.val j o d hj hdj (hrep j (Array.getElem?_eq_some_iff.1 hj).1)
      simp only [hj, Option.bind_some, hdj, h1, Option.getD_some]
      exact ⟨trivial, h2⟩
    have hA : RFr ops a0 X (Array.replicate ops.size true) a := ⟨hF.df, hF.sz, hF.old, fun j o d hj hdj _ => (hX j o d hj hdj).1⟩
    have hb := putN_fr (V := X) hd hN ops.size (Nat.le_refl _)
    have hl : listN ops.size ops.size = Array.replicate ops.size true := by
      apply Array.ext
      · rw [listN_size]; simp
      · intro i h1 h2
        have hi : i < ops.size := by rw [listN_size] at h1; exact h1
        rw [← agetD _ _ true h1, listN_get _ _ _ hi]
        simp [hi]
    rw [hl] at hb
    rw [hA.one hb hrep]
    exact hend X w' hS' (fun j o d hj hdj => (hX j o d hj hdj).2)
  · rw [agetD _ _ _ (by simpa using hj)]; simp
theorem tv_dep {a0 a : Act} {V : Nat → Value → World → Prop} {listed : Array Bool} {w : World} (hF : RFv ops a0 V listed a w) (j d : Nat) (hd : (ops[j]?).bind (·.dst) = some d) (hl : listed.getD j false = true) : ∃ v, a.tmps[d]? = some v ∧ V j v w := by
  obtain ⟨o, ho, hod⟩ : ∃ o, ops[j]? = some o ∧ o.dst = some d := by
    cases h : ops[j]? with
    | none => rw [h] at hd; cases hd
    | some o => rw [h] at hd; exact ⟨o, rfl, hd⟩
  refine hF.val j o d ho hod ?_
  have hj : j < listed.size := by
    rcases Nat.lt_or_ge j listed.size with h | h
    · exact h
    · simp [Array.getD, Nat.not_lt.2 h] at hl
  rw [agetD _ _ _ hj] at hl ⊢
  exact hl
theorem tv_eq {a0 a : Act} {V : Nat → Value → World → Prop} {listed : Array Bool} {w : World} (hF : RFv ops a0 V listed a w) (j d : Nat) (x : Value) (hd : (ops[j]?).bind (·.dst) = some d) (hl : listed.getD j false = true) (hx : ∀ v, V j v w → v = x) : a.tmps[d]? = some x := by
  obtain ⟨v, h1, h2⟩ := tv_dep hF j d hd hl
  rw [h1, hx v h2]
theorem tv_old {a0 a : Act} {V : Nat → Value → World → Prop} {listed : Array Bool} {w : World} (hF : RFv ops a0 V listed a w) (s : Nat) (v : Value) (hs : a0.tmps[s]? = some v) (hno : (ops.all fun o => decide (o.dst ≠ some s)) = true) : a.tmps[s]? = some v := by
  have h := hF.old s (fun j o hj hd => by
    have := Array.all_eq_true_iff_forall_mem.1 hno o (Array.mem_of_getElem? hj)
    simp [hd] at this)
  rw [h, hs]
theorem yv_dep {a0 a : Act} {V : Nat → Value → World → Prop} {listed : Array Bool} {w : World} (hF : RFv ops a0 V listed a w) (j d : Nat) (b : Bool) (hd : (ops[j]?).bind (·.dst) = some d) (hl : listed.getD j false = true) (hx : ∀ v, V j v w → v = .bool b) : yielded ops a.tmps j = some b := by
  unfold yielded
  rw [hd]
  show (match a.tmps[d]? with | some (.bool b) => some b | _ => none) = _
  rw [tv_eq hF j d (.bool b) hd hl hx]
end
end Go.Proofs.YtkppejaigodgiacDoor
