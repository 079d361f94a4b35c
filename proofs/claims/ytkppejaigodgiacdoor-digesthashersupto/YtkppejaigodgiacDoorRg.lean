/- A region that draws its order, by what holds of each value; what holds may hang on which operations have been. -/
import Derived.Test.YtkppejaigodgiacDoorRel
namespace Go.Proofs.YtkppejaigodgiacDoor
open Go.RowKit
section
variable {P : Program} {md : Region.Mode} {ops : Array Oper} {Q : Exit → Act → World → Prop}
theorem RFv.put2 {a0 : Act} {V V' : Nat → Value → World → Prop} {listed : Array Bool} {a : Act} {w w' : World} (h : RFv ops a0 V listed a w) {i : Nat} {o : Oper} (ho : ops[i]? = some o) (hs : listed.size = ops.size)
    (hd : ∀ (j : Nat) oj d, ops[j]? = some oj → oj.dst = some d → o.dst = some d → j = i) (hN : ∀ d, o.dst = some d → d < a0.tmps.size) (v : Value) (hv : V' i v w') (hw : ∀ j u, V j u w → V' j u w') : RFv ops a0 V' (listed.setIfInBounds i true) (a.put o.dst v) w' := by
  refine ⟨(put_defers _ _ _).trans h.df, (put_size _ _ _).trans h.sz, fun s hno => ?_, fun j oj d hj hdj hl => ?_⟩
  · have h1 := hno i o ho
    have h2 := h.old s hno
    cases hc : o.dst with
    | none => exact h2
    | some d =>
      have hne : d ≠ s := fun e => h1 (by rw [hc, e])
      show (a.tmps.setIfInBounds d v)[s]? = _
      rw [Array.getElem?_setIfInBounds_ne hne]
      exact h2
  · by_cases hji : j = i
    · subst hji
      have : oj = o := Option.some.inj (hj.symm.trans ho)
      subst this
      rw [hdj]
      refine ⟨v, ?_, hv⟩
      show (a.tmps.setIfInBounds d v)[d]? = _
      rw [Array.getElem?_setIfInBounds_self]
      have := hN d hdj
      rw [if_pos (by rw [h.sz]; exact this)]
    · have hl2 : listed.getD j true = true := by
        have hjs : j < ops.size := (Array.getElem?_eq_some_iff.1 hj).1
        have hjl : j < listed.size := by omega
        rw [agetD _ _ _ (by simpa using hjl)] at hl
        rw [agetD _ _ _ hjl]
        rw [Array.getElem_setIfInBounds_ne hjl (Ne.symm hji)] at hl
        exact hl
      obtain ⟨u, h3, h4⟩ := h.val j oj d hj hdj hl2
      refine ⟨u, ?_, hw j u h4⟩
      cases hc : o.dst with
      | none => exact h3
      | some d' =>
        have hne : d' ≠ d := fun e => hji (hd j oj d hj hdj (by rw [hc, e]))
        show (a.tmps.setIfInBounds d' v)[d]? = _
        rw [Array.getElem?_setIfInBounds_ne hne]
        exact h3
theorem wpAny_relg {a0 : Act} {V : Array Bool → Nat → Value → World → Prop} {S : Array Bool → World → Prop} (hlt : ∀ (i : Nat) o, ops[i]? = some o → ∀ e ∈ o.after, Region.binds md e = true → e.on < i)
    (hd : ∀ (i j : Nat) o oj d, ops[i]? = some o → ops[j]? = some oj → oj.dst = some d → o.dst = some d → j = i) (hN : ∀ (i : Nat) o d, ops[i]? = some o → o.dst = some d → d < a0.tmps.size)
    (hstep : ∀ (i : Nat) o a w listed, ops[i]? = some o → RFv ops a0 (V listed) listed a w → S listed w → listed.size = ops.size → listed.getD i true = false → (∀ e ∈ o.after, Region.binds md e = true → listed.getD e.on false = true) →
      if Region.wanted o (yielded ops a.tmps) = true then Oper.wp P o a w (fun a' w' => ∃ v, a' = a.put o.dst v ∧ V (listed.setIfInBounds i true) i v w' ∧ S (listed.setIfInBounds i true) w' ∧ ∀ j u, V listed j u w → V (listed.setIfInBounds i true) j u w') Q
      else V (listed.setIfInBounds i true) i undef w ∧ S (listed.setIfInBounds i true) w ∧ ∀ j u, V listed j u w → V (listed.setIfInBounds i true) j u w)
    (hend : ∀ a w, S (Array.replicate ops.size true) w → RFv ops a0 (V (Array.replicate ops.size true)) (Array.replicate ops.size true) a w → Q .normal a w) :
    ∀ (fuel : Nat) (listed : Array Bool) (a : Act) (w : World), listed.size = ops.size → listed.toList.count false ≤ fuel → RFv ops a0 (V listed) listed a w → S listed w → wpAny P md ops Q fuel listed a w := by
  have hall : ∀ (listed : Array Bool), listed.size = ops.size → (∀ i, i < ops.size → listed.getD i true = true) → listed = Array.replicate ops.size true := by
    intro listed hs h
    apply Array.ext
    · simp [hs]
    · intro i h1 h2
      have := h i (by omega)
      rw [agetD _ _ _ h1] at this
      simpa using this
  have hfin : ∀ (listed : Array Bool) a w, listed.size = ops.size → RFv ops a0 (V listed) listed a w → S listed w → Region.ready md ops listed = [] → Q .normal a w := by
    intro listed a w hs hF hS hr
    have he := hall listed hs (ready_nil hlt hs hr)
    rw [he] at hF hS
    exact hend a w hS hF
  intro fuel
  induction fuel with
  | zero =>
    intro listed a w hs hc hF hS
    have hr : Region.ready md ops listed = [] := by
      cases hr : Region.ready md ops listed with
      | nil => rfl
      | cons i rs =>
        exfalso
        have hm := mem_ready (md := md) (ops := ops) (listed := listed) (i := i) (by rw [hr]; simp)
        have hil : i < listed.size := by omega
        have h1 : listed[i] = false := by rw [← agetD _ _ true hil]; exact hm.2.1
        have h2 : false ∈ listed.toList := by rw [← h1]; exact Array.getElem_mem_toList hil
        have := List.count_pos_iff.2 h2
        omega
    exact ⟨hr, hfin listed a w hs hF hS hr⟩
  | succ fuel ih =>
    intro listed a w hs hc hF hS
    refine ⟨hfin listed a w hs hF hS, fun i hi => ?_⟩
    obtain ⟨hil, hun, hdep⟩ := mem_ready hi
    obtain ⟨o, ho⟩ : ∃ o, ops[i]? = some o := ⟨_, Array.getElem?_eq_getElem hil⟩
    have hls : i < listed.size := by omega
    have h1 : listed[i] = false := by rw [← agetD _ _ true hls]; exact hun
    have hcnt : (listed.setIfInBounds i true).toList.count false ≤ fuel := by
      have h2 : listed.toList[i]'(by simpa using hls) = false := by simpa using h1
      rw [Array.toList_setIfInBounds, List.count_set (by simpa using hls), h2]
      simp only [BEq.rfl, if_true]
      have h3 : ¬ ((true == false) = true) := by decide
      rw [if_neg h3]
      omega
    have hst := hstep i o a w listed ho hF hS hs hun (hdep o ho)
    have hnext : ∀ v w', V (listed.setIfInBounds i true) i v w' → S (listed.setIfInBounds i true) w' → (∀ j u, V listed j u w → V (listed.setIfInBounds i true) j u w') → wpAny P md ops Q fuel (listed.setIfInBounds i true) (a.put o.dst v) w' := fun v w' hv hS' hw =>
      ih _ _ _ (by simpa using hs) hcnt (hF.put2 ho hs (fun j oj d hj h2 h3 => hd i j o oj d ho hj h2 h3) (fun d h => hN i o d ho h) v hv hw) hS'
    refine wpOp_step ho fun K' hK => ?_
    by_cases hw : Region.wanted o (yielded ops a.tmps) = true
    · rw [if_pos hw] at hst ⊢
      exact Oper.wp_mono (fun a' w' ⟨v, e, hv, hS', ht⟩ => hK _ _ (by rw [e]; exact hnext v w' hv hS' ht)) hst
    · rw [if_neg hw] at hst ⊢
      exact hK _ _ (hnext undef w hst.1 hst.2.1 hst.2.2)
/-- THE REGION, WHOLE: whatever the order, the frame is that of the text's own order at some values of which their properties hold. -/
theorem wp_region_relg {id : Nat} {a0 : Act} {V : Array Bool → Nat → Value → World → Prop} {S : Array Bool → World → Prop} {w : World} (hm : P.follows .mixedOrders = true) (hlt : ∀ (i : Nat) o, ops[i]? = some o → ∀ e ∈ o.after, Region.binds .any e = true → e.on < i)
    (hd : ∀ (i j : Nat) o oj d, ops[i]? = some o → ops[j]? = some oj → oj.dst = some d → o.dst = some d → j = i) (hN : ∀ (i : Nat) o d, ops[i]? = some o → o.dst = some d → d < a0.tmps.size)
    (hstep : ∀ (i : Nat) o a w listed, ops[i]? = some o → RFv ops a0 (V listed) listed a w → S listed w → listed.size = ops.size → listed.getD i true = false → (∀ e ∈ o.after, Region.binds .any e = true → listed.getD e.on false = true) →
      if Region.wanted o (yielded ops a.tmps) = true then Oper.wp P o a w (fun a' w' => ∃ v, a' = a.put o.dst v ∧ V (listed.setIfInBounds i true) i v w' ∧ S (listed.setIfInBounds i true) w' ∧ ∀ j u, V listed j u w → V (listed.setIfInBounds i true) j u w') Q
      else V (listed.setIfInBounds i true) i undef w ∧ S (listed.setIfInBounds i true) w ∧ ∀ j u, V listed j u w → V (listed.setIfInBounds i true) j u w)
    (hS : S (Array.replicate ops.size false) w.drew) (hend : ∀ (X : Nat → Value) w', S (Array.replicate ops.size true) w' → (∀ (j : Nat) o d, ops[j]? = some o → o.dst = some d → V (Array.replicate ops.size true) j (X j) w') → Q .normal (putN ops X a0 ops.size) w') : (Code.region id ops true).wp P Q a0 w := by
  refine wp_region_any hm ?_
  show wpAny P .any ops Q ops.size (Array.replicate ops.size false) a0 w.drew
  refine wpAny_relg hlt hd hN hstep (fun a w' hS' hF => ?_) _ _ _ _ (by simp) (by simp) (RFv.start a0 _ _ _ fun j hj => ?_) hS
  · have hrep : ∀ j, j < ops.size → (Array.replicate ops.size true).getD j true = true := fun j hj => by rw [agetD _ _ _ (by simpa using hj)]; simp
    obtain ⟨X, hX⟩ : ∃ X : Nat → Value, ∀ (j : Nat) o d, ops[j]? = some o → o.dst = some d → a.tmps[d]? = some (X j) ∧ V (Array.replicate ops.size true) j (X j) w' := by
      refine ⟨fun j => (((ops[j]?).bind (·.dst)).bind fun d => a.tmps[d]?).getD undef, fun j o d hj hdj => ?_⟩
      obtain ⟨v, h1, h2⟩ := hF.val j o d hj hdj (hrep j (Array.getElem?_eq_some_iff.1 hj).1)
      simp only [hj, Option.bind_some, hdj, h1, Option.getD_some]
      exact ⟨trivial, h2⟩
    have hA : RFr ops a0 X (Array.replicate ops.size true) a := ⟨hF.df, hF.sz, hF.old, fun j o d hj hdj _ => (hX j o d hj hdj).1⟩
    have hb := putN_fr (V := X) hd hN ops.size (Nat.le_refl _)
    have hl : listN ops.size ops.size = Array.replicate ops.size true := by
      apply Array.ext
      · rw [listN_size]; simp
      · intro i h1 h2
        have hi : i < ops.size := by rw [listN_size] at h1; exact h1
        rw [← agetD _ _ true h1, listN_get _ _ _ hi]
        simp [hi]
    rw [hl] at hb
    rw [hA.one hb hrep]
    exact hend X w' hS' (fun j o d hj hdj => (hX j o d hj hdj).2)
  · rw [agetD _ _ _ (by simpa using hj)]; simp
end
end Go.Proofs.YtkppejaigodgiacDoor
