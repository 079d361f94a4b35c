/- A region that draws its order, by its values and the world together. -/
import Derived.Test.YtfimaflglnemdaaDoorJr9
namespace Go.Proofs.YtfimaflglnemdaaDoor
open Go.RowKit
def updX (X : Nat → Value) (i : Nat) (v : Value) (j : Nat) : Value := if j = i then v else X j
section
variable {P : Program} {md : Region.Mode} {ops : Array Oper} {Q : Exit → Act → World → Prop}

theorem wpAny_fx {a0 : Act} {J : Array Bool → (Nat → Value) → World → Prop} (hlt : ∀ (i : Nat) o, ops[i]? = some o → ∀ e ∈ o.after, Region.binds md e = true → e.on < i)
    (hd : ∀ (i j : Nat) o oj d, ops[i]? = some o → ops[j]? = some oj → oj.dst = some d → o.dst = some d → j = i) (hN : ∀ (i : Nat) o d, ops[i]? = some o → o.dst = some d → d < a0.tmps.size)
    (hstep : ∀ (i : Nat) o a w listed X, ops[i]? = some o → RFr ops a0 X listed a → J listed X w → listed.size = ops.size → listed.getD i true = false → (∀ e ∈ o.after, Region.binds md e = true → listed.getD e.on false = true) →
      if Region.wanted o (yielded ops a.tmps) = true then Oper.wp P o a w (fun a' w' => ∃ v, a' = a.put o.dst v ∧ J (listed.setIfInBounds i true) (updX X i v) w') Q else J (listed.setIfInBounds i true) (updX X i undef) w)
    (hend : ∀ a w X, J (Array.replicate ops.size true) X w → RFr ops a0 X (Array.replicate ops.size true) a → Q .normal a w) :
    ∀ (fuel : Nat) (listed : Array Bool) (a : Act) (w : World) (X : Nat → Value), listed.size = ops.size → listed.toList.count false ≤ fuel → RFr ops a0 X listed a → J listed X w → wpAny P md ops Q fuel listed a w := by
  have hall : ∀ (listed : Array Bool), listed.size = ops.size → (∀ i, i < ops.size → listed.getD i true = true) → listed = Array.replicate ops.size true := by
    intro listed hs h
    apply Array.ext
    · simp [hs]
    · intro i h1 h2
      have := h i (by omega)
      rw [agetD _ _ _ h1] at this
      simpa using this
  have hfin : ∀ (listed : Array Bool) a w X, listed.size = ops.size → RFr ops a0 X listed a → J listed X w → Region.ready md ops listed = [] → Q .normal a w := by
    intro listed a w X hs hF hS hr
    have he := hall listed hs (ready_nil hlt hs hr)
    rw [he] at hF hS
    exact hend a w X hS hF
  intro fuel
  induction fuel with
  | zero =>
    intro listed a w X hs hc hF hS
    have hr : Region.ready md ops listed = [] := by
      cases hr : Region.ready md ops listed with
      | nil => rfl
      | cons i rs =>
        exfalso
        have hm := mem_ready (md := md) (ops := ops) (listed := listed) (i := i) (by rw [hr]; simp)
        have hil : i < listed.size := by omega
        have h1 : listed[i] = false := by rw [← agetD _ _ true hil]; exact hm.2.1
        have h2 : false ∈ listed.toList := by rw [← h1]; exact Array.getElem_mem_toList hil
        have := List.count_pos_iff.2 h2
        omega
    exact ⟨hr, hfin listed a w X hs hF hS hr⟩
  | succ fuel ih =>
    intro listed a w X hs hc hF hS
    refine ⟨hfin listed a w X hs hF hS, fun i hi => ?_⟩
    obtain ⟨hil, hun, hdep⟩ := mem_ready hi
    obtain ⟨o, ho⟩ : ∃ o, ops[i]? = some o := ⟨_, Array.getElem?_eq_getElem hil⟩
    have hls : i < listed.size := by omega
    have h1 : listed[i] = false := by rw [← agetD _ _ true hls]; exact hun
    have hcnt : (listed.setIfInBounds i true).toList.count false ≤ fuel := by
      have h2 : listed.toList[i]'(by simpa using hls) = false := by simpa using h1
      rw [Array.toList_setIfInBounds, List.count_set (by simpa using hls), h2]
      simp only [BEq.rfl, if_true]
      have h3 : ¬ ((true == false) = true) := by decide
      rw [if_neg h3]
      omega
    have hst := hstep i o a w listed X ho hF hS hs hun (hdep o ho)
    have hX : ∀ v, RFr ops a0 (updX X i v) listed a := fun v => ⟨hF.df, hF.sz, hF.old, fun j oj d hj hdj hl => by
      have hne : j ≠ i := fun e => by subst e; rw [hun] at hl; cases hl
      rw [hF.val j oj d hj hdj hl]
      simp only [updX, if_neg hne]⟩
    have hnext : ∀ v w', J (listed.setIfInBounds i true) (updX X i v) w' → wpAny P md ops Q fuel (listed.setIfInBounds i true) (a.put o.dst v) w' := fun v w' hS' => by
      have := (hX v).put ho hs (fun j oj d hj h2 h3 => hd i j o oj d ho hj h2 h3) (fun d h => hN i o d ho h)
      rw [show updX X i v i = v by simp [updX]] at this
      exact ih _ _ _ _ (by simpa using hs) hcnt this hS'
    refine wpOp_step ho fun K' hK => ?_
    by_cases hw : Region.wanted o (yielded ops a.tmps) = true
    · rw [if_pos hw] at hst ⊢
      exact Oper.wp_mono (fun a' w' ⟨v, e, hS'⟩ => hK _ _ (by rw [e]; exact hnext v w' hS')) hst
    · rw [if_neg hw] at hst ⊢
      exact hK _ _ (hnext undef w hst)
/-- THE REGION, WHOLE: every order comes to the frame of the text's own order. -/
theorem wp_region_fx {id : Nat} {a0 : Act} {J : Array Bool → (Nat → Value) → World → Prop} {w : World} (X0 : Nat → Value) (hm : P.follows .mixedOrders = true) (hlt : ∀ (i : Nat) o, ops[i]? = some o → ∀ e ∈ o.after, Region.binds .any e = true → e.on < i)
    (hd : ∀ (i j : Nat) o oj d, ops[i]? = some o → ops[j]? = some oj → oj.dst = some d → o.dst = some d → j = i) (hN : ∀ (i : Nat) o d, ops[i]? = some o → o.dst = some d → d < a0.tmps.size)
    (hstep : ∀ (i : Nat) o a w listed X, ops[i]? = some o → RFr ops a0 X listed a → J listed X w → listed.size = ops.size → listed.getD i true = false → (∀ e ∈ o.after, Region.binds .any e = true → listed.getD e.on false = true) →
      if Region.wanted o (yielded ops a.tmps) = true then Oper.wp P o a w (fun a' w' => ∃ v, a' = a.put o.dst v ∧ J (listed.setIfInBounds i true) (updX X i v) w') Q else J (listed.setIfInBounds i true) (updX X i undef) w)
    (hS : J (Array.replicate ops.size false) X0 w.drew) (hend : ∀ X w', J (Array.replicate ops.size true) X w' → Q .normal (putN ops X a0 ops.size) w') : (Code.region id ops true).wp P Q a0 w := by
  refine wp_region_any hm ?_
  show wpAny P .any ops Q ops.size (Array.replicate ops.size false) a0 w.drew
  refine wpAny_fx hlt hd hN hstep (fun a w' X hS' hF => ?_) _ _ _ _ _ (by simp) (by simp) (RFr.start a0 X0 _ fun j hj => ?_) hS
  · have hb := putN_fr (V := X) hd hN ops.size (Nat.le_refl _)
    have hl : listN ops.size ops.size = Array.replicate ops.size true := by
      apply Array.ext
      · rw [listN_size]; simp
      · intro i h1 h2
        have hi : i < ops.size := by rw [listN_size] at h1; exact h1
        rw [← agetD _ _ true h1, listN_get _ _ _ hi]
        simp [hi]
    rw [hl] at hb
    rw [hF.one hb (fun j hj => by rw [agetD _ _ _ (by simpa using hj)]; simp)]
    exact hend X w' hS'
  · rw [agetD _ _ _ (by simpa using hj)]; simp
end
end Go.Proofs.YtfimaflglnemdaaDoor
