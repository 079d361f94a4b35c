/- A region that draws its order, by the values of its operations. -/
import Derived.Test.YtfimaflglnemdaaDoorChecked
import Derived.RegionTactic
import Derived.WalkKit
namespace Go.Proofs.YtfimaflglnemdaaDoor
open Go.RowKit
section
variable {P : Program} {md : Region.Mode} {ops : Array Oper} {Q : Exit → Act → World → Prop}
/-- The frame in a region that draws: slots that no operation fills are as they were; what is listed has its value. -/
structure RFr (ops : Array Oper) (a0 : Act) (V : Nat → Value) (listed : Array Bool) (a : Act) : Prop where
  df : a.defers = a0.defers
  sz : a.tmps.size = a0.tmps.size
  old : ∀ s : Nat, (∀ (j : Nat) o, ops[j]? = some o → o.dst ≠ some s) → a.tmps[s]? = a0.tmps[s]?
  val : ∀ (j : Nat) o d, ops[j]? = some o → o.dst = some d → listed.getD j true = true → a.tmps[d]? = some (V j)
theorem agetD (l : Array Bool) (i : Nat) (b : Bool) (h : i < l.size) : l.getD i b = l[i] := by unfold Array.getD; rw [dif_pos h]; rfl
theorem mem_ready {listed : Array Bool} {i : Nat} (h : i ∈ Region.ready md ops listed) : i < ops.size ∧ listed.getD i true = false ∧ ∀ o, ops[i]? = some o → ∀ e ∈ o.after, Region.binds md e = true → listed.getD e.on false = true := by
  unfold Region.ready at h
  obtain ⟨h1, h2⟩ := List.mem_filter.1 h
  have hi := List.mem_range.1 h1
  simp only [Bool.and_eq_true, Bool.not_eq_true'] at h2
  refine ⟨hi, h2.1, fun o ho e he hb => ?_⟩
  have h3 := h2.2
  rw [ho] at h3
  simp only [Option.map_some, Option.getD_some, Array.all_eq_true_iff_forall_mem] at h3
  have := h3 e he
  rw [hb] at this
  simpa using this
theorem ready_nil {listed : Array Bool} (hlt : ∀ (i : Nat) o, ops[i]? = some o → ∀ e ∈ o.after, Region.binds md e = true → e.on < i) (hs : listed.size = ops.size) (h : Region.ready md ops listed = []) : ∀ i, i < ops.size → listed.getD i true = true := by
  intro i
  induction i using Nat.strongRecOn with
  | _ i ih =>
    intro hi
    cases hc : listed.getD i true with
    | true => rfl
    | false =>
      exfalso
      have hm : i ∈ Region.ready md ops listed := by
        unfold Region.ready
        refine List.mem_filter.2 ⟨List.mem_range.2 hi, ?_⟩
        obtain ⟨o, ho⟩ : ∃ o, ops[i]? = some o := ⟨_, Array.getElem?_eq_getElem hi⟩
        simp only [hc, ho, Option.map_some, Option.getD_some, Bool.not_false, Bool.true_and, Array.all_eq_true_iff_forall_mem]
        intro e he
        cases hb : Region.binds md e with
        | false => simp
        | true =>
          have hl := hlt i o ho e he hb
          have h1 := ih e.on hl (by omega)
          have hsz : e.on < listed.size := by omega
          rw [agetD _ _ _ hsz] at h1 ⊢
          simp [h1]
      rw [h] at hm
      cases hm
theorem put_size (a : Act) (d : Option Tmp) (v : Value) : (a.put d v).tmps.size = a.tmps.size := by
  cases d <;> simp [Act.put]
theorem put_defers (a : Act) (d : Option Tmp) (v : Value) : (a.put d v).defers = a.defers := by
  cases d <;> rfl
theorem RFr.put {a0 : Act} {V : Nat → Value} {listed : Array Bool} {a : Act} (h : RFr ops a0 V listed a) {i : Nat} {o : Oper} (ho : ops[i]? = some o) (hs : listed.size = ops.size)
    (hd : ∀ (j : Nat) oj d, ops[j]? = some oj → oj.dst = some d → o.dst = some d → j = i) (hN : ∀ d, o.dst = some d → d < a0.tmps.size) : RFr ops a0 V (listed.setIfInBounds i true) (a.put o.dst (V i)) := by
  refine ⟨(put_defers _ _ _).trans h.df, (put_size _ _ _).trans h.sz, fun s hno => ?_, fun j oj d hj hdj hl => ?_⟩
  · have h1 := hno i o ho
    have h2 := h.old s hno
    cases hc : o.dst with
    | none => exact h2
    | some d =>
      have hne : d ≠ s := fun e => h1 (by rw [hc, e])
      show (a.tmps.setIfInBounds d (V i))[s]? = _
      rw [Array.getElem?_setIfInBounds_ne hne]
      exact h2
  · by_cases hji : j = i
    · subst hji
      have : oj = o := Option.some.inj (hj.symm.trans ho)
      subst this
      rw [hdj]
      show (a.tmps.setIfInBounds d (V j))[d]? = _
      rw [Array.getElem?_setIfInBounds_self]
      have := hN d hdj
      rw [if_pos (by rw [h.sz]; exact this)]
    · have hl2 : listed.getD j true = true := by
        have hjs : j < ops.size := (Array.getElem?_eq_some_iff.1 hj).1
        have hjl : j < listed.size := by omega
        rw [agetD _ _ _ (by simpa using hjl)] at hl
        rw [agetD _ _ _ hjl]
        rw [Array.getElem_setIfInBounds_ne hjl (Ne.symm hji)] at hl
        exact hl
      have h3 := h.val j oj d hj hdj hl2
      cases hc : o.dst with
      | none => exact h3
      | some d' =>
        have hne : d' ≠ d := fun e => hji (hd j oj d hj hdj (by rw [hc, e]))
        show (a.tmps.setIfInBounds d' (V i))[d]? = _
        rw [Array.getElem?_setIfInBounds_ne hne]
        exact h3
/-- A REGION THAT DRAWS ITS ORDER, BY THE VALUES: each operation, where what it waits for has its value, gives its own value and keeps S; then every order comes to the one frame. -/
theorem wpAny_vals {a0 : Act} {V : Nat → Value} {S : Array Bool → World → Prop} (hlt : ∀ (i : Nat) o, ops[i]? = some o → ∀ e ∈ o.after, Region.binds md e = true → e.on < i)
    (hd : ∀ (i j : Nat) o oj d, ops[i]? = some o → ops[j]? = some oj → oj.dst = some d → o.dst = some d → j = i) (hN : ∀ (i : Nat) o d, ops[i]? = some o → o.dst = some d → d < a0.tmps.size)
    (hstep : ∀ (i : Nat) o a w listed, ops[i]? = some o → RFr ops a0 V listed a → S listed w → listed.size = ops.size → listed.getD i true = false → (∀ e ∈ o.after, Region.binds md e = true → listed.getD e.on false = true) →
      if Region.wanted o (yielded ops a.tmps) = true then Oper.wp P o a w (fun a' w' => a' = a.put o.dst (V i) ∧ S (listed.setIfInBounds i true) w') Q else V i = undef ∧ S (listed.setIfInBounds i true) w)
    (hend : ∀ a w, S (Array.replicate ops.size true) w → RFr ops a0 V (Array.replicate ops.size true) a → Q .normal a w) :
    ∀ (fuel : Nat) (listed : Array Bool) (a : Act) (w : World), listed.size = ops.size → listed.toList.count false ≤ fuel → RFr ops a0 V listed a → S listed w → wpAny P md ops Q fuel listed a w := by
  have hall : ∀ (listed : Array Bool), listed.size = ops.size → (∀ i, i < ops.size → listed.getD i true = true) → listed = Array.replicate ops.size true := by
    intro listed hs h
    apply Array.ext
    · simp [hs]
    · intro i h1 h2
      have := h i (by omega)
      rw [agetD _ _ _ h1] at this
      simpa using this
  have hfin : ∀ (listed : Array Bool) a w, listed.size = ops.size → RFr ops a0 V listed a → S listed w → Region.ready md ops listed = [] → Q .normal a w := by
    intro listed a w hs hF hS hr
    have he := hall listed hs (ready_nil hlt hs hr)
    rw [he] at hF hS
    exact hend a w hS hF
  intro fuel
  induction fuel with
  | zero =>
    intro listed a w hs hc hF hS
    have hr : Region.ready md ops listed = [] := by
      cases hr : Region.ready md ops listed with
      | nil => rfl
      | cons i rs =>
        exfalso
        have hm := mem_ready (md := md) (ops := ops) (listed := listed) (i := i) (by rw [hr]; simp)
        have hil : i < listed.size := by omega
        have h1 : listed[i] = false := by rw [← agetD _ _ true hil]; exact hm.2.1
        have h2 : false ∈ listed.toList := by rw [← h1]; exact Array.getElem_mem_toList hil
        have := List.count_pos_iff.2 h2
        omega
    exact ⟨hr, hfin listed a w hs hF hS hr⟩
  | succ fuel ih =>
    intro listed a w hs hc hF hS
    refine ⟨hfin listed a w hs hF hS, fun i hi => ?_⟩
    obtain ⟨hil, hun, hdep⟩ := mem_ready hi
    obtain ⟨o, ho⟩ : ∃ o, ops[i]? = some o := ⟨_, Array.getElem?_eq_getElem hil⟩
    have hls : i < listed.size := by omega
    have h1 : listed[i] = false := by rw [← agetD _ _ true hls]; exact hun
    have hcnt : (listed.setIfInBounds i true).toList.count false ≤ fuel := by
      have h2 : listed.toList[i]'(by simpa using hls) = false := by simpa using h1
      rw [Array.toList_setIfInBounds, List.count_set (by simpa using hls), h2]
      simp only [BEq.rfl, if_true]
      have h3 : ¬ ((true == false) = true) := by decide
      rw [if_neg h3]
      omega
    have hst := hstep i o a w listed ho hF hS hs hun (hdep o ho)
    have hnext : ∀ w', S (listed.setIfInBounds i true) w' → wpAny P md ops Q fuel (listed.setIfInBounds i true) (a.put o.dst (V i)) w' := fun w' hS' =>
      ih _ _ _ (by simpa using hs) hcnt (hF.put ho hs (fun j oj d hj h2 h3 => hd i j o oj d ho hj h2 h3) (fun d h => hN i o d ho h)) hS'
    refine wpOp_step ho fun K' hK => ?_
    by_cases hw : Region.wanted o (yielded ops a.tmps) = true
    · rw [if_pos hw] at hst ⊢
      exact Oper.wp_mono (fun a' w' ⟨e, hS'⟩ => hK _ _ (by rw [e]; exact hnext w' hS')) hst
    · rw [if_neg hw] at hst ⊢
      rw [← hst.1]
      exact hK _ _ (hnext w hst.2)
theorem RFr.start (a0 : Act) (V : Nat → Value) (listed : Array Bool) (h : ∀ j, j < ops.size → listed.getD j true = false) : RFr ops a0 V listed a0 :=
  ⟨rfl, rfl, fun _ _ => rfl, fun j o d hj _ hl => by have := h j (Array.getElem?_eq_some_iff.1 hj).1; rw [this] at hl; cases hl⟩
/-- All listed: there is one such frame. -/
theorem RFr.one {a0 : Act} {V : Nat → Value} {listed : Array Bool} {a b : Act} (ha : RFr ops a0 V listed a) (hb : RFr ops a0 V listed b) (hl : ∀ j, j < ops.size → listed.getD j true = true) : a = b := by
  have ht : a.tmps = b.tmps := by
    apply Array.ext_getElem?
    intro s
    by_cases h : ∃ (j : Nat) (o : Oper), ops[j]? = some o ∧ o.dst = some s
    · obtain ⟨j, o, hj, hd⟩ := h
      have := hl j (Array.getElem?_eq_some_iff.1 hj).1
      rw [ha.val j o s hj hd this, hb.val j o s hj hd this]
    · have hno : ∀ (j : Nat) o, ops[j]? = some o → o.dst ≠ some s := fun j o hj hd => h ⟨j, o, hj, hd⟩
      rw [ha.old s hno, hb.old s hno]
  have hdf : a.defers = b.defers := ha.df.trans hb.df.symm
  cases a
  cases b
  simp_all
/-- The frame behind the first n operations, in the text's order. -/
def putN (ops : Array Oper) (V : Nat → Value) (a0 : Act) : Nat → Act
  | 0 => a0
  | n + 1 => (putN ops V a0 n).put ((ops[n]?).bind (·.dst)) (V n)
def listN (k : Nat) : Nat → Array Bool
  | 0 => Array.replicate k false
  | n + 1 => (listN k n).setIfInBounds n true
theorem listN_size (k : Nat) : ∀ n, (listN k n).size = k
  | 0 => by simp [listN]
  | n + 1 => by rw [listN, Array.size_setIfInBounds, listN_size k n]
theorem listN_get (k : Nat) : ∀ n j, j < k → (listN k n).getD j true = decide (j < n)
  | 0, j, h => by rw [listN, agetD _ _ _ (by simpa using h)]; simp
  | n + 1, j, h => by
    have hs := listN_size k n
    have hj : j < (listN k n).size := by omega
    have ih := listN_get k n j h
    rw [agetD _ _ _ hj] at ih
    rw [listN, agetD _ _ _ (by simpa using hj)]
    by_cases he : n = j
    · subst he
      simp
    · rw [Array.getElem_setIfInBounds_ne hj he, ih]
      have : (j < n) = (j < n + 1) := by simp only [eq_iff_iff]; omega
      simp only [this]
theorem putN_fr {a0 : Act} {V : Nat → Value} (hd : ∀ (i j : Nat) o oj d, ops[i]? = some o → ops[j]? = some oj → oj.dst = some d → o.dst = some d → j = i) (hN : ∀ (i : Nat) o d, ops[i]? = some o → o.dst = some d → d < a0.tmps.size) :
    ∀ n, n ≤ ops.size → RFr ops a0 V (listN ops.size n) (putN ops V a0 n)
  | 0, _ => RFr.start a0 V _ fun j hj => by rw [listN_get _ _ _ hj]; simp
  | n + 1, h => by
    have ho : ops[n]? = some ops[n] := Array.getElem?_eq_getElem (by omega)
    have := (putN_fr (V := V) hd hN n (by omega)).put (i := n) ho (listN_size _ _) (fun j oj d hj h2 h3 => hd n j _ oj d ho hj h2 h3) (fun d h => hN n _ d ho h)
    rw [putN, listN, ho]
    exact this
/-- THE REGION, WHOLE: every order comes to the frame of the text's own order. -/
theorem wp_region_vals {id : Nat} {a0 : Act} {V : Nat → Value} {S : Array Bool → World → Prop} {w : World} (hm : P.follows .mixedOrders = true) (hlt : ∀ (i : Nat) o, ops[i]? = some o → ∀ e ∈ o.after, Region.binds .any e = true → e.on < i)
    (hd : ∀ (i j : Nat) o oj d, ops[i]? = some o → ops[j]? = some oj → oj.dst = some d → o.dst = some d → j = i) (hN : ∀ (i : Nat) o d, ops[i]? = some o → o.dst = some d → d < a0.tmps.size)
    (hstep : ∀ (i : Nat) o a w listed, ops[i]? = some o → RFr ops a0 V listed a → S listed w → listed.size = ops.size → listed.getD i true = false → (∀ e ∈ o.after, Region.binds .any e = true → listed.getD e.on false = true) →
      if Region.wanted o (yielded ops a.tmps) = true then Oper.wp P o a w (fun a' w' => a' = a.put o.dst (V i) ∧ S (listed.setIfInBounds i true) w') Q else V i = undef ∧ S (listed.setIfInBounds i true) w)
    (hS : S (Array.replicate ops.size false) w.drew) (hend : ∀ w', S (Array.replicate ops.size true) w' → Q .normal (putN ops V a0 ops.size) w') : (Code.region id ops true).wp P Q a0 w := by
  refine wp_region_any hm ?_
  show wpAny P .any ops Q ops.size (Array.replicate ops.size false) a0 w.drew
  refine wpAny_vals hlt hd hN hstep (fun a w' hS' hF => ?_) _ _ _ _ (by simp) (by simp) (RFr.start a0 V _ fun j hj => ?_) hS
  · have hb := putN_fr (V := V) hd hN ops.size (Nat.le_refl _)
    have hl : listN ops.size ops.size = Array.replicate ops.size true := by
      apply Array.ext
      · rw [listN_size]; simp
      · intro i h1 h2
        have hi : i < ops.size := by rw [listN_size] at h1; exact h1
        rw [← agetD _ _ true h1, listN_get _ _ _ hi]
        simp [hi]
    rw [hl] at hb
    rw [hF.one hb (fun j hj => by rw [agetD _ _ _ (by simpa using hj)]; simp)]
    exact hend w' hS'
  · rw [agetD _ _ _ (by simpa using hj)]; simp
end
end Go.Proofs.YtfimaflglnemdaaDoor
