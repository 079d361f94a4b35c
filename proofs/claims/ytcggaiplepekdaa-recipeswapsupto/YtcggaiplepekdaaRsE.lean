/- The changes sorted by their texts. -/
import Derived.Test.YtcggaiplepekdaaRsA
import Derived.Shelf.SlSortCmp.WholeK
import Derived.Shelf.Lay
import Derived.Ground.SlsfProg
import Derived.Ground.NamesProg
namespace Go.Proofs.Ytcggaiplepekdaa
open Go.RowKit Go.Shelf Go.Sort
shelf_lay_g SlLaysF0.n6 Slsf 6 at Try 28 as Try.sortL
/-- What only makes new memory and draws. -/
theorem grown_of {w w' : World} (h : Below w.heap.size w w') (hd : w.drawn ≤ w'.drawn) : ∃ q os, w' = grow (w.drewN q) os := by
  refine ⟨w'.drawn - w.drawn, w'.heap.extract w.heap.size w'.heap.size, ?_⟩
  have hh : w'.heap = w.heap ++ w'.heap.extract w.heap.size w'.heap.size := by
    apply Array.ext_getElem?
    intro i
    by_cases hi : i < w.heap.size
    · rw [Array.getElem?_append_left hi]; exact h.block i hi
    · rw [Array.getElem?_append_right (by omega), Array.getElem?_extract]
      have hs := h.size
      by_cases h2 : i < w'.heap.size
      · rw [if_pos (by simp; omega)]; congr 1; omega
      · rw [if_neg (by simp; omega), Array.getElem?_eq_none (by omega)]
  have h1 := h.os
  have h2 := h.tape
  have h3 := h.output
  unfold grow World.drewN
  cases w
  cases w'
  simp only at hh h1 h2 h3 hd
  simp only [World.mk.injEq]
  subst h1 h2 h3
  exact ⟨hh, rfl, by omega, rfl, rfl⟩
def enc (x : Pai) : List Value := (eR x).toList
theorem enc_len (x : Pai) : (enc x).length = 2 := rfl
theorem enc_one (x : Pai) : ∀ v ∈ enc x, v.oneCell' = true := by
  intro v hv
  simp only [enc, eR, List.mem_cons, List.not_mem_nil, or_false] at hv
  rcases hv with rfl | rfl <;> rfl
instance : Inhabited Pai := ⟨(⟨#[]⟩, ⟨#[]⟩)⟩
def cf (x y : Pai) : Int := Lib.compareBytes (bl x.1) (bl y.1)
theorem cf_lt (x y : Pai) : cf x y < 0 ↔ tn (bl x.1) < tn (bl y.1) := cmpB_lt _ _
theorem swo : SWO (ltOf cf) where
  irrefl x := by
    unfold ltOf
    rw [decide_eq_false]
    rw [cf_lt]; exact List.lt_irrefl _
  trans x y z h1 h2 := by
    unfold ltOf at h1 h2 ⊢
    rw [decide_eq_true_iff] at h1 h2 ⊢
    rw [cf_lt] at h1 h2 ⊢
    exact List.lt_trans h1 h2
  ntrans x y z h1 h2 := by
    unfold ltOf at h1 h2 ⊢
    rw [decide_eq_false_iff_not] at h1 h2 ⊢
    rw [cf_lt] at h1 h2 ⊢
    rw [List.not_lt] at h1 h2 ⊢
    exact List.le_trans h2 h1
set_option maxRecDepth 100000 in
theorem clos_any (x y : Pai) (W : World) : Calls Try.prog 29 #[.agg (enc x).toArray, .agg (enc y).toArray] W fun e w' => e = .returned (.int .i64 (cf x y)) ∧ Below W.heap.size W w' ∧ W.drawn ≤ w'.drawn := by
  obtain ⟨x1, x2⟩ := x
  obtain ⟨y1, y2⟩ := y
  have C : Hid (∀ w, Calls Try.prog 30 #[.string x1, .string y1] w fun e w' => e = .returned (.int .i64 (cf (x1, x2) (y1, y2))) ∧ w' = w) := fun w => cmp_any x1 y1 w
  revert C
  generalize cf (x1, x2) (y1, y2) = r
  intro C
  show Calls Try.prog 29 #[.agg #[.string x1, .string x2], .agg #[.string y1, .string y2]] W _
  go_enter Try.func29, Try.ntmps29
  go_wp2_with fail
  refine Calls.mono (C.out _) ?_
  rintro e w' ⟨rfl, rfl⟩
  go_wp2_with fail
  go_ret
  exact ⟨rfl, ((Below.refl _ W).alloc (Nat.le_refl _) _).alloc (by simp) _, Nat.le_refl _⟩
theorem cmp_lays (blk off size : Nat) (w : World) : CmpLays Try.prog 29 #[] enc 2 cf blk off size w := fun _ _ _ _ x y => (clos_any x y _).mono fun _ _ ⟨a, b, c⟩ => ⟨a, grown_of b c⟩
theorem entersC : ∀ args w, (callFunc 29 args).run Try.prog w = .ok (.enter 29 args) w := enters_of Try.func29 (by kernel_rfl) rfl
theorem sort_bel (w : World) (g off n B : Nat) (d : Array Pai) (os : Array Obj) (hB : B ≤ g) (hw : B ≤ w.heap.size) : Below B w (sortWorldK enc 2 w g off n d os) := by
  unfold sortWorldK putRowK putRow mapBlock grow
  refine ⟨rfl, rfl, rfl, by simp [Sort.ahead], fun j hj => ?_⟩
  show ((Sort.ahead w n).heap.modify g _ ++ os)[j]? = _
  rw [Array.getElem?_append_left (by simp [Sort.ahead]; omega), Array.getElem?_modify, if_neg (by omega)]
  rfl
theorem sort_blk (w : World) (g off n : Nat) (d : Array Pai) (os : Array Obj) {j : Nat} {o : Obj} (hj : w.heap[j]? = some o) (hn : j ≠ g) : (sortWorldK enc 2 w g off n d os).heap[j]? = some o := by
  have hlt := (Array.getElem?_eq_some_iff.1 hj).1
  unfold sortWorldK putRowK putRow mapBlock grow
  show ((Sort.ahead w n).heap.modify g _ ++ os)[j]? = _
  rw [Array.getElem?_append_left (by simpa [Sort.ahead] using hlt), Array.getElem?_modify, if_neg (by omega)]
  exact hj
/-- What the sort leaves. -/
structure Stp (w : World) (g : Nat) (D : List Pai) (w' : World) (D' : List Pai) : Prop where
  perm : D'.Perm D
  sd : Sd D'
  ls : Ls w' (.slice (some ⟨g, 0, none⟩) D'.length D'.length) 2 (D'.map eR)
  bel : ∀ B, B ≤ g → B ≤ w.heap.size → Below B w w'
  blk : ∀ j o, w.heap[j]? = some o → j ≠ g → w'.heap[j]? = some o
theorem sort_any (D : List Pai) (hn : D.length ≤ 10000000) (g base : Nat) (w : World) (ho : Ol base 64 2 w (.slice (some ⟨g, 0, none⟩) D.length D.length) (D.map eR)) :
    Calls Try.prog 28 #[.slice (some ⟨g, 0, none⟩) D.length D.length, .func (.func 29) #[] #[]] w fun e w' => e = .returned (.tuple #[]) ∧ ∃ D', Stp w g D w' D' := by
  have hg : g < w.heap.size := (ho.tag (g := g) rfl).2.1
  have hgD : ∀ i (hi : i < D.length), D.toArray[i]! = D[i] := fun i hi => by rw [getElem!_pos D.toArray i (by simpa using hi)]; simp
  have hH : HoldsK enc 2 w g 0 D.toArray := by
    intro k hk
    have hk : k < D.toArray.size * 2 := by simpa using hk
    have hk2 : k < D.length * 2 := by simpa using hk
    have hi : k / 2 < D.length := by omega
    refine ⟨?_, ho.fro _⟩
    rw [get_flatK _ _ _ _ hk, hgD _ hi, Nat.zero_add]
    have hm : k % 2 = 0 ∨ k % 2 = 1 := by omega
    have he : (eR D[k / 2])[k % 2]? = some ((enc D[k / 2])[k % 2]!) := by rcases hm with q | q <;> rw [q] <;> rfl
    have := ho.cel (k / 2) (k % 2) (eR D[k / 2]) _ (by rw [List.getElem?_map, List.getElem?_eq_getElem hi]; rfl) he
    rw [show k / 2 * 2 + k % 2 = k by omega] at this
    exact this
  have h := AnyQ.slices_SortFunc Try.sortL 2 Try.isAgg64 Try.sizeOf64 enc enc_len enc_one cf swo 29 #[] g 0 D.length D.toArray w entersC (cmp_lays g 0 D.toArray.size w) hH hg (by simp; omega)
  have h' : Calls Try.prog 28 #[.slice (some ⟨g, 0, none⟩) D.toArray.size D.length, .func (.func 29) #[] #[]] w fun e w' => e = .returned (.tuple #[]) ∧ ∃ d' n os, PermIn 0 D.toArray.size D.toArray d' ∧ SortedIn (ltOf cf) 0 D.toArray.size d' ∧ w' = sortWorldK enc 2 w g 0 n d' os := h
  rw [List.size_toArray] at h'
  refine h'.mono ?_
  rintro e w' ⟨he, d', n, os, hp, hsrt, rfl⟩
  have hs' : d'.size = D.length := by have := hp.1; simpa using this
  have hq : ∀ j (hj : j < d'.toList.length), d'[j]! = d'.toList[j] := fun j hj => by
    rw [getElem!_pos d' j (by simpa using hj)]; simp
  have hperm : d'.toList.Perm D := by
    have h3 := hp.2.2
    have e1 : d'.extract 0 D.length = d' := by rw [← hs']; simp
    have e2 : D.toArray.extract 0 D.length = D.toArray := by simp
    rw [e1, e2] at h3
    simpa using h3
  have hH2 := holdsK_sortWorldK_c enc 2 w g 0 D.toArray d' n os hH hg (by simpa using hs')
  refine ⟨he, d'.toList, hperm, ?_, ?_, fun B h1 h2 => sort_bel w g 0 n B d' os h1 h2, fun j o h1 h2 => sort_blk w g 0 n d' os h1 h2⟩
  · intro i j x y hij hi hj
    obtain ⟨hi1, rfl⟩ := List.getElem?_eq_some_iff.1 hi
    obtain ⟨hj1, rfl⟩ := List.getElem?_eq_some_iff.1 hj
    have hj2 : j < D.length := by rw [← hs']; simpa using hj1
    have := hsrt i j (Nat.zero_le _) hij hj2
    unfold ltOf at this
    rw [decide_eq_false_iff_not, cf_lt, hq i hi1, hq j hj1] at this
    exact this
  · refine ⟨some ⟨g, 0, none⟩, _, by rw [List.length_map], (fun q => by cases q), by simp, by simp [hs']; unfold maxLen; omega, rs_e _, fun i c hc => ?_⟩
    rw [List.getElem?_map] at hc
    cases hx : d'.toList[i]? with
    | none => rw [hx] at hc; cases hc
    | some x =>
      rw [hx] at hc
      obtain rfl : eR x = c := by simpa using hc
      obtain ⟨hi1, hx1⟩ := List.getElem?_eq_some_iff.1 hx
      refine ⟨g, 0, rfl, Nat.lt_of_lt_of_le hg (sort_bel w g 0 n 0 d' os (Nat.zero_le _) (Nat.zero_le _)).size, fun j u hu => ?_⟩
      have hj : j < 2 := by have := (List.getElem?_eq_some_iff.1 hu).1; simpa [eR] using this
      have := (hH2.cell (i := i) (c := j) (by simpa using hi1) hj).1
      rw [this, hq i hi1, hx1]
      have e2 := List.getElem?_eq_some_iff.1 hu
      show some ((enc x)[j]!) = some u
      rw [getElem!_pos _ j e2.1]
      exact congrArg some e2.2
end Go.Proofs.Ytcggaiplepekdaa
