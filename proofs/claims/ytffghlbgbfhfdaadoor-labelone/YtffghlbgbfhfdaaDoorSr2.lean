/- LabelSorts: SortFunc of labels. -/
import Derived.Test.YtffghlbgbfhfdaaDoorSr1
import Derived.Shelf.Lay
import Derived.Ground.SlsfProg
import Derived.Ground.NamesProg
namespace Go.Proofs.YtffghlbgbfhfdaaDoor
open Go.RowKit Go.Shelf Go.Sort
shelf_lay_g SlLaysF0.n6 Slsf 6 at Tryd 21 as Tryd.sortL
/-- What only makes new memory and draws. -/
theorem grown_of {w w' : World} (h : Below w.heap.size w w') (hd : w.drawn ≤ w'.drawn) : ∃ q os, w' = grow (w.drewN q) os := by
  refine ⟨w'.drawn - w.drawn, w'.heap.extract w.heap.size w'.heap.size, ?_⟩
  have hh : w'.heap = w.heap ++ w'.heap.extract w.heap.size w'.heap.size := by
    apply Array.ext_getElem?
    intro i
    by_cases hi : i < w.heap.size
    · rw [Array.getElem?_append_left hi]; exact h.block i hi
    · rw [Array.getElem?_append_right (by omega), Array.getElem?_extract]
      have hs := h.size
      by_cases h2 : i < w'.heap.size
      · rw [if_pos (by simp; omega)]; congr 1; omega
      · rw [if_neg (by simp; omega), Array.getElem?_eq_none (by omega)]
  have h1 := h.os
  have h2 := h.tape
  have h3 := h.output
  unfold grow World.drewN
  cases w
  cases w'
  simp only at hh h1 h2 h3 hd
  simp only [World.mk.injEq]
  subst h1 h2 h3
  exact ⟨hh, rfl, by omega, rfl, rfl⟩
theorem cmp_grow (x y : Lb) (W : World) : Calls Tryd.prog 22 #[.agg (enc x).toArray, .agg (enc y).toArray] W fun e w' => e = .returned (.int .i64 (cf x y)) ∧ ∃ q os', w' = grow (W.drewN q) os' := by
  rw [enc_arr, enc_arr]
  exact (cmpC_any x.h y.h x.s y.s x.hl y.hl W).mono fun e w' ⟨a, b, c⟩ => ⟨a, grown_of b c⟩
theorem cmp_lays (blk off size : Nat) (w : World) : CmpLays Tryd.prog 22 #[] enc 21 cf blk off size w := fun _ _ _ _ x y => cmp_grow x y _
/-- All but one block is as it was. -/
structure But1 (g : Nat) (w w' : World) : Prop where
  os : w'.os = w.os
  tape : w'.tape = w.tape
  output : w'.output = w.output
  size : w.heap.size ≤ w'.heap.size
  block : ∀ j, j < w.heap.size → j ≠ g → w'.heap[j]? = w.heap[j]?
  tag : ∀ C t, w.heap[g]? = some (.cells C t (0, 0)) → ∃ C', w'.heap[g]? = some (.cells C' t (0, 0))
theorem But1.refl (g : Nat) (w : World) : But1 g w w := ⟨rfl, rfl, rfl, Nat.le_refl _, fun _ _ _ => rfl, fun C _ h => ⟨C, h⟩⟩
theorem But1.trans {g : Nat} {a b c : World} (h : But1 g a b) (k : But1 g b c) : But1 g a c :=
  ⟨k.os.trans h.os, k.tape.trans h.tape, k.output.trans h.output, Nat.le_trans h.size k.size, fun j hj hne => (k.block j (Nat.lt_of_lt_of_le hj h.size) hne).trans (h.block j hj hne), fun C t e => let ⟨C1, e1⟩ := h.tag C t e; k.tag C1 t e1⟩
theorem But1.below {g B : Nat} {a b : World} (h : But1 g a b) (hg : B ≤ g) (hB : B ≤ a.heap.size) : Below B a b :=
  ⟨h.os, h.tape, h.output, h.size, fun j hj => h.block j (by omega) (by omega)⟩
theorem But1.of_below {g : Nat} {a b : World} (h : Below a.heap.size a b) : But1 g a b := ⟨h.os, h.tape, h.output, h.size, fun j hj _ => h.block j hj, fun C _ e => ⟨C, (h.block g (Array.getElem?_eq_some_iff.1 e).1).trans e⟩⟩
theorem but_sort (w : World) (g off n : Nat) (d : Array Lb) (os : Array Obj) : But1 g w (sortWorldK enc 21 w g off n d os) := by
  unfold sortWorldK putRowK putRow mapBlock grow
  refine ⟨rfl, rfl, rfl, by simp [Sort.ahead], fun j hj hne => ?_, fun C t e => ?_⟩
  · show ((Sort.ahead w n).heap.modify g _ ++ os)[j]? = _
    rw [Array.getElem?_append_left (by simpa [Sort.ahead] using hj), Array.getElem?_modify, if_neg (Ne.symm hne)]
    rfl
  · have hg : g < w.heap.size := (Array.getElem?_eq_some_iff.1 e).1
    show ∃ C', ((Sort.ahead w n).heap.modify g _ ++ os)[g]? = some (.cells C' t (0, 0))
    rw [Array.getElem?_append_left (by simpa [Sort.ahead] using hg), Array.getElem?_modify, if_pos rfl]
    have e2 : (Sort.ahead w n).heap[g]? = some (.cells C t (0, 0)) := e
    rw [e2]
    exact ⟨_, rfl⟩
theorem enters22 : ∀ args w, (callFunc 22 args).run Tryd.prog w = .ok (.enter 22 args) w := enters_of Tryd.func22 (by kernel_rfl) rfl
/-- The labels in order. -/
def srt (D : List Lb) : List Lb := D.mergeSort fun x y => !(ltOf cf) y x
theorem srt_len (D : List Lb) : (srt D).length = D.length := List.length_mergeSort _
theorem sort_any (D : List Lb) (hn : D.length < 4611686018427387904) (g cap : Nat) (w : World) (hH : HoldsK enc 21 w g 0 D.toArray) (hg : g < w.heap.size) :
    Calls Tryd.prog 21 #[.slice (some ⟨g, 0, none⟩) D.length cap, .func (.func 22) #[] #[]] w fun e w' => e = .returned (.tuple #[]) ∧ HoldsK enc 21 w' g 0 (srt D).toArray ∧ But1 g w w' := by
  have h := AnyQ.slices_SortFunc_total Tryd.sortL 21 Tryd.isAgg60 Tryd.sizeOf60 enc enc_len enc_one cf swo 22 #[] g 0 cap D.toArray w enters22 (cmp_lays g 0 D.toArray.size w) hH hg (by simpa using hn) ltT
  have h' : Calls Tryd.prog 21 #[.slice (some ⟨g, 0, none⟩) D.toArray.size cap, .func (.func 22) #[] #[]] w fun e w' => e = .returned (.tuple #[]) ∧ ∃ n os, w' = sortWorldK enc 21 w g 0 n (srt D).toArray os := h
  rw [List.size_toArray] at h'
  refine h'.mono ?_
  rintro e w' ⟨he, n, os, rfl⟩
  exact ⟨he, holdsK_sortWorldK_c enc 21 w g 0 D.toArray (srt D).toArray n os hH hg (by simp [srt_len]), but_sort w g 0 n _ os⟩
end Go.Proofs.YtffghlbgbfhfdaaDoor
