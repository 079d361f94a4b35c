/- Several texts in one: Sr1, Sr2, Sr3, Sr4, Sr5. -/
import Derived.Test.YtffghlbgbfhfdaaGreatDoorRd
import Derived.Test.YtffghlbgbfhfdaaGreatDoorSrM
import Derived.Shelf.SlSortCmp.WholeK
import Derived.Shelf.SlSortCmp.NoneTotal
import Derived.Shelf.Lay
import Derived.Ground.SlsfProg
import Derived.Ground.NamesProg
import Derived.Lib.SliceRun
import Derived.Deep.MidRow
import Derived.Laws.MakeOwn
import Derived.Laws.CopyRow
/- LabelSorts: labels as elements, their order. -/
namespace Go.Proofs.YtffghlbgbfhfdaaGreatDoor
open Go.RowKit Go.Shelf Go.Sort
/-- A label. -/
structure Lb where
  h : List Nat
  s : ByteArray
  hl : h.length = 20
deriving DecidableEq
instance : Inhabited Lb := ⟨⟨z20, ⟨#[]⟩, rfl⟩⟩
theorem Lb.ext' {x y : Lb} (h1 : x.h = y.h) (h2 : x.s = y.s) : x = y := by cases x; cases y; simp_all
def enc (x : Lb) : List Value := (lab x.h x.s).toList
theorem enc_len (x : Lb) : (enc x).length = 21 := by
  have := lab_size x.h x.s x.hl
  simpa [enc] using this
theorem enc_arr (x : Lb) : (enc x).toArray = lab x.h x.s := by simp [enc]
theorem enc_one (x : Lb) : ∀ v ∈ enc x, v.oneCell' = true := by
  intro v hv
  simp only [enc, lab, bs, Array.toList_append, List.mem_append, List.mem_map, List.mem_cons, List.not_mem_nil, or_false] at hv
  rcases hv with ⟨n, _, rfl⟩ | rfl <;> rfl
def cf (x y : Lb) : Int := cmpV x.h y.h x.s y.s
def key (x : Lb) : List Nat := x.h.reverse ++ x.s.data.toList.map UInt8.toNat
theorem cmpH_lex (a b : List Nat) : ∀ k, k ≤ a.length → k ≤ b.length → cmpH a b k = lexC (a.take k).reverse (b.take k).reverse
  | 0, _, _ => by simp [cmpH, lexC]
  | k + 1, h1, h2 => by
    have ea : (a.take (k + 1)).reverse = a.getD k 0 :: (a.take k).reverse := by
      rw [List.take_succ_eq_append_getElem (by omega), List.reverse_append]
      simp [List.getD, List.getElem?_eq_getElem (show k < a.length by omega)]
    have eb : (b.take (k + 1)).reverse = b.getD k 0 :: (b.take k).reverse := by
      rw [List.take_succ_eq_append_getElem (by omega), List.reverse_append]
      simp [List.getD, List.getElem?_eq_getElem (show k < b.length by omega)]
    rw [ea, eb, cmpH, lexC, cmpH_lex a b k (by omega) (by omega)]
theorem cf_key (x y : Lb) : cf x y = lexC (key x) (key y) := by
  unfold cf cmpV key
  have h1 := x.hl
  have h2 := y.hl
  rw [lex_app _ _ (by simp [h1, h2]), cmpH_lex _ _ 20 (by omega) (by omega), List.take_of_length_le (by omega), List.take_of_length_le (by omega), lex_bytes]
theorem key_inj {x y : Lb} (h : key x = key y) : x = y := by
  unfold key at h
  have h1 := x.hl
  have h2 := y.hl
  obtain ⟨e1, e2⟩ := List.append_inj h (by simp [h1, h2])
  refine Lb.ext' (List.reverse_inj.1 e1) ?_
  have := map_nat_inj e2
  exact ByteArray.ext (Array.toList_inj.1 this)
def lt (x y : Lb) : Bool := ltOf cf x y
theorem lt_key (x y : Lb) : ltOf cf x y = decide (lexC (key x) (key y) < 0) := by unfold ltOf; rw [cf_key]
theorem swo : SWO (ltOf cf) where
  irrefl x := by rw [lt_key, lex_self]; rfl
  trans x y z h1 h2 := by
    rw [lt_key] at h1 h2 ⊢
    exact decide_eq_true (lex_trans (of_decide_eq_true h1) (of_decide_eq_true h2))
  ntrans x y z h1 h2 := by
    rw [lt_key] at h1 h2 ⊢
    have h1 := of_decide_eq_false h1
    have h2 := of_decide_eq_false h2
    refine decide_eq_false fun h3 => ?_
    by_cases e1 : lexC (key x) (key y) = 0
    · rw [lex_zero e1] at h3; omega
    · by_cases e2 : lexC (key y) (key z) = 0
      · rw [← lex_zero e2] at h3; omega
      · have a1 := lex_anti (key x) (key y)
        have a2 := lex_anti (key y) (key z)
        have a3 := lex_anti (key x) (key z)
        have := lex_trans (show lexC (key z) (key y) < 0 by omega) (show lexC (key y) (key x) < 0 by omega)
        omega
theorem ltT (x y : Lb) (h1 : ltOf cf x y = false) (h2 : ltOf cf y x = false) : x = y := by
  rw [lt_key] at h1 h2
  have h1 := of_decide_eq_false h1
  have h2 := of_decide_eq_false h2
  have a1 := lex_anti (key x) (key y)
  exact key_inj (lex_zero (by omega))
end Go.Proofs.YtffghlbgbfhfdaaGreatDoor

/- LabelSorts: SortFunc of labels. -/
namespace Go.Proofs.YtffghlbgbfhfdaaGreatDoor
open Go.RowKit Go.Shelf Go.Sort
shelf_lay_g SlLaysF0.n6 Slsf 6 at Tryz 54 as Tryz.sortL
/-- What only makes new memory and draws. -/
theorem grown_of {w w' : World} (h : Below w.heap.size w w') (hd : w.drawn ≤ w'.drawn) : ∃ q os, w' = grow (w.drewN q) os := by
  refine ⟨w'.drawn - w.drawn, w'.heap.extract w.heap.size w'.heap.size, ?_⟩
  have hh : w'.heap = w.heap ++ w'.heap.extract w.heap.size w'.heap.size := by
    apply Array.ext_getElem?
    intro i
    by_cases hi : i < w.heap.size
    · rw [Array.getElem?_append_left hi]; exact h.block i hi
    · rw [Array.getElem?_append_right (by omega), Array.getElem?_extract]
      have hs := h.size
      by_cases h2 : i < w'.heap.size
      · rw [if_pos (by simp; omega)]; congr 1; omega
      · rw [if_neg (by simp; omega), Array.getElem?_eq_none (by omega)]
  have h1 := h.os
  have h2 := h.tape
  have h3 := h.output
  unfold grow World.drewN
  cases w
  cases w'
  simp only at hh h1 h2 h3 hd
  simp only [World.mk.injEq]
  subst h1 h2 h3
  exact ⟨hh, rfl, by omega, rfl, rfl⟩
theorem cmp_grow (x y : Lb) (W : World) : Calls Tryz.prog 55 #[.agg (enc x).toArray, .agg (enc y).toArray] W fun e w' => e = .returned (.int .i64 (cf x y)) ∧ ∃ q os', w' = grow (W.drewN q) os' := by
  rw [enc_arr, enc_arr]
  exact (cmpC_any x.h y.h x.s y.s x.hl y.hl W).mono fun e w' ⟨a, b, c⟩ => ⟨a, grown_of b c⟩
theorem cmp_lays (blk off size : Nat) (w : World) : CmpLays Tryz.prog 55 #[] enc 21 cf blk off size w := fun _ _ _ _ x y => cmp_grow x y _
/-- All but one block is as it was. -/
structure But1 (g : Nat) (w w' : World) : Prop where
  os : w'.os = w.os
  tape : w'.tape = w.tape
  output : w'.output = w.output
  size : w.heap.size ≤ w'.heap.size
  block : ∀ j, j < w.heap.size → j ≠ g → w'.heap[j]? = w.heap[j]?
  tag : ∀ C t, w.heap[g]? = some (.cells C t (0, 0)) → ∃ C', w'.heap[g]? = some (.cells C' t (0, 0))
theorem But1.refl (g : Nat) (w : World) : But1 g w w := ⟨rfl, rfl, rfl, Nat.le_refl _, fun _ _ _ => rfl, fun C _ h => ⟨C, h⟩⟩
theorem But1.trans {g : Nat} {a b c : World} (h : But1 g a b) (k : But1 g b c) : But1 g a c :=
  ⟨k.os.trans h.os, k.tape.trans h.tape, k.output.trans h.output, Nat.le_trans h.size k.size, fun j hj hne => (k.block j (Nat.lt_of_lt_of_le hj h.size) hne).trans (h.block j hj hne), fun C t e => let ⟨C1, e1⟩ := h.tag C t e; k.tag C1 t e1⟩
theorem But1.below {g B : Nat} {a b : World} (h : But1 g a b) (hg : B ≤ g) (hB : B ≤ a.heap.size) : Below B a b :=
  ⟨h.os, h.tape, h.output, h.size, fun j hj => h.block j (by omega) (by omega)⟩
theorem But1.of_below {g : Nat} {a b : World} (h : Below a.heap.size a b) : But1 g a b := ⟨h.os, h.tape, h.output, h.size, fun j hj _ => h.block j hj, fun C _ e => ⟨C, (h.block g (Array.getElem?_eq_some_iff.1 e).1).trans e⟩⟩
theorem but_sort (w : World) (g off n : Nat) (d : Array Lb) (os : Array Obj) : But1 g w (sortWorldK enc 21 w g off n d os) := by
  unfold sortWorldK putRowK putRow mapBlock grow
  refine ⟨rfl, rfl, rfl, by simp [Sort.ahead], fun j hj hne => ?_, fun C t e => ?_⟩
  · show ((Sort.ahead w n).heap.modify g _ ++ os)[j]? = _
    rw [Array.getElem?_append_left (by simpa [Sort.ahead] using hj), Array.getElem?_modify, if_neg (Ne.symm hne)]
    rfl
  · have hg : g < w.heap.size := (Array.getElem?_eq_some_iff.1 e).1
    show ∃ C', ((Sort.ahead w n).heap.modify g _ ++ os)[g]? = some (.cells C' t (0, 0))
    rw [Array.getElem?_append_left (by simpa [Sort.ahead] using hg), Array.getElem?_modify, if_pos rfl]
    have e2 : (Sort.ahead w n).heap[g]? = some (.cells C t (0, 0)) := e
    rw [e2]
    exact ⟨_, rfl⟩
theorem enters55 : ∀ args w, (callFunc 55 args).run Tryz.prog w = .ok (.enter 55 args) w := enters_of Tryz.func55 (by kernel_rfl) rfl
/-- The labels in order. -/
def srt (D : List Lb) : List Lb := D.mergeSort fun x y => !(ltOf cf) y x
theorem srt_len (D : List Lb) : (srt D).length = D.length := List.length_mergeSort _
theorem sort_any (D : List Lb) (hn : D.length < 4611686018427387904) (g cap : Nat) (w : World) (hH : HoldsK enc 21 w g 0 D.toArray) (hg : g < w.heap.size) :
    Calls Tryz.prog 54 #[.slice (some ⟨g, 0, none⟩) D.length cap, .func (.func 55) #[] #[]] w fun e w' => e = .returned (.tuple #[]) ∧ HoldsK enc 21 w' g 0 (srt D).toArray ∧ But1 g w w' := by
  have h := AnyQ.slices_SortFunc_total Tryz.sortL 21 Tryz.isAgg51 Tryz.sizeOf51 enc enc_len enc_one cf swo 55 #[] g 0 cap D.toArray w enters55 (cmp_lays g 0 D.toArray.size w) hH hg (by simpa using hn) ltT
  have h' : Calls Tryz.prog 54 #[.slice (some ⟨g, 0, none⟩) D.toArray.size cap, .func (.func 55) #[] #[]] w fun e w' => e = .returned (.tuple #[]) ∧ ∃ n os, w' = sortWorldK enc 21 w g 0 n (srt D).toArray os := h
  rw [List.size_toArray] at h'
  refine h'.mono ?_
  rintro e w' ⟨he, n, os, rfl⟩
  exact ⟨he, holdsK_sortWorldK_c enc 21 w g 0 D.toArray (srt D).toArray n os hH hg (by simp [srt_len]), but_sort w g 0 n _ os⟩
end Go.Proofs.YtffghlbgbfhfdaaGreatDoor

/- LabelSorts: Compact. -/
namespace Go.Proofs.YtffghlbgbfhfdaaGreatDoor
open Go.RowKit Go.Shelf Go.Sort
/-- Labels that lie in a row, one behind the other. -/
def Lr (g o : Nat) (D : List Lb) (w : World) : Prop := ∀ i x, D[i]? = some x → w.rangeAt g (o + i * 21) (enc x)
theorem size29 : (Tryz.prog.info? 51).map (·.size) = some 21 := by kernel_rfl
theorem holds_lr {g : Nat} {D : List Lb} {w : World} (h : HoldsK enc 21 w g 0 D.toArray) : Lr g 0 D w ∧ w.there g 0 (D.length * 21) := by
  refine ⟨fun i x hx j v hv => ?_, fun j hj => ?_⟩
  · have hi : i < D.length := (List.getElem?_eq_some_iff.1 hx).1
    have hj : j < 21 := by have := (List.getElem?_eq_some_iff.1 hv).1; rwa [enc_len] at this
    have := (h.cell (i := i) (c := j) (by simpa using hi) hj).1
    rw [this]
    have e : D.toArray[i]! = x := by
      rw [getElem!_pos _ i (by simpa using hi)]
      have := (List.getElem?_eq_some_iff.1 hx).2
      simpa using this
    rw [e]
    have e2 := List.getElem?_eq_some_iff.1 hv
    rw [getElem!_pos _ j e2.1, e2.2]
  · have h2 := h.cell (i := j / 21) (c := j % 21) (by simp; omega) (by omega)
    rw [show 0 + j / 21 * 21 + j % 21 = 0 + j by omega] at h2
    exact ⟨by rw [h2.1]; rfl, h2.2⟩
theorem toLd (v : Value) : Instr.loadAt 51 v = loadR 51 v := rfl
theorem run_ldx (w : World) (g o : Nat) (x : Lb) (h : w.rangeAt g o (enc x)) : (loadR 51 (.pointer (some ⟨g, o, none⟩))).run Tryz.prog w = .ok (.agg (lab x.h x.s)) w := by
  have := run_loadAt_mid (P := Tryz.prog) w g o 51 (enc x) _ h under25 rfl (by rw [size29, enc_len])
  rw [enc_arr] at this
  exact this
theorem toSt (p v : Value) : Instr.storeAt 51 p v = storeR 51 p v := rfl
theorem run_stx (w : World) (g o : Nat) (x : Lb) (h : w.there g o 21) : (storeR 51 (.pointer (some ⟨g, o, none⟩)) (.agg (lab x.h x.s))).run Tryz.prog w = .ok () (w.setCells g o (enc x)) := by
  have := run_storeAt_mid (P := Tryz.prog) w g o 51 (enc x).toArray (by simpa [enc_len] using h) (by rw [size29]; simp [enc_len]) (all_oneCell_toArray (enc_one x))
  rw [enc_arr] at this
  have e : (lab x.h x.s).toList = enc x := rfl
  rw [e] at this
  exact this
theorem dd_cc (x y : Lb) (r : List Lb) : dd (x :: y :: r) = if x = y then dd (y :: r) else x :: dd (y :: r) := by rw [dd]
theorem dd_snoc (x y : Lb) : ∀ l : List Lb, dd (l ++ [y, x]) = if x = y then dd (l ++ [y]) else dd (l ++ [y]) ++ [x]
  | [] => by
    show dd (y :: x :: []) = if x = y then dd [y] else dd [y] ++ [x]
    rw [dd_cc]
    by_cases h : x = y
    · rw [if_pos h.symm, if_pos h, h]
    · rw [if_neg (fun e => h e.symm), if_neg h]; rfl
  | [z] => by
    have ih := dd_snoc x y []
    have ih' : dd (y :: [x]) = if x = y then dd [y] else dd [y] ++ [x] := ih
    show dd (z :: y :: [x]) = if x = y then dd (z :: y :: []) else dd (z :: y :: []) ++ [x]
    rw [dd_cc z y [x], dd_cc z y [], ih']
    by_cases h : x = y
    · rw [if_pos h, if_pos h]
    · rw [if_neg h, if_neg h]
      by_cases hz : z = y
      · rw [if_pos hz, if_pos hz]
      · rw [if_neg hz, if_neg hz]; rfl
  | z :: u :: l => by
    have ih := dd_snoc x y (u :: l)
    have ih' : dd (u :: (l ++ [y, x])) = if x = y then dd (u :: (l ++ [y])) else dd (u :: (l ++ [y])) ++ [x] := ih
    show dd (z :: u :: (l ++ [y, x])) = if x = y then dd (z :: u :: (l ++ [y])) else dd (z :: u :: (l ++ [y])) ++ [x]
    rw [dd_cc z u (l ++ [y, x]), dd_cc z u (l ++ [y]), ih']
    by_cases h : x = y
    · rw [if_pos h, if_pos h]
    · rw [if_neg h, if_neg h]
      by_cases hz : z = u
      · rw [if_pos hz, if_pos hz]
      · rw [if_neg hz, if_neg hz]; rfl
theorem take_snoc {D : List Lb} {k : Nat} (h : k + 1 < D.length) : D.take (k + 2) = D.take k ++ [D.getD k default, D.getD (k + 1) default] ∧ D.take (k + 1) = D.take k ++ [D.getD k default] := by
  have h2 : D.take (k + 1) = D.take k ++ [D.getD k default] := by rw [List.take_succ_eq_append_getElem (by omega)]; simp [List.getD, List.getElem?_eq_getElem (show k < D.length by omega)]
  refine ⟨?_, h2⟩
  rw [List.take_succ_eq_append_getElem (by omega), h2]
  simp [List.getD, List.getElem?_eq_getElem (show k + 1 < D.length by omega)]
/-- The next label joins, or not. -/
theorem dd_take {D : List Lb} {k : Nat} (h : k + 1 < D.length) : dd (D.take (k + 2)) = if D.getD (k + 1) default = D.getD k default then dd (D.take (k + 1)) else dd (D.take (k + 1)) ++ [D.getD (k + 1) default] := by
  obtain ⟨h1, h2⟩ := take_snoc h
  rw [h1, h2]
  exact dd_snoc _ _ _
theorem dd_one (D : List Lb) : dd (D.take 1) = D.take 1 := by
  cases D with
  | nil => rfl
  | cons x r => rfl
/-- The cells of some zero labels. -/
theorem run_clearK (w : World) (b o m c : Nat) (hm : 0 < m) (hT : w.there b o (m * 21)) : ∃ vs : List Value, vs.length = m * 21 ∧ ∀ ty, (Builtin.clear_ #[22] ty #[.slice (some ⟨b, o, none⟩) m c]).run Tryz.prog w = .ok (.tuple #[]) (w.setCells b o vs) := by
  obtain ⟨k, rfl⟩ : ∃ k, m = k + 1 := ⟨m - 1, by omega⟩
  have hz : ∀ w, (zeroValue 51).run Tryz.prog w = .ok (.agg (lab z20 ⟨#[]⟩)) w := fun w => by kernel_rfl
  have hs : (Builtin.zeroCells (Value.agg (lab z20 ⟨#[]⟩)).cells (k + 1)).toList.length = (k + 1) * 21 := by
    simp [Builtin.zeroCells, Value.cells, lab_size z20 ⟨#[]⟩ rfl]
  have h1 : ∀ v ∈ (Builtin.zeroCells (Value.agg (lab z20 ⟨#[]⟩)).cells (k + 1)).toList, v.oneCell' = true := by
    intro v hv
    have hz : (Value.agg (lab z20 ⟨#[]⟩)).cells = lab z20 ⟨#[]⟩ := rfl
    rw [hz] at hv
    simp only [Builtin.zeroCells, Array.toList_map, List.mem_map] at hv
    obtain ⟨i, _, rfl⟩ := hv
    have hsz := lab_size z20 ⟨#[]⟩ rfl
    have hlt : i % (lab z20 ⟨#[]⟩).size < (lab z20 ⟨#[]⟩).size := Nat.mod_lt _ (by omega)
    rw [getElem!_pos (lab z20 ⟨#[]⟩) _ hlt]
    exact enc_one ⟨z20, ⟨#[]⟩, rfl⟩ _ (Array.getElem_mem_toList hlt)
  refine ⟨_, hs, fun ty => ?_⟩
  have hst := run_storeCells_cells (P := Tryz.prog) b o (Builtin.zeroCells (Value.agg (lab z20 ⟨#[]⟩)).cells (k + 1)).toList 0 w (fun j hj => by rw [Nat.add_zero]; exact (hT j (by rw [← hs]; exact hj)).1) (fun j hj => by rw [Nat.add_zero]; exact (hT j (by rw [← hs]; exact hj)).2) h1
  simp only [Nat.add_zero] at hst
  simp [Builtin.clear_, run_underlying Tryz.underlying22, hz, hst]
theorem But1.setCell {g i : Nat} {a w : World} (h : But1 g a w) (v : Value) : But1 g a (w.setCell ⟨g, i, none⟩ v) :=
  ⟨h.os, h.tape, h.output, by simpa [World.setCell] using h.size, fun j hj hne => (heap_setCell_other _ _ _ _ hne).trans (h.block j hj hne), fun C t e => let ⟨_, e1⟩ := h.tag C t e; ⟨_, heap_setCell_same w g i _ _ v e1⟩⟩
theorem But1.setCells {g : Nat} {a : World} : ∀ (vs : List Value) (o : Nat) {w : World}, But1 g a w → But1 g a (w.setCells g o vs)
  | [], _, _, h => h
  | v :: r, o, _, h => by
    unfold World.setCells
    exact But1.setCells r (o + 1) (h.setCell v)
theorem But1.drewN {g : Nat} {a w : World} (h : But1 g a w) (n : Nat) : But1 g a (w.drewN n) := ⟨h.os, h.tape, h.output, h.size, h.block, h.tag⟩
theorem lr_set {g : Nat} {A : List Lb} {w : World} {k : Nat} {x : Lb} (h : Lr g 0 A w) (hk : k < A.length) (ht : w.there g 0 (A.length * 21)) : Lr g 0 (A.set k x) (w.setCells g (k * 21) (enc x)) := by
  intro i y hy
  rw [Nat.zero_add]
  by_cases e : i = k
  · subst e
    rw [List.getElem?_set_self hk] at hy
    obtain rfl := Option.some.inj hy
    exact World.rangeAt_setCells_same w g (i * 21) (enc x) (fun j hj => by
      rw [enc_len] at hj
      have := ht (i * 21 + j) (by omega)
      rw [Nat.zero_add] at this
      exact this)
  · rw [List.getElem?_set_ne (fun q => e q.symm)] at hy
    have := h i y hy
    rw [Nat.zero_add] at this
    refine World.rangeAt_setCells_apart this g (k * 21) (enc x) (.inr ?_)
    rw [enc_len, enc_len]
    omega
def slLR (v : Value) (lo hi mx : Option Value) : Sem Value := Instr.slice 22 v lo hi mx
theorem toSlL (v : Value) (lo hi mx : Option Value) : Instr.slice 22 v lo hi mx = slLR v lo hi mx := rfl
theorem elemL : Tryz.prog.elem 22 = 51 := by kernel_rfl
theorem uL : Tryz.prog.underlying 22 = some (.slice (Tryz.prog.elem 22)) := by rw [elemL]; exact Tryz.underlying22
theorem run_cutl (w : World) (g o n c k : Nat) (hk : k ≤ n) (hc : k < c) : (slLR (.slice (some ⟨g, o, none⟩) n c) (some (.int .i64 (k : Int))) none none).run Tryz.prog w = .ok (.slice (some ⟨g, o + k * 21, none⟩) (n - k) (c - k)) w := by
  have := run_slice_l (P := Tryz.prog) w 22 (some ⟨g, o, none⟩) n c uL .i64 (k : Int) (by omega) (by omega)
  unfold slLR
  rw [this, elemL, Tryz.sizeOf51]
  simp only [Result.andThen, sliced, Int.toNat_natCast]
  rw [if_neg (by omega)]
  simp [Addr.add_mid]
theorem run_cuth (w : World) (g o n c k : Nat) (hk : k ≤ c) : (slLR (.slice (some ⟨g, o, none⟩) n c) none (some (.int .i64 (k : Int))) none).run Tryz.prog w = .ok (.slice (some ⟨g, o, none⟩) k c) w := by
  have := run_slice_h (P := Tryz.prog) w 22 (some ⟨g, o, none⟩) n c uL .i64 (k : Int) (by omega) (by omega)
  unfold slLR
  rw [this, elemL, Tryz.sizeOf51]
  simp only [Result.andThen, sliced, Int.toNat_natCast]
  by_cases h : c = 0
  · rw [if_pos h]; simp
  · rw [if_neg h]; simp [Addr.add_mid]
end Go.Proofs.YtffghlbgbfhfdaaGreatDoor

/- LabelSorts: Compact, the walk. -/
namespace Go.Proofs.YtffghlbgbfhfdaaGreatDoor
open Go.RowKit Go.Shelf Go.Sort
/-- The row while twins are dropped. -/
structure Cp (g : Nat) (D A : List Lb) (k0 k k2 : Nat) (w wr : World) : Prop where
  len : A.length = D.length
  pre : A.take k = dd (D.take (k0 + k2))
  kl : k = (dd (D.take (k0 + k2))).length
  post : ∀ i, k0 + k2 ≤ i + 1 → A[i]? = D[i]?
  kle : k + 1 ≤ k0 + k2
  row : Lr g 0 A wr
  th : wr.there g 0 (D.length * 21)
  but : But1 g w wr
theorem getD_of {D : List Lb} {i : Nat} {x : Lb} (h : D[i]? = some x) : D.getD i default = x := by simp [List.getD, h]
theorem Cp.same {g : Nat} {D A : List Lb} {k0 k k2 : Nat} {w wr : World} (h : Cp g D A k0 k (k2 + 1) w wr) (hb : k0 + k2 + 1 < D.length) {x : Lb} (hx : D[k0 + k2 + 1]? = some x) (hy : D[k0 + k2]? = some x) (q : Nat) : Cp g D A k0 k (k2 + 2) w (wr.drewN q) := by
  have hd := dd_take (D := D) (k := k0 + k2) hb
  rw [getD_of hx, getD_of hy, if_pos rfl] at hd
  have e : k0 + (k2 + 2) = k0 + k2 + 2 := by omega
  have e1 : k0 + (k2 + 1) = k0 + k2 + 1 := by omega
  have pre := h.pre
  have kl := h.kl
  rw [e1] at pre kl
  exact ⟨h.len, by rw [e, hd]; exact pre, by rw [e, hd]; exact kl, fun i hi => h.post i (by omega), by have := h.kle; omega, h.row, h.th, h.but.drewN q⟩
theorem Cp.next {g : Nat} {D A : List Lb} {k0 k k2 : Nat} {w wr : World} (h : Cp g D A k0 k (k2 + 1) w wr) (hb : k0 + k2 + 1 < D.length) {x y : Lb} (hx : D[k0 + k2 + 1]? = some x) (hy : D[k0 + k2]? = some y) (hne : x ≠ y) (q : Nat) : Cp g D (A.set k x) k0 (k + 1) (k2 + 2) w ((wr.drewN q).setCells g (k * 21) (enc x)) := by
  have hd := dd_take (D := D) (k := k0 + k2) hb
  rw [getD_of hx, getD_of hy, if_neg hne] at hd
  have e : k0 + (k2 + 2) = k0 + k2 + 2 := by omega
  have e1 : k0 + (k2 + 1) = k0 + k2 + 1 := by omega
  have pre := h.pre
  have kl := h.kl
  rw [e1] at pre kl
  have kle := h.kle
  have hkA : k < A.length := by rw [h.len]; omega
  refine ⟨by rw [List.length_set]; exact h.len, ?_, by rw [e, hd, List.length_append, ← kl]; rfl, fun i hi => ?_, by omega, ?_, ?_, (h.but.drewN q).setCells _ _⟩
  · rw [e, hd, ← pre, List.take_succ_eq_append_getElem (by rw [List.length_set]; exact hkA), List.take_set_of_le (by omega)]
    simp
  · rw [List.getElem?_set_ne (by omega)]
    exact h.post i (by omega)
  · exact lr_set (w := wr.drewN q) h.row hkA (by rw [h.len]; exact h.th)
  · exact World.there_setCells (w := wr.drewN q) h.th g (k * 21) (enc x)
theorem lr_take {g : Nat} {A : List Lb} {w : World} (h : Lr g 0 A w) (k : Nat) : Lr g 0 (A.take k) w := fun i x hx => h i x (by
  have := (List.getElem?_eq_some_iff.1 hx).1
  rw [List.getElem?_take, if_pos (by simp at this; omega)] at hx
  exact hx)
theorem lr_apart {g o : Nat} {A : List Lb} {w : World} (h : Lr g 0 A w) (vs : List Value) (ho : A.length * 21 ≤ o) : Lr g 0 A (w.setCells g o vs) := fun i x hx => by
  have hi := (List.getElem?_eq_some_iff.1 hx).1
  exact World.rangeAt_setCells_apart (h i x hx) g o vs (.inr (.inl (by rw [enc_len]; omega)))
attribute [local go_sem ↓] toLd toSt toEq toSlL
def clR (ty : Nat) (vs : Array Value) : Sem Value := Builtin.clear_ #[22] ty vs
theorem toCl (ty : Nat) (vs : Array Value) : Builtin.clear_ #[22] ty vs = clR ty vs := rfl
attribute [local go_sem ↓] toCl
set_option maxRecDepth 100000 in
set_option maxHeartbeats 4000000 in
theorem compact_any (D : List Lb) (hn : D.length ≤ 4398046511104) (g c : Nat) (hc : D.length ≤ c) (w : World) (hL : Lr g 0 D w) (hT : w.there g 0 (D.length * 21)) :
    Calls Tryz.prog 56 #[.slice (some ⟨g, 0, none⟩) D.length c] w fun e w' => e = .returned (.slice (some ⟨g, 0, none⟩) (dd D).length c) ∧ (dd D).length ≤ c ∧ Lr g 0 (dd D) w' ∧ But1 g w w' := by
  by_cases h2 : D.length < 2
  · have h2' : (D.length : Int) < 2 := by omega
    have hd : dd D = D := by
      match D, h2 with
      | [], _ => rfl
      | [x], _ => rfl
    go_enter Tryz.func56, Tryz.ntmps56
    go_wp2
    go_ret
    exact ⟨by rw [hd]; rfl, by rw [hd]; exact hc, by rw [hd]; exact hL, But1.refl _ _⟩
  have h2' : ¬ ((D.length : Int) < 2) := by omega
  have HL : Hid (Lr g 0 D w) := hL
  have HT : Hid (w.there g 0 (D.length * 21)) := hT
  clear hL hT
  obtain ⟨n, hn0⟩ : ∃ n, n = D.length := ⟨_, rfl⟩
  rw [← hn0] at h2' h2 hn hc
  have HN : Hid (n = D.length) := hn0
  rw [← hn0]
  clear hn0
  go_enter Tryz.func56, Tryz.ntmps56
  go_wp2_with fail
  go_loopw [3] (fun iv wr => ∃ k : Nat, iv = .int .i64 ((k : Int)) ∧ 1 ≤ k ∧ k ≤ n ∧ Hid (dd (D.take k) = D.take k) ∧ Hid (∃ q, wr = w.drewN q)) (fun iv _ => n - (intOf iv).toNat)
  case atStart => exact ⟨1, rfl, by omega, by omega, dd_one D, ⟨0, rfl⟩⟩
  case round =>
    obtain ⟨k, rfl, hk1, hkn, HD, HQ⟩ := hrel
    have HB : Hid (But1 g w wr ∧ Lr g 0 D wr ∧ wr.there g 0 (D.length * 21)) := by
      obtain ⟨q, rfl⟩ := HQ.out
      exact ⟨(But1.refl g w).drewN q, HL.out, HT.out⟩
    by_cases hlt : k < n
    · have hlt' : (k : Int) < (n : Int) := by omega
      have hk0 : (0 : Int) ≤ (k : Int) := by omega
      obtain ⟨j, hkj⟩ : ∃ j, k = j + 1 := ⟨k - 1, by omega⟩
      obtain ⟨x, hx⟩ : ∃ x, D[k]? = some x := ⟨_, List.getElem?_eq_getElem (by have := HN.out; omega)⟩
      obtain ⟨y, hy⟩ : ∃ y, D[j]? = some y := ⟨_, List.getElem?_eq_getElem (by have := HN.out; omega)⟩
      have lx := fun q => run_ldx (wr.drewN q) g _ x (HB.out.2.1 _ _ hx)
      have ly := fun q => run_ldx (wr.drewN q) g _ y (HB.out.2.1 _ _ hy)
      have heq := fun q => run_eqR (wr.drewN q) x.h y.h x.s y.s x.hl y.hl
      have hj1 : IntKind.i64.wrap ((k : Int) - 1) = (j : Int) := by rw [IntKind.wrap_i64]; omega
      have hj0 : (0 : Int) ≤ (j : Int) := by omega
      have hjn : (j : Int) < (n : Int) := by omega
      have HX : Hid (D[k]? = some x ∧ D[j]? = some y) := ⟨hx, hy⟩
      have HJ : Hid (k = j + 1) := hkj
      clear hx hy hkj
      simp only [Nat.zero_add] at lx ly
      by_cases hxy : x = y
      · have he : (decide (x.h = y.h ∧ x.s = y.s)) = true := by subst hxy; simp
        rw [he] at heq
        have HXY : Hid (x = y) := hxy
        clear he hxy
        have cl := fun q => run_cutl (wr.drewN q) g 0 n c k (by omega) (by omega)
        simp only [Nat.zero_add] at cl
        go_wp2_with fail
        go_quiet (fail)
        clear lx ly heq
        have HC0 : Hid (Cp g D D k k 1 w (wr.drewN nq)) := by
          have hd := dd_take (D := D) (k := j) (by have := HN.out; have := HJ.out; omega)
          have hx := HX.out.1
          rw [HJ.out] at hx
          rw [getD_of hx, getD_of HX.out.2, if_pos HXY.out] at hd
          have hk2 : k + 1 = j + 2 := by have := HJ.out; omega
          have hdk : dd (D.take (j + 1)) = D.take (j + 1) := by have := HD.out; rw [HJ.out] at this; exact this
          refine ⟨rfl, by rw [hk2, hd, hdk, HJ.out], ?_, fun _ _ => rfl, by omega, HB.out.2.1, HB.out.2.2, HB.out.1.drewN nq⟩
          rw [hk2, hd, hdk, List.length_take]
          have := HJ.out
          have := HN.out
          omega
        go_wp2_with fail
        go_loopw [3, 5] (fun kv iv wq => ∃ (kk k2 : Nat) (A : List Lb), kv = .int .i64 (kk : Int) ∧ iv = .int .i64 ((k2 : Int)) ∧ 1 ≤ k2 ∧ k + k2 ≤ n ∧ kk < n ∧ Hid (Cp g D A k kk k2 w wq)) (fun _ iv _ => n - (intOf iv).toNat)
        case atStart => exact ⟨k, 1, D, rfl, rfl, by omega, by omega, by omega, HC0⟩
        case round =>
          clear HC0
          obtain ⟨kk, k2, A, rfl, rfl, hk2, hk2n, hkkn, HC⟩ := hrel
          by_cases hl2 : k + k2 < n
          · have hl2' : (k2 : Int) < ((n - k : Nat) : Int) := by omega
            have hk20 : (0 : Int) ≤ (k2 : Int) := by omega
            obtain ⟨m, hm⟩ : ∃ m, k2 = m + 1 := ⟨k2 - 1, by omega⟩
            obtain ⟨u, hu⟩ : ∃ u, D[k + k2]? = some u := ⟨_, List.getElem?_eq_getElem (by have := HN.out; omega)⟩
            obtain ⟨v, hv⟩ : ∃ v, D[k + m]? = some v := ⟨_, List.getElem?_eq_getElem (by have := HN.out; omega)⟩
            have ru := HC.out.row (k + k2) u ((HC.out.post _ (by omega)).trans hu)
            have rv := HC.out.row (k + m) v ((HC.out.post _ (by omega)).trans hv)
            rw [Nat.zero_add, Nat.add_mul] at ru rv
            have lu := fun q => run_ldx (wr.drewN q) g _ u ru
            have lv := fun q => run_ldx (wr.drewN q) g _ v rv
            have heq := fun q => run_eqR (wr.drewN q) u.h v.h u.s v.s u.hl v.hl
            have hm1 : IntKind.i64.wrap ((k2 : Int) - 1) = (m : Int) := by rw [IntKind.wrap_i64]; omega
            have hm0 : (0 : Int) ≤ (m : Int) := by omega
            have hmn : (m : Int) < ((n - k : Nat) : Int) := by omega
            have HM : Hid (k2 = m + 1) := hm
            have HU : Hid (D[k + k2]? = some u ∧ D[k + m]? = some v) := ⟨hu, hv⟩
            have hkk0 : (0 : Int) ≤ (kk : Int) := by omega
            have hkkn' : (kk : Int) < (n : Int) := by omega
            clear hm hu hv ru rv
            by_cases huv : u = v
            · have he : (decide (u.h = v.h ∧ u.s = v.s)) = true := by subst huv; simp
              rw [he] at heq
              have HUV : Hid (u = v) := huv
              clear he huv
              go_wp2_with fail
              go_quiet (fail)
              clear lu lv heq
              have HC2 : Hid (Cp g D A k kk (k2 + 1) w (wr.drewN nq)) := by
                have hm := HM.out
                have h1 := HU.out.1
                have h2 := HU.out.2
                rw [← HUV.out] at h2
                rw [hm] at h1
                have hc := HC.out
                rw [hm] at hc ⊢
                exact hc.same (by have := HN.out; omega) h1 h2 nq
              clear HC
              go_wp2
              exact ⟨⟨kk, k2 + 1, A, rfl, by rfl, by omega, by omega, hkkn, HC2⟩, by simp only [intOf]; omega⟩
            · have he : (decide (u.h = v.h ∧ u.s = v.s)) = false := decide_eq_false (fun h => huv (Lb.ext' h.1 h.2))
              rw [he] at heq
              have st := fun q => run_stx (wr.drewN q) g (kk * 21) u (fun j hj => by
                have := HC.out.th (kk * 21 + j) (by have := HN.out; omega)
                rw [Nat.zero_add] at this
                exact this)
              have HUV : Hid (u ≠ v) := huv
              clear he huv
              go_wp2_with fail
              go_quiet (fail)
              clear lv heq
              have HC2 : Hid (Cp g D (A.set kk u) k (kk + 1) (k2 + 1) w ((wr.drewN nq).setCells g (kk * 21) (enc u))) := by
                have hm := HM.out
                have h1 := HU.out.1
                rw [hm] at h1
                have hc := HC.out
                rw [hm] at hc ⊢
                exact hc.next (by have := HN.out; omega) h1 HU.out.2 HUV.out nq
              have hkk2 : kk + 1 < n := by have := HC.out.kle; omega
              clear HC
              go_wp2
              exact ⟨⟨kk + 1, k2 + 1, A.set kk u, by rfl, by rfl, by omega, by omega, hkk2, HC2⟩, by simp only [intOf]; omega⟩
          · have hl2' : ¬ ((k2 : Int) < ((n - k : Nat) : Int)) := by omega
            have hke : k + k2 = n := by omega
            have HE : Hid (A.take kk = dd D ∧ kk = (dd D).length) := by
              have h1 := HC.out.pre
              have h2 := HC.out.kl
              have hD : D.take n = D := List.take_of_length_le (by have := HN.out; omega)
              rw [hke, hD] at h1 h2
              exact ⟨h1, h2⟩
            have cl2 := run_cutl wr g 0 n c kk (by omega) (by omega)
            obtain ⟨vs, hvl, hcl⟩ := run_clearK wr g (0 + kk * 21) (n - kk) (c - kk) (by omega) (fun j hj => by
              have := HC.out.th (kk * 21 + j) (by have := HN.out; omega)
              rw [Nat.zero_add] at this
              rw [Nat.zero_add]
              exact this)
            have ch := fun W : World => run_cuth W g 0 n c kk (by omega)
            have HF : Hid ((dd D).length ≤ c ∧ Lr g 0 (dd D) (wr.setCells g (kk * 21) vs) ∧ But1 g w (wr.setCells g (kk * 21) vs)) := by
              refine ⟨by rw [← HE.out.2]; omega, ?_, HC.out.but.setCells _ _⟩
              rw [← HE.out.1]
              exact lr_apart (lr_take HC.out.row kk) vs (by rw [List.length_take]; have := HC.out.len; have := HN.out; omega)
            simp only [Nat.zero_add, toCl] at cl2 hcl
            clear HC
            go_wp2_with fail
            go_ret
            exact ⟨by rw [← HE.out.2]; rfl, HF.out⟩
      · have he : (decide (x.h = y.h ∧ x.s = y.s)) = false := decide_eq_false (fun h => hxy (Lb.ext' h.1 h.2))
        rw [he] at heq
        have HXY : Hid (x ≠ y) := hxy
        clear he hxy
        go_wp2_with fail
        go_quiet (fail)
        clear lx ly heq
        have HD2 : Hid (dd (D.take (k + 1)) = D.take (k + 1)) := by
          show _ = _
          have hb : j + 1 < D.length := by have := HN.out; have := HJ.out; omega
          have hd := dd_take (D := D) (k := j) hb
          have hx := HX.out.1
          rw [HJ.out] at hx
          rw [getD_of hx, getD_of HX.out.2, if_neg HXY.out] at hd
          have hdk : dd (D.take (j + 1)) = D.take (j + 1) := by have := HD.out; rw [HJ.out] at this; exact this
          rw [HJ.out]
          show dd (D.take (j + 2)) = D.take (j + 2)
          rw [hd, hdk, (take_snoc hb).1, (take_snoc hb).2, getD_of hx]
          simp
        have HQ2 : Hid (∃ q, wr.drewN nq = w.drewN q) := by
          obtain ⟨q, hq⟩ := HQ.out
          exact ⟨q + nq, by rw [hq]; unfold World.drewN; simp [Nat.add_assoc]⟩
        clear HD HQ HB
        go_wp2
        exact ⟨⟨k + 1, by rfl, by omega, by omega, HD2, HQ2⟩, by simp only [intOf]; omega⟩
    · have hlt' : ¬ ((k : Int) < (n : Int)) := by omega
      have HE : Hid (dd D = D) := by have := HD.out; rw [List.take_of_length_le (by have := HN.out; omega)] at this; exact this
      go_wp2
      go_ret
      have hb := HB.out
      rw [HE.out]
      exact ⟨by rw [← HN.out]; rfl, by rw [← HN.out]; exact hc, hb.2.1, hb.1⟩
end Go.Proofs.YtffghlbgbfhfdaaGreatDoor

/- LabelSorts: Sort, the code's. -/
namespace Go.Proofs.YtffghlbgbfhfdaaGreatDoor
open Go.RowKit Go.Shelf Go.Sort
/-- A slice of labels. -/
def Ls (v : Value) (L : List Lb) (w : World) : Prop := (L = [] ∧ ∃ o c, v = .slice o 0 c ∧ c ≤ maxLen ∧ (o = none → c = 0)) ∨ ∃ b off cap, v = .slice (some ⟨b, off, none⟩) L.length cap ∧ L.length ≤ cap ∧ cap ≤ maxLen ∧ b < w.heap.size ∧ Lr b off L w
theorem Lr.keep {g o : Nat} {L : List Lb} {w w' : World} (h : Lr g o L w) (hb : w'.heap[g]? = w.heap[g]?) : Lr g o L w' := fun i x hx j v hv => (World.cell?_of_block (w := w) hb).trans (h i x hx j v hv)
theorem Ls.keep {v : Value} {L : List Lb} {w w' : World} (h : Ls v L w) (hs : w.heap.size ≤ w'.heap.size) (hb : ∀ j, j < w.heap.size → w'.heap[j]? = w.heap[j]?) : Ls v L w' := by
  rcases h with h | ⟨b, off, cap, h1, h2, h3, h4, h5⟩
  · exact .inl h
  · exact .inr ⟨b, off, cap, h1, h2, h3, by omega, h5.keep (hb b h4)⟩
theorem Ls.below {v : Value} {L : List Lb} {w w' : World} (h : Ls v L w) (hb : Below w.heap.size w w') : Ls v L w' := h.keep hb.size hb.block
theorem Ls.form {v : Value} {L : List Lb} {w : World} (h : Ls v L w) : ∃ o c, v = .slice o L.length c ∧ L.length ≤ c ∧ c ≤ maxLen := by
  rcases h with ⟨rfl, o, c, rfl, hc, _⟩ | ⟨b, off, cap, rfl, h2, h3, _⟩
  · exact ⟨o, c, rfl, Nat.zero_le _, hc⟩
  · exact ⟨_, cap, rfl, h2, h3⟩
def cells (L : List Lb) : List Value := (flatK enc 21 L.toArray).toList
theorem cells_len (L : List Lb) : (cells L).length = L.length * 21 := by simp [cells]
theorem cells_get (L : List Lb) (j : Nat) (hj : j < L.length * 21) : ∃ x, L[j / 21]? = some x ∧ (cells L)[j]? = (enc x)[j % 21]? := by
  have hi : j / 21 < L.length := by omega
  refine ⟨L[j / 21], List.getElem?_eq_getElem hi, ?_⟩
  have h1 : j < (flatK enc 21 L.toArray).size := by simpa using hj
  unfold cells
  rw [Array.getElem?_toList, Array.getElem?_eq_getElem h1]
  have h2 := get_flatK enc 21 L.toArray j (by simpa using hj)
  rw [getElem!_pos _ j h1] at h2
  rw [h2]
  have h3 : L.toArray[j / 21]! = L[j / 21] := by rw [getElem!_pos _ _ (by simpa using hi)]; simp
  rw [h3]
  have h4 : j % 21 < (enc L[j / 21]).length := by rw [enc_len]; omega
  rw [getElem!_pos (enc L[j / 21]) _ h4, List.getElem?_eq_getElem h4]
theorem cells_one (L : List Lb) : ∀ v ∈ cells L, v.oneCell' = true := by
  intro v hv
  obtain ⟨j, hj, rfl⟩ := List.getElem_of_mem hv
  have hj2 : j < L.length * 21 := by rw [← cells_len]; exact hj
  obtain ⟨x, _, h2⟩ := cells_get L j hj2
  rw [List.getElem?_eq_getElem hj] at h2
  exact enc_one x _ (List.mem_of_getElem? h2.symm)
theorem lr_cells {b off : Nat} {L : List Lb} {w : World} (h : Lr b off L w) (j : Nat) (v : Value) (hv : (cells L)[j]? = some v) : w.cell? ((⟨b, off, none⟩ : Addr).add j) = some v := by
  have hj : j < L.length * 21 := by rw [← cells_len]; exact (List.getElem?_eq_some_iff.1 hv).1
  obtain ⟨x, h1, h2⟩ := cells_get L j hj
  rw [Addr.add_mid]
  have := h _ x h1 (j % 21) v (h2.symm.trans hv)
  rw [show off + j / 21 * 21 + j % 21 = off + j by omega] at this
  exact this
def mkL (l c : Value) : Sem Value := Instr.makeSlice 22 l c
theorem toMkL (l c : Value) : Instr.makeSlice 22 l c = mkL l c := rfl
theorem info29 : (Tryz.prog.info? 51).map (fun i => (i.zero, i.size, i.bytes)) = some (some (.agg (lab z20 ⟨#[]⟩)), 21, 40) := by kernel_rfl
theorem run_mkL (w : World) (n : Nat) (hn : n ≤ 4398046511104) : ∃ w', (mkL (.int .i64 (n : Int)) (.int .i64 (n : Int))).run Tryz.prog w = .ok (.slice (some ⟨w.heap.size, 0, none⟩) n n) w' ∧ (∃ C : Array Value, C.size = n * 21 ∧ w'.heap[w.heap.size]? = some (.cells C 51 (0, 0))) ∧ Below w.heap.size w w' := by
  obtain ⟨i0, hi0, hz0, hz1, hz2⟩ := info_parts info29
  have hr := run_make (P := Tryz.prog) w 22 51 i0 _ Tryz.underlying22 hi0 hz0 .i64 .i64 n n (by omega) (Int.le_refl _) (by rw [hz2]; omega) (by omega)
  simp only [Int.toNat_natCast] at hr
  refine ⟨_, hr, ⟨_, ?_, heap_alloc_new w _⟩, (Below.refl _ w).alloc (Nat.le_refl _) _⟩
  rw [size_madeCells, hz1]
def cpL (ty : Nat) (vs : Array Value) : Sem Value := Builtin.copy_ #[22, 22] ty vs
theorem toCp (ty : Nat) (vs : Array Value) : Builtin.copy_ #[22, 22] ty vs = cpL ty vs := rfl
theorem run_cpL (w : World) (ty g b off c n cap : Nat) (cs : List Value) (hn : cs.length = n * 21) (hsrc : ∀ j v, cs[j]? = some v → w.cell? ((⟨b, off, none⟩ : Addr).add j) = some v) (ht : w.there g 0 (n * 21)) (h1 : ∀ v ∈ cs, v.oneCell' = true) :
    (cpL ty #[.slice (some ⟨g, 0, none⟩) n c, .slice (some ⟨b, off, none⟩) n cap]).run Tryz.prog w = .ok (goInt n) (w.setCells g 0 cs) := by
  have hl := run_loadCells_list (P := Tryz.prog) w ⟨b, off, none⟩ cs hsrc
  have hst := run_storeCells_cells (P := Tryz.prog) g 0 cs 0 w (fun j hj => by rw [Nat.add_zero]; exact (ht j (by omega)).1) (fun j hj => by rw [Nat.add_zero]; exact (ht j (by omega)).2) h1
  have hs := size29
  unfold cpL
  cases hq : Tryz.prog.info? 51 with
  | none => simp [hq] at hs
  | some i =>
    have hi : i.size = 21 := by simpa [hq] using hs
    rw [hn] at hl
    simp [Builtin.copy_, run_underlying Tryz.underlying22, Builtin.lenOf, Builtin.firstCells, sizeOf, typeInfo, hq, hi, hl, hst]
theorem run_cpL0 (w : World) (ty g c c' : Nat) (o : Option Addr) : (cpL ty #[.slice (some ⟨g, 0, none⟩) 0 c, .slice o 0 c']).run Tryz.prog w = .ok (goInt 0) w := by
  have hs := size29
  unfold cpL
  cases hq : Tryz.prog.info? 51 with
  | none => simp [hq] at hs
  | some i =>
    cases o with
    | none => simp [Builtin.copy_, run_underlying Tryz.underlying22, Builtin.lenOf, Builtin.firstCells, sizeOf, typeInfo, hq, storeCells]
    | some a =>
      have hl := run_loadCells_list (P := Tryz.prog) w a [] (fun j v hv => by simp at hv)
      simp only [List.length_nil] at hl
      simp [Builtin.copy_, run_underlying Tryz.underlying22, Builtin.lenOf, Builtin.firstCells, sizeOf, typeInfo, hq, hl, storeCells]
theorem there_row {g n : Nat} {C : Array Value} {t : TypeId} {w : World} (h : w.heap[g]? = some (.cells C t (0, 0))) (hn : n ≤ C.size) : w.there g 0 n := fun j hj => by
  rw [Nat.zero_add]
  refine ⟨?_, ?_⟩
  · rw [cell_of_row w _ _ _ _ _ h, Array.getElem?_eq_getElem (by omega)]; rfl
  · simp [World.frozen?, h]
theorem holds_cells {g : Nat} {L : List Lb} {w : World} (ht : w.there g 0 (L.length * 21)) : HoldsK enc 21 (w.setCells g 0 (cells L)) g 0 L.toArray := by
  intro j hj
  have hj2 : j < L.length * 21 := by simpa using hj
  have hjc : j < (cells L).length := by rw [cells_len]; exact hj2
  refine ⟨?_, ?_⟩
  · have := World.cell?_setCells_in g (cells L) 0 w (fun i hi => (ht i (by rw [cells_len] at hi; exact hi)).1) j hjc
    rw [this]
    have h1 : j < (flatK enc 21 L.toArray).size := hj
    rw [getElem!_pos (flatK enc 21 L.toArray) j h1]
    rfl
  · rw [World.frozen?_setCells]
    exact (ht j hj2).2
attribute [local go_sem ↓] toMkL toCp
set_option maxRecDepth 100000 in
set_option maxHeartbeats 1000000 in
theorem sortC_any (L : List Lb) (hn : L.length ≤ 4398046511104) (v : Value) (w : World) (hv : Ls v L w) :
    Calls Tryz.prog 37 #[v] w fun e w' => e = .returned (.slice (some ⟨w.heap.size, 0, none⟩) (dd (srt L)).length L.length) ∧ (dd (srt L)).length ≤ L.length ∧ Lr w.heap.size 0 (dd (srt L)) w' ∧ Below w.heap.size w w' ∧ w.heap.size < w'.heap.size ∧ ∃ C, w'.heap[w.heap.size]? = some (.cells C 51 (0, 0)) := by
  obtain ⟨o, c, rfl, -, -⟩ := hv.form
  obtain ⟨W1, r1, ⟨C, hC, hrow⟩, b1⟩ := run_mkL w L.length hn
  have th1 : W1.there w.heap.size 0 (L.length * 21) := there_row hrow (by omega)
  have hg : w.heap.size < W1.heap.size := (Array.getElem?_eq_some_iff.1 hrow).1
  obtain ⟨W2, r2, hH, b2, z2⟩ : ∃ W2, (∀ ty, (cpL ty #[.slice (some ⟨w.heap.size, 0, none⟩) L.length L.length, .slice o L.length c]).run Tryz.prog W1 = .ok (goInt L.length) W2) ∧ HoldsK enc 21 W2 w.heap.size 0 L.toArray ∧ But1 w.heap.size W1 W2 ∧ w.heap.size < W2.heap.size := by
    rcases hv.below b1 with ⟨h0, -⟩ | ⟨b, off, cap, he, -, -, -, hr⟩
    · subst h0
      refine ⟨W1, fun ty => run_cpL0 W1 ty w.heap.size 0 c o, ?_, But1.refl _ _, hg⟩
      intro j hj
      simp at hj
    · obtain ⟨rfl, rfl⟩ : o = some ⟨b, off, none⟩ ∧ c = cap := by simp only [Value.slice.injEq] at he; exact ⟨he.1, he.2.2⟩
      refine ⟨W1.setCells w.heap.size 0 (cells L), fun ty => run_cpL W1 ty w.heap.size b off L.length L.length c (cells L) (cells_len L) (lr_cells hr) th1 (cells_one L), holds_cells th1, (But1.refl _ _).setCells _ _, by rw [size_setCells]; exact hg⟩
  have C3 : Hid _ := sort_any L (by omega) w.heap.size L.length W2 hH z2
  have HB : Hid (Below w.heap.size w W2) := b1.trans (b2.below (Nat.le_refl _) (by omega))
  obtain ⟨n, hn0⟩ : ∃ n, n = L.length := ⟨_, rfl⟩
  have HN : Hid (n = L.length) := hn0
  have HZ : Hid (w.heap.size < W2.heap.size) := z2
  have HT2 : Hid (∃ C, W2.heap[w.heap.size]? = some (.cells C 51 (0, 0))) := b2.tag _ _ hrow
  rw [← hn0] at r1 r2 C3 ⊢
  clear hn0 hv hrow hC C th1 hH b1 b2 z2 hg
  go_enter Tryz.func37, Tryz.ntmps37
  go_wp2_with fail
  refine Calls.mono C3.out ?_
  rintro e W3 ⟨rfl, hH3, b3⟩
  obtain ⟨hl3, ht3⟩ := holds_lr hH3
  have C4 : Hid (Calls Tryz.prog 56 #[.slice (some ⟨w.heap.size, 0, none⟩) n n] W3 fun e w' => e = .returned (.slice (some ⟨w.heap.size, 0, none⟩) (dd (srt L)).length n) ∧ (dd (srt L)).length ≤ n ∧ Lr w.heap.size 0 (dd (srt L)) w' ∧ But1 w.heap.size W3 w') := by
    have := compact_any (srt L) (by rw [srt_len]; omega) w.heap.size L.length (by rw [srt_len]; omega) W3 hl3 ht3
    rw [srt_len, ← HN.out] at this
    exact this
  have HT3 : Hid (∃ C, W3.heap[w.heap.size]? = some (.cells C 51 (0, 0))) := by
    obtain ⟨C, e⟩ := HT2.out
    exact b3.tag _ _ e
  have HB3 : Hid (Below w.heap.size w W3 ∧ w.heap.size < W3.heap.size) := ⟨HB.out.trans (b3.below (Nat.le_refl _) (by have := HZ.out; omega)), by have := b3.size; have := HZ.out; omega⟩
  clear C3 hH3 b3 hl3 ht3 r1 r2 HB HZ
  go_wp2_with fail
  refine Calls.mono C4.out ?_
  rintro e W4 ⟨rfl, k4, l4, b4⟩
  have HF : Hid ((dd (srt L)).length ≤ n ∧ Lr w.heap.size 0 (dd (srt L)) W4 ∧ Below w.heap.size w W4 ∧ w.heap.size < W4.heap.size) := ⟨k4, l4, HB3.out.1.trans (b4.below (Nat.le_refl _) (by have := HB3.out.2; omega)), by have := b4.size; have := HB3.out.2; omega⟩
  have HT4 : Hid (∃ C, W4.heap[w.heap.size]? = some (.cells C 51 (0, 0))) := by
    obtain ⟨C, e⟩ := HT3.out
    exact b4.tag _ _ e
  clear k4 l4 b4 C4 HB3
  go_wp2
  go_ret
  exact ⟨rfl, HF.out.1, HF.out.2.1, HF.out.2.2.1, HF.out.2.2.2, HT4.out⟩
end Go.Proofs.YtffghlbgbfhfdaaGreatDoor
