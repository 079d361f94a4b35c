/- Several texts in one: Sr1, Sr2, Sr3. -/
import Derived.Test.YteajpimonenopaaGreatDoorRd
import Derived.Test.YteajpimonenopaaGreatDoorSrM
import Derived.Shelf.SlSortCmp.WholeK
import Derived.Shelf.SlSortCmp.NoneTotal
import Derived.Shelf.Lay
import Derived.Ground.SlsfProg
import Derived.Ground.NamesProg
import Derived.Lib.SliceRun
import Derived.Deep.MidRow
/- LabelSorts: labels as elements, their order. -/
namespace Go.Proofs.YteajpimonenopaaGreatDoor
open Go.RowKit Go.Shelf Go.Sort
/-- A label. -/
structure Lb where
  h : List Nat
  s : ByteArray
  hl : h.length = 20
deriving DecidableEq
instance : Inhabited Lb := ⟨⟨z20, ⟨#[]⟩, rfl⟩⟩
theorem Lb.ext' {x y : Lb} (h1 : x.h = y.h) (h2 : x.s = y.s) : x = y := by cases x; cases y; simp_all
def enc (x : Lb) : List Value := (lab x.h x.s).toList
theorem enc_len (x : Lb) : (enc x).length = 21 := by
  have := lab_size x.h x.s x.hl
  simpa [enc] using this
theorem enc_arr (x : Lb) : (enc x).toArray = lab x.h x.s := by simp [enc]
theorem enc_one (x : Lb) : ∀ v ∈ enc x, v.oneCell' = true := by
  intro v hv
  simp only [enc, lab, bs, Array.toList_append, List.mem_append, List.mem_map, List.mem_cons, List.not_mem_nil, or_false] at hv
  rcases hv with ⟨n, _, rfl⟩ | rfl <;> rfl
def cf (x y : Lb) : Int := cmpV x.h y.h x.s y.s
def key (x : Lb) : List Nat := x.h.reverse ++ x.s.data.toList.map UInt8.toNat
theorem cmpH_lex (a b : List Nat) : ∀ k, k ≤ a.length → k ≤ b.length → cmpH a b k = lexC (a.take k).reverse (b.take k).reverse
  | 0, _, _ => by simp [cmpH, lexC]
  | k + 1, h1, h2 => by
    have ea : (a.take (k + 1)).reverse = a.getD k 0 :: (a.take k).reverse := by
      rw [List.take_succ_eq_append_getElem (by omega), List.reverse_append]
      simp [List.getD, List.getElem?_eq_getElem (show k < a.length by omega)]
    have eb : (b.take (k + 1)).reverse = b.getD k 0 :: (b.take k).reverse := by
      rw [List.take_succ_eq_append_getElem (by omega), List.reverse_append]
      simp [List.getD, List.getElem?_eq_getElem (show k < b.length by omega)]
    rw [ea, eb, cmpH, lexC, cmpH_lex a b k (by omega) (by omega)]
theorem cf_key (x y : Lb) : cf x y = lexC (key x) (key y) := by
  unfold cf cmpV key
  have h1 := x.hl
  have h2 := y.hl
  rw [lex_app _ _ (by simp [h1, h2]), cmpH_lex _ _ 20 (by omega) (by omega), List.take_of_length_le (by omega), List.take_of_length_le (by omega), lex_bytes]
theorem key_inj {x y : Lb} (h : key x = key y) : x = y := by
  unfold key at h
  have h1 := x.hl
  have h2 := y.hl
  obtain ⟨e1, e2⟩ := List.append_inj h (by simp [h1, h2])
  refine Lb.ext' (List.reverse_inj.1 e1) ?_
  have := map_nat_inj e2
  exact ByteArray.ext (Array.toList_inj.1 this)
def lt (x y : Lb) : Bool := ltOf cf x y
theorem lt_key (x y : Lb) : ltOf cf x y = decide (lexC (key x) (key y) < 0) := by unfold ltOf; rw [cf_key]
theorem swo : SWO (ltOf cf) where
  irrefl x := by rw [lt_key, lex_self]; rfl
  trans x y z h1 h2 := by
    rw [lt_key] at h1 h2 ⊢
    exact decide_eq_true (lex_trans (of_decide_eq_true h1) (of_decide_eq_true h2))
  ntrans x y z h1 h2 := by
    rw [lt_key] at h1 h2 ⊢
    have h1 := of_decide_eq_false h1
    have h2 := of_decide_eq_false h2
    refine decide_eq_false fun h3 => ?_
    by_cases e1 : lexC (key x) (key y) = 0
    · rw [lex_zero e1] at h3; omega
    · by_cases e2 : lexC (key y) (key z) = 0
      · rw [← lex_zero e2] at h3; omega
      · have a1 := lex_anti (key x) (key y)
        have a2 := lex_anti (key y) (key z)
        have a3 := lex_anti (key x) (key z)
        have := lex_trans (show lexC (key z) (key y) < 0 by omega) (show lexC (key y) (key x) < 0 by omega)
        omega
theorem ltT (x y : Lb) (h1 : ltOf cf x y = false) (h2 : ltOf cf y x = false) : x = y := by
  rw [lt_key] at h1 h2
  have h1 := of_decide_eq_false h1
  have h2 := of_decide_eq_false h2
  have a1 := lex_anti (key x) (key y)
  exact key_inj (lex_zero (by omega))
end Go.Proofs.YteajpimonenopaaGreatDoor

/- LabelSorts: SortFunc of labels. -/
namespace Go.Proofs.YteajpimonenopaaGreatDoor
open Go.RowKit Go.Shelf Go.Sort
shelf_lay_g SlLaysF0.n6 Slsf 6 at Tryz 59 as Tryz.sortL
/-- What only makes new memory and draws. -/
theorem grown_of {w w' : World} (h : Below w.heap.size w w') (hd : w.drawn ≤ w'.drawn) : ∃ q os, w' = grow (w.drewN q) os := by
  refine ⟨w'.drawn - w.drawn, w'.heap.extract w.heap.size w'.heap.size, ?_⟩
  have hh : w'.heap = w.heap ++ w'.heap.extract w.heap.size w'.heap.size := by
    apply Array.ext_getElem?
    intro i
    by_cases hi : i < w.heap.size
    · rw [Array.getElem?_append_left hi]; exact h.block i hi
    · rw [Array.getElem?_append_right (by omega), Array.getElem?_extract]
      have hs := h.size
      by_cases h2 : i < w'.heap.size
      · rw [if_pos (by simp; omega)]; congr 1; omega
      · rw [if_neg (by simp; omega), Array.getElem?_eq_none (by omega)]
  have h1 := h.os
  have h2 := h.tape
  have h3 := h.output
  unfold grow World.drewN
  cases w
  cases w'
  simp only at hh h1 h2 h3 hd
  simp only [World.mk.injEq]
  subst h1 h2 h3
  exact ⟨hh, rfl, by omega, rfl, rfl⟩
theorem cmp_grow (x y : Lb) (W : World) : Calls Tryz.prog 60 #[.agg (enc x).toArray, .agg (enc y).toArray] W fun e w' => e = .returned (.int .i64 (cf x y)) ∧ ∃ q os', w' = grow (W.drewN q) os' := by
  rw [enc_arr, enc_arr]
  exact (cmpC_any x.h y.h x.s y.s x.hl y.hl W).mono fun e w' ⟨a, b, c⟩ => ⟨a, grown_of b c⟩
theorem cmp_lays (blk off size : Nat) (w : World) : CmpLays Tryz.prog 60 #[] enc 21 cf blk off size w := fun _ _ _ _ x y => cmp_grow x y _
/-- All but one block is as it was. -/
structure But1 (g : Nat) (w w' : World) : Prop where
  os : w'.os = w.os
  tape : w'.tape = w.tape
  output : w'.output = w.output
  size : w.heap.size ≤ w'.heap.size
  block : ∀ j, j < w.heap.size → j ≠ g → w'.heap[j]? = w.heap[j]?
  tag : ∀ C t, w.heap[g]? = some (.cells C t (0, 0)) → ∃ C', w'.heap[g]? = some (.cells C' t (0, 0))
theorem But1.refl (g : Nat) (w : World) : But1 g w w := ⟨rfl, rfl, rfl, Nat.le_refl _, fun _ _ _ => rfl, fun C _ h => ⟨C, h⟩⟩
theorem But1.trans {g : Nat} {a b c : World} (h : But1 g a b) (k : But1 g b c) : But1 g a c :=
  ⟨k.os.trans h.os, k.tape.trans h.tape, k.output.trans h.output, Nat.le_trans h.size k.size, fun j hj hne => (k.block j (Nat.lt_of_lt_of_le hj h.size) hne).trans (h.block j hj hne), fun C t e => let ⟨C1, e1⟩ := h.tag C t e; k.tag C1 t e1⟩
theorem But1.below {g B : Nat} {a b : World} (h : But1 g a b) (hg : B ≤ g) (hB : B ≤ a.heap.size) : Below B a b :=
  ⟨h.os, h.tape, h.output, h.size, fun j hj => h.block j (by omega) (by omega)⟩
theorem But1.of_below {g : Nat} {a b : World} (h : Below a.heap.size a b) : But1 g a b := ⟨h.os, h.tape, h.output, h.size, fun j hj _ => h.block j hj, fun C _ e => ⟨C, (h.block g (Array.getElem?_eq_some_iff.1 e).1).trans e⟩⟩
theorem but_sort (w : World) (g off n : Nat) (d : Array Lb) (os : Array Obj) : But1 g w (sortWorldK enc 21 w g off n d os) := by
  unfold sortWorldK putRowK putRow mapBlock grow
  refine ⟨rfl, rfl, rfl, by simp [Sort.ahead], fun j hj hne => ?_, fun C t e => ?_⟩
  · show ((Sort.ahead w n).heap.modify g _ ++ os)[j]? = _
    rw [Array.getElem?_append_left (by simpa [Sort.ahead] using hj), Array.getElem?_modify, if_neg (Ne.symm hne)]
    rfl
  · have hg : g < w.heap.size := (Array.getElem?_eq_some_iff.1 e).1
    show ∃ C', ((Sort.ahead w n).heap.modify g _ ++ os)[g]? = some (.cells C' t (0, 0))
    rw [Array.getElem?_append_left (by simpa [Sort.ahead] using hg), Array.getElem?_modify, if_pos rfl]
    have e2 : (Sort.ahead w n).heap[g]? = some (.cells C t (0, 0)) := e
    rw [e2]
    exact ⟨_, rfl⟩
theorem enters60 : ∀ args w, (callFunc 60 args).run Tryz.prog w = .ok (.enter 60 args) w := enters_of Tryz.func60 (by kernel_rfl) rfl
/-- The labels in order. -/
def srt (D : List Lb) : List Lb := D.mergeSort fun x y => !(ltOf cf) y x
theorem srt_len (D : List Lb) : (srt D).length = D.length := List.length_mergeSort _
set_option maxRecDepth 100000 in
theorem sort_any (D : List Lb) (hn : D.length < 4611686018427387904) (g cap : Nat) (w : World) (hH : HoldsK enc 21 w g 0 D.toArray) (hg : g < w.heap.size) :
    Calls Tryz.prog 59 #[.slice (some ⟨g, 0, none⟩) D.length cap, .func (.func 60) #[] #[]] w fun e w' => e = .returned (.tuple #[]) ∧ HoldsK enc 21 w' g 0 (srt D).toArray ∧ But1 g w w' := by
  have h := AnyQ.slices_SortFunc_total Tryz.sortL 21 Tryz.isAgg30 Tryz.sizeOf30 enc enc_len enc_one cf swo 60 #[] g 0 cap D.toArray w enters60 (cmp_lays g 0 D.toArray.size w) hH hg (by simpa using hn) ltT
  have h' : Calls Tryz.prog 59 #[.slice (some ⟨g, 0, none⟩) D.toArray.size cap, .func (.func 60) #[] #[]] w fun e w' => e = .returned (.tuple #[]) ∧ ∃ n os, w' = sortWorldK enc 21 w g 0 n (srt D).toArray os := h
  rw [List.size_toArray] at h'
  refine h'.mono ?_
  rintro e w' ⟨he, n, os, rfl⟩
  exact ⟨he, holdsK_sortWorldK_c enc 21 w g 0 D.toArray (srt D).toArray n os hH hg (by simp [srt_len]), but_sort w g 0 n _ os⟩
end Go.Proofs.YteajpimonenopaaGreatDoor

/- LabelSorts: Compact. -/
namespace Go.Proofs.YteajpimonenopaaGreatDoor
open Go.RowKit Go.Shelf Go.Sort
/-- Labels that lie in a row, one behind the other. -/
def Lr (g o : Nat) (D : List Lb) (w : World) : Prop := ∀ i x, D[i]? = some x → w.rangeAt g (o + i * 21) (enc x)
theorem size29 : (Tryz.prog.info? 30).map (·.size) = some 21 := by kernel_rfl
theorem holds_lr {g : Nat} {D : List Lb} {w : World} (h : HoldsK enc 21 w g 0 D.toArray) : Lr g 0 D w ∧ w.there g 0 (D.length * 21) := by
  refine ⟨fun i x hx j v hv => ?_, fun j hj => ?_⟩
  · have hi : i < D.length := (List.getElem?_eq_some_iff.1 hx).1
    have hj : j < 21 := by have := (List.getElem?_eq_some_iff.1 hv).1; rwa [enc_len] at this
    have := (h.cell (i := i) (c := j) (by simpa using hi) hj).1
    rw [this]
    have e : D.toArray[i]! = x := by
      rw [getElem!_pos _ i (by simpa using hi)]
      have := (List.getElem?_eq_some_iff.1 hx).2
      simpa using this
    rw [e]
    have e2 := List.getElem?_eq_some_iff.1 hv
    rw [getElem!_pos _ j e2.1, e2.2]
  · have h2 := h.cell (i := j / 21) (c := j % 21) (by simp; omega) (by omega)
    rw [show 0 + j / 21 * 21 + j % 21 = 0 + j by omega] at h2
    exact ⟨by rw [h2.1]; rfl, h2.2⟩
theorem toLd (v : Value) : Instr.loadAt 30 v = loadR 30 v := rfl
theorem run_ldx (w : World) (g o : Nat) (x : Lb) (h : w.rangeAt g o (enc x)) : (loadR 30 (.pointer (some ⟨g, o, none⟩))).run Tryz.prog w = .ok (.agg (lab x.h x.s)) w := by
  have := run_loadAt_mid (P := Tryz.prog) w g o 30 (enc x) _ h under25 rfl (by rw [size29, enc_len])
  rw [enc_arr] at this
  exact this
theorem toSt (p v : Value) : Instr.storeAt 30 p v = storeR 30 p v := rfl
theorem run_stx (w : World) (g o : Nat) (x : Lb) (h : w.there g o 21) : (storeR 30 (.pointer (some ⟨g, o, none⟩)) (.agg (lab x.h x.s))).run Tryz.prog w = .ok () (w.setCells g o (enc x)) := by
  have := run_storeAt_mid (P := Tryz.prog) w g o 30 (enc x).toArray (by simpa [enc_len] using h) (by rw [size29]; simp [enc_len]) (all_oneCell_toArray (enc_one x))
  rw [enc_arr] at this
  have e : (lab x.h x.s).toList = enc x := rfl
  rw [e] at this
  exact this
theorem dd_cc (x y : Lb) (r : List Lb) : dd (x :: y :: r) = if x = y then dd (y :: r) else x :: dd (y :: r) := by rw [dd]
theorem dd_snoc (x y : Lb) : ∀ l : List Lb, dd (l ++ [y, x]) = if x = y then dd (l ++ [y]) else dd (l ++ [y]) ++ [x]
  | [] => by
    show dd (y :: x :: []) = if x = y then dd [y] else dd [y] ++ [x]
    rw [dd_cc]
    by_cases h : x = y
    · rw [if_pos h.symm, if_pos h, h]
    · rw [if_neg (fun e => h e.symm), if_neg h]; rfl
  | [z] => by
    have ih := dd_snoc x y []
    have ih' : dd (y :: [x]) = if x = y then dd [y] else dd [y] ++ [x] := ih
    show dd (z :: y :: [x]) = if x = y then dd (z :: y :: []) else dd (z :: y :: []) ++ [x]
    rw [dd_cc z y [x], dd_cc z y [], ih']
    by_cases h : x = y
    · rw [if_pos h, if_pos h]
    · rw [if_neg h, if_neg h]
      by_cases hz : z = y
      · rw [if_pos hz, if_pos hz]
      · rw [if_neg hz, if_neg hz]; rfl
  | z :: u :: l => by
    have ih := dd_snoc x y (u :: l)
    have ih' : dd (u :: (l ++ [y, x])) = if x = y then dd (u :: (l ++ [y])) else dd (u :: (l ++ [y])) ++ [x] := ih
    show dd (z :: u :: (l ++ [y, x])) = if x = y then dd (z :: u :: (l ++ [y])) else dd (z :: u :: (l ++ [y])) ++ [x]
    rw [dd_cc z u (l ++ [y, x]), dd_cc z u (l ++ [y]), ih']
    by_cases h : x = y
    · rw [if_pos h, if_pos h]
    · rw [if_neg h, if_neg h]
      by_cases hz : z = u
      · rw [if_pos hz, if_pos hz]
      · rw [if_neg hz, if_neg hz]; rfl
theorem take_snoc {D : List Lb} {k : Nat} (h : k + 1 < D.length) : D.take (k + 2) = D.take k ++ [D.getD k default, D.getD (k + 1) default] ∧ D.take (k + 1) = D.take k ++ [D.getD k default] := by
  have h2 : D.take (k + 1) = D.take k ++ [D.getD k default] := by rw [List.take_succ_eq_append_getElem (by omega)]; simp [List.getD, List.getElem?_eq_getElem (show k < D.length by omega)]
  refine ⟨?_, h2⟩
  rw [List.take_succ_eq_append_getElem (by omega), h2]
  simp [List.getD, List.getElem?_eq_getElem (show k + 1 < D.length by omega)]
/-- The next label joins, or not. -/
theorem dd_take {D : List Lb} {k : Nat} (h : k + 1 < D.length) : dd (D.take (k + 2)) = if D.getD (k + 1) default = D.getD k default then dd (D.take (k + 1)) else dd (D.take (k + 1)) ++ [D.getD (k + 1) default] := by
  obtain ⟨h1, h2⟩ := take_snoc h
  rw [h1, h2]
  exact dd_snoc _ _ _
theorem dd_one (D : List Lb) : dd (D.take 1) = D.take 1 := by
  cases D with
  | nil => rfl
  | cons x r => rfl
/-- The cells of some zero labels. -/
theorem run_clearK (w : World) (b o m c : Nat) (hm : 0 < m) (hT : w.there b o (m * 21)) : ∃ vs : List Value, vs.length = m * 21 ∧ ∀ ty, (Builtin.clear_ #[25] ty #[.slice (some ⟨b, o, none⟩) m c]).run Tryz.prog w = .ok (.tuple #[]) (w.setCells b o vs) := by
  obtain ⟨k, rfl⟩ : ∃ k, m = k + 1 := ⟨m - 1, by omega⟩
  have hz : ∀ w, (zeroValue 30).run Tryz.prog w = .ok (.agg (lab z20 ⟨#[]⟩)) w := fun w => by kernel_rfl
  have hs : (Builtin.zeroCells (Value.agg (lab z20 ⟨#[]⟩)).cells (k + 1)).toList.length = (k + 1) * 21 := by
    simp [Builtin.zeroCells, Value.cells, lab_size z20 ⟨#[]⟩ rfl]
  have h1 : ∀ v ∈ (Builtin.zeroCells (Value.agg (lab z20 ⟨#[]⟩)).cells (k + 1)).toList, v.oneCell' = true := by
    intro v hv
    have hz : (Value.agg (lab z20 ⟨#[]⟩)).cells = lab z20 ⟨#[]⟩ := rfl
    rw [hz] at hv
    simp only [Builtin.zeroCells, Array.toList_map, List.mem_map] at hv
    obtain ⟨i, _, rfl⟩ := hv
    have hsz := lab_size z20 ⟨#[]⟩ rfl
    have hlt : i % (lab z20 ⟨#[]⟩).size < (lab z20 ⟨#[]⟩).size := Nat.mod_lt _ (by omega)
    rw [getElem!_pos (lab z20 ⟨#[]⟩) _ hlt]
    exact enc_one ⟨z20, ⟨#[]⟩, rfl⟩ _ (Array.getElem_mem_toList hlt)
  refine ⟨_, hs, fun ty => ?_⟩
  have hst := run_storeCells_cells (P := Tryz.prog) b o (Builtin.zeroCells (Value.agg (lab z20 ⟨#[]⟩)).cells (k + 1)).toList 0 w (fun j hj => by rw [Nat.add_zero]; exact (hT j (by rw [← hs]; exact hj)).1) (fun j hj => by rw [Nat.add_zero]; exact (hT j (by rw [← hs]; exact hj)).2) h1
  simp only [Nat.add_zero] at hst
  simp [Builtin.clear_, run_underlying Tryz.underlying25, hz, hst]
theorem But1.setCell {g i : Nat} {a w : World} (h : But1 g a w) (v : Value) : But1 g a (w.setCell ⟨g, i, none⟩ v) :=
  ⟨h.os, h.tape, h.output, by simpa [World.setCell] using h.size, fun j hj hne => (heap_setCell_other _ _ _ _ hne).trans (h.block j hj hne), fun C t e => let ⟨_, e1⟩ := h.tag C t e; ⟨_, heap_setCell_same w g i _ _ v e1⟩⟩
theorem But1.setCells {g : Nat} {a : World} : ∀ (vs : List Value) (o : Nat) {w : World}, But1 g a w → But1 g a (w.setCells g o vs)
  | [], _, _, h => h
  | v :: r, o, _, h => by
    unfold World.setCells
    exact But1.setCells r (o + 1) (h.setCell v)
theorem But1.drewN {g : Nat} {a w : World} (h : But1 g a w) (n : Nat) : But1 g a (w.drewN n) := ⟨h.os, h.tape, h.output, h.size, h.block, h.tag⟩
theorem lr_set {g : Nat} {A : List Lb} {w : World} {k : Nat} {x : Lb} (h : Lr g 0 A w) (hk : k < A.length) (ht : w.there g 0 (A.length * 21)) : Lr g 0 (A.set k x) (w.setCells g (k * 21) (enc x)) := by
  intro i y hy
  rw [Nat.zero_add]
  by_cases e : i = k
  · subst e
    rw [List.getElem?_set_self hk] at hy
    obtain rfl := Option.some.inj hy
    exact World.rangeAt_setCells_same w g (i * 21) (enc x) (fun j hj => by
      rw [enc_len] at hj
      have := ht (i * 21 + j) (by omega)
      rw [Nat.zero_add] at this
      exact this)
  · rw [List.getElem?_set_ne (fun q => e q.symm)] at hy
    have := h i y hy
    rw [Nat.zero_add] at this
    refine World.rangeAt_setCells_apart this g (k * 21) (enc x) (.inr ?_)
    rw [enc_len, enc_len]
    omega
def slLR (v : Value) (lo hi mx : Option Value) : Sem Value := Instr.slice 25 v lo hi mx
theorem toSlL (v : Value) (lo hi mx : Option Value) : Instr.slice 25 v lo hi mx = slLR v lo hi mx := rfl
theorem elemL : Tryz.prog.elem 25 = 30 := by kernel_rfl
theorem uL : Tryz.prog.underlying 25 = some (.slice (Tryz.prog.elem 25)) := by rw [elemL]; exact Tryz.underlying25
theorem run_cutl (w : World) (g o n c k : Nat) (hk : k ≤ n) (hc : k < c) : (slLR (.slice (some ⟨g, o, none⟩) n c) (some (.int .i64 (k : Int))) none none).run Tryz.prog w = .ok (.slice (some ⟨g, o + k * 21, none⟩) (n - k) (c - k)) w := by
  have := run_slice_l (P := Tryz.prog) w 25 (some ⟨g, o, none⟩) n c uL .i64 (k : Int) (by omega) (by omega)
  unfold slLR
  rw [this, elemL, Tryz.sizeOf30]
  simp only [Result.andThen, sliced, Int.toNat_natCast]
  rw [if_neg (by omega)]
  simp [Addr.add_mid]
theorem run_cuth (w : World) (g o n c k : Nat) (hk : k ≤ c) : (slLR (.slice (some ⟨g, o, none⟩) n c) none (some (.int .i64 (k : Int))) none).run Tryz.prog w = .ok (.slice (some ⟨g, o, none⟩) k c) w := by
  have := run_slice_h (P := Tryz.prog) w 25 (some ⟨g, o, none⟩) n c uL .i64 (k : Int) (by omega) (by omega)
  unfold slLR
  rw [this, elemL, Tryz.sizeOf30]
  simp only [Result.andThen, sliced, Int.toNat_natCast]
  by_cases h : c = 0
  · rw [if_pos h]; simp
  · rw [if_neg h]; simp [Addr.add_mid]
end Go.Proofs.YteajpimonenopaaGreatDoor
