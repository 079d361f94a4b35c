/- Several texts in one: RcR, RcS, RcT, RcU. -/
import Derived.Test.YtceclpabdfncoaaDoorRcO
import Derived.Maps.OwnSet
import Derived.Maps.Views
import Derived.StringKeys
import Derived.Carry
import Derived.Deep.RegionWith
import Derived.Deep.DrawnRows
import Derived.Laws.MakeOwn
/- Recipes: a map from texts to numbers; labels by their names; a recipe of one's own, written over. -/
namespace Go.Proofs.YtceclpabdfncoaaDoor.Re
open Go.RowKit
theorem keyS : Maps.Keyed Tryd.prog 9 := Maps.string_keyed Tryd.underlying9
theorem zero3 (w : World) : (zeroValue 3).run Tryd.prog w = .ok (.int .i64 0) w := by
  have h : (Tryd.prog.info? 3).map (fun i => i.zero) = some (some (.int .i64 0)) := by kernel_rfl
  cases hq : Tryd.prog.info? 3 with
  | none => simp [hq] at h
  | some i =>
    rw [hq] at h
    simp only [Option.map_some, Option.some.injEq] at h
    simp [zeroValue, typeInfo, hq, h]
def kS (s : S) : Lit := .string s.data.toList
theorem kS_inj {s t : S} (h : kS s = kS t) : s = t := by
  unfold kS at h
  injection h with h
  cases s; cases t
  simp at h
  rw [h]
theorem kS_key {s : S} (h : s.size ≤ maxLen) : keyOf Tryd.prog 9 (.string s) = some (kS s) := Go.WideMaps.keyOf_string_mk Tryd.underlying9 h
/-- A map from texts to numbers. -/
def Mp (w : World) (b n : Nat) (f : S → Option Nat) : Prop :=
  ∃ D : DataW Unit, w.ownsMap Tryd.prog 9 (plainElem Tryd.prog 3) b n D ∧ Maps.IsMap D ∧ ∀ s : S, Maps.has D (kS s) = (f s).isSome ∧ ∀ i, f s = some i → D.atKey (kS s) (.lit (.int .i64 0)) = .lit (.int .i64 (i : Int))
theorem mp_made (w : World) : Mp (w.alloc (.map #[] 0)) w.heap.size 0 (fun _ => none) := ⟨_, World.ownsMap_made w _ _ _, Maps.isMap_empty, fun s => ⟨rfl, fun i h => by cases h⟩⟩
theorem Mp.lt {w : World} {b n : Nat} {f : S → Option Nat} (h : Mp w b n f) : b < w.heap.size := by
  obtain ⟨D, h, -⟩ := h
  exact h.lt
theorem Mp.keep {w w' : World} {b n : Nat} {f : S → Option Nat} (h : Mp w b n f) (hb : w'.heap[b]? = w.heap[b]?) : Mp w' b n f := by
  obtain ⟨D, ⟨es, clock, h1, h2⟩, h3⟩ := h
  exact ⟨D, ⟨es, clock, hb.trans h1, h2⟩, h3⟩
theorem Mp.row {w : World} {b n : Nat} {f : S → Option Nat} (h : Mp w b n f) {g : Nat} {C : Array Value} {t : Nat} (hg : w.heap[g]? = some (.cells C t (0, 0))) : b ≠ g := by
  obtain ⟨D, ⟨es, clock, h1, h2⟩, h3⟩ := h
  intro e
  subst e
  have := h1.symm.trans hg
  cases this
/-- The label of the first output of a name. -/
def lk (zs : List (Out × S)) (k : S) : Option S := (zs.find? fun z => decide (z.1.1 = k)).map (·.2)
def gP (zs : List (Out × S)) (p : Pai) : Pai := match lk zs p.1 with
  | some l => (p.1, l)
  | none => p
theorem gP_key (zs : List (Out × S)) (p : Pai) : (gP zs p).1 = p.1 := by unfold gP; split <;> rfl
theorem lk_cons (z : Out × S) (zs : List (Out × S)) (k : S) : lk (z :: zs) k = if z.1.1 = k then some z.2 else lk zs k := by
  unfold lk
  rw [List.find?_cons]
  by_cases h : z.1.1 = k <;> simp [h]
theorem gP_cons_hit (z : Out × S) (zs : List (Out × S)) (p : Pai) (h : z.1.1 = p.1) : gP (z :: zs) p = (p.1, z.2) := by unfold gP; rw [lk_cons, if_pos h]
theorem gP_cons_miss (z : Out × S) (zs : List (Out × S)) (p : Pai) (h : z.1.1 ≠ p.1) : gP (z :: zs) p = gP zs p := by unfold gP; rw [lk_cons, if_neg h]
theorem lk_idx : ∀ (o : List Out) (ls : List S) (k : S), ls.length = o.length → ∀ j, o.findIdx? (fun x => decide (x.1 = k)) = some j → ∃ l, ls[j]? = some l ∧ lk (o.zip ls) k = some l
  | [], ls, k, _, j, h => by simp at h
  | x :: o, [], k, hl, j, h => by simp at hl
  | x :: o, l :: ls, k, hl, j, h => by
    rw [List.findIdx?_cons] at h
    rw [List.zip_cons_cons, lk_cons]
    by_cases e : x.1 = k
    · simp only [e, decide_true, if_true, Option.some.injEq] at h
      subst h
      exact ⟨l, rfl, if_pos e⟩
    · simp only [e, decide_false, Bool.false_eq_true, if_false] at h
      cases hq : o.findIdx? (fun x => decide (x.1 = k)) with
      | none => rw [hq] at h; cases h
      | some j' =>
        rw [hq] at h
        simp at h
        subst h
        obtain ⟨l', q1, q2⟩ := lk_idx o ls k (by simpa using hl) j' hq
        exact ⟨l', by simpa using q1, by rw [if_neg e]; exact q2⟩
theorem lk_none : ∀ (o : List Out) (ls : List S) (k : S), o.findIdx? (fun x => decide (x.1 = k)) = none → lk (o.zip ls) k = none
  | [], ls, k, h => by simp [lk]
  | x :: o, [], k, h => by simp [lk]
  | x :: o, l :: ls, k, h => by
    rw [List.findIdx?_cons] at h
    rw [List.zip_cons_cons, lk_cons]
    by_cases e : x.1 = k
    · simp [e] at h
    · simp only [e, decide_false, Bool.false_eq_true, if_false] at h
      rw [if_neg e]
      exact lk_none o ls k (by simpa using h)
/-- The outputs with other labels. -/
def rlo (o : List Out) (ls : List S) : List Out := List.zipWith (fun x l => (x.1, l, x.2.2)) o ls
/-- The recipe with other labels. -/
def rel (R : Rcp) (ls : List S) : Rcp := { R with o := rlo R.o ls, e := R.e.map (gP (R.o.zip ls)) }
/-- Outputs, some of which have their new labels. -/
def Dn (o : List Out) (ls : List S) (d : Nat → Bool) (oi : List Out) : Prop := oi.length = o.length ∧ ∀ (j : Nat) x l, o[j]? = some x → ls[j]? = some l → oi[j]? = some (if d j = true then (x.1, l, x.2.2) else x)
theorem Dn.start (o : List Out) (ls : List S) : Dn o ls (fun _ => false) o := ⟨rfl, fun j x l h _ => by simpa using h⟩
theorem Dn.name {o : List Out} {ls : List S} {d : Nat → Bool} {oi : List Out} (h : Dn o ls d oi) {j : Nat} {x : Out} {l : S} (hx : o[j]? = some x) (hl : ls[j]? = some l) : ∃ y, oi[j]? = some y ∧ y.1 = x.1 ∧ (y.1, l, y.2.2) = (x.1, l, x.2.2) := by
  refine ⟨_, h.2 j x l hx hl, ?_, ?_⟩ <;> cases d j <;> rfl
theorem Dn.set {o : List Out} {ls : List S} {d d' : Nat → Bool} {oi : List Out} (h : Dn o ls d oi) {i : Nat} {x y : Out} {l : S} (hx : o[i]? = some x) (hl : ls[i]? = some l) (hy : oi[i]? = some y) (hd : ∀ j, d' j = (d j || decide (j = i))) : Dn o ls d' (oi.set i (y.1, l, y.2.2)) := by
  refine ⟨by rw [List.length_set]; exact h.1, fun j u m q1 q2 => ?_⟩
  obtain ⟨y', e1, e2, e3⟩ := h.name hx hl
  obtain rfl : y = y' := Option.some.inj (hy.symm.trans e1)
  rw [hd j]
  by_cases e : j = i
  · subst e
    obtain rfl : x = u := Option.some.inj (hx.symm.trans q1)
    obtain rfl : l = m := Option.some.inj (hl.symm.trans q2)
    rw [List.getElem?_set_self (by rw [h.1]; exact (List.getElem?_eq_some_iff.1 hx).1)]
    simp [e3]
  · rw [List.getElem?_set_ne (fun q => e q.symm), h.2 j u m q1 q2]
    simp [e]
theorem Dn.fin {o : List Out} {ls : List S} {d : Nat → Bool} {oi : List Out} (h : Dn o ls d oi) (hd : ∀ j, j < o.length → d j = true) (hl : ls.length = o.length) : oi = rlo o ls := by
  apply List.ext_getElem?
  intro j
  by_cases q : j < o.length
  · have h1 := h.2 j _ _ (List.getElem?_eq_getElem q) (List.getElem?_eq_getElem (by omega))
    rw [h1, hd j q]
    unfold rlo
    rw [List.getElem?_zipWith, List.getElem?_eq_getElem q, List.getElem?_eq_getElem (by omega)]
    rfl
  · rw [List.getElem?_eq_none (by rw [h.1]; omega), List.getElem?_eq_none (by unfold rlo; rw [List.length_zipWith]; omega)]
/-- Pairs, each as a function has it. -/
def De (e : List Pai) (G : Nat → Pai → Pai) (ei : List Pai) : Prop := ei.length = e.length ∧ ∀ (j : Nat) p, e[j]? = some p → ei[j]? = some (G j p)
theorem De.start (e : List Pai) : De e (fun _ p => p) e := ⟨rfl, fun _ _ h => h⟩
theorem De.to {e : List Pai} {G G' : Nat → Pai → Pai} {ei : List Pai} (h : De e G ei) (hg : ∀ j p, e[j]? = some p → G' j p = G j p) : De e G' ei := ⟨h.1, fun j p q => by rw [hg j p q]; exact h.2 j p q⟩
theorem De.set {e : List Pai} {G G' : Nat → Pai → Pai} {ei : List Pai} (h : De e G ei) {i : Nat} {p q : Pai} (hp : e[i]? = some p) (hq : G' i p = q) (hg : ∀ j p, e[j]? = some p → j ≠ i → G' j p = G j p) : De e G' (ei.set i q) := by
  refine ⟨by rw [List.length_set]; exact h.1, fun j u z => ?_⟩
  by_cases c : j = i
  · subst c
    obtain rfl : p = u := Option.some.inj (hp.symm.trans z)
    rw [List.getElem?_set_self (by rw [h.1]; exact (List.getElem?_eq_some_iff.1 hp).1), hq]
  · rw [List.getElem?_set_ne (fun q => c q.symm), hg j u z c]
    exact h.2 j u z
theorem De.fin {e : List Pai} {G : Nat → Pai → Pai} {ei : List Pai} (h : De e G ei) {g : Pai → Pai} (hg : ∀ j p, e[j]? = some p → G j p = g p) : ei = e.map g := by
  apply List.ext_getElem?
  intro j
  rw [List.getElem?_map]
  cases q : e[j]? with
  | none => rw [List.getElem?_eq_none (by rw [h.1]; exact List.getElem?_eq_none_iff.1 q)]; rfl
  | some p => rw [h.2 j p q, hg j p q]; rfl
theorem Tw.below {base : Nat} {W W' : World} {o n s a e : Value} {us : List Value} {R : Rcp} (h : Tw base W o n s a e us R) (hb : Below W.heap.size W W') : Tw base W' o n s a e us R := ⟨h.fo.below hb, h.fn.below hb, h.fs.below hb, h.fa.below hb, h.fe.below hb, h.ul, fun i x u q1 q2 => (h.each i x u q1 q2).below hb⟩
theorem Tw.mono {base base' : Nat} {W : World} {o n s a e : Value} {us : List Value} {R : Rcp} (h : Tw base W o n s a e us R) (hb : base' ≤ base) : Tw base' W o n s a e us R := ⟨h.fo.mono hb, h.fn.mono hb, h.fs.mono hb, h.fa.mono hb, h.fe.mono hb, h.ul, fun i x u q1 q2 => (h.each i x u q1 q2).mono hb⟩
theorem Ol.rowOf {base e sz : Nat} {W W' : World} {v : Value} {l : List (Array Value)} (h : Ol base e sz W v l) (hk : ∀ (g : Nat) C, W.heap[g]? = some (.cells C e (0, 0)) → W'.heap[g]? = W.heap[g]?) : Ol base e sz W' v l := h.keep fun g hg => by
  obtain ⟨_, _, cur, hc⟩ := h.tag hg
  exact hk g cur hc
/-- Rows of a recipe's kinds stay. -/
theorem Tw.rows {base : Nat} {W W' : World} {o n s a e : Value} {us : List Value} {R : Rcp} (h : Tw base W o n s a e us R) (hk : ∀ (g : Nat) C (t : Nat), W.heap[g]? = some (.cells C t (0, 0)) → t ≠ 33 → W'.heap[g]? = W.heap[g]?) : Tw base W' o n s a e us R :=
  ⟨h.fo.rowOf fun g C q => hk g C _ q (by decide), h.fn.rowOf fun g C q => hk g C _ q (by decide), h.fs.rowOf fun g C q => hk g C _ q (by decide), h.fa.rowOf fun g C q => hk g C _ q (by decide), h.fe.rowOf fun g C q => hk g C _ q (by decide), h.ul, fun i x u q1 q2 => (h.each i x u q1 q2).rowOf fun g C q => hk g C _ q (by decide)⟩
theorem Tw.setO {base : Nat} {W : World} {g m c : Nat} {n s a e : Value} {us : List Value} {R : Rcp} (h : Tw base W (.slice (some ⟨g, 0, none⟩) m c) n s a e us R) {i : Nat} {x : Out} (l : S) (hx : R.o[i]? = some x) : Tw base (W.setCell ⟨g, i * 4 + 1, none⟩ (.string l)) (.slice (some ⟨g, 0, none⟩) m c) n s a e us { R with o := R.o.set i (x.1, l, x.2.2) } := by
  have hx2 : (R.o.map oR)[i]? = some (oR x) := by rw [List.getElem?_map, hx]; rfl
  have := h.fo.setc i 1 _ (.string l) hx2 (by omega) rfl
  refine ⟨?_, h.fn.other h.fo (by decide), h.fs.other h.fo (by decide), h.fa.other h.fo (by decide), h.fe.other h.fo (by decide), h.ul, fun j x u q1 q2 => (h.each j x u q1 q2).other h.fo (by decide)⟩
  show Ol _ _ _ _ _ ((R.o.set i (x.1, l, x.2.2)).map oR)
  rw [List.map_set]
  exact this
theorem Tw.setE {base : Nat} {W : World} {g m c : Nat} {o n s a : Value} {us : List Value} {R : Rcp} (h : Tw base W o n s a (.slice (some ⟨g, 0, none⟩) m c) us R) {i : Nat} {x : Pai} (l : S) (hx : R.e[i]? = some x) : Tw base (W.setCell ⟨g, i * 2 + 1, none⟩ (.string l)) o n s a (.slice (some ⟨g, 0, none⟩) m c) us { R with e := R.e.set i (x.1, l) } := by
  have hx2 : (R.e.map eR)[i]? = some (eR x) := by rw [List.getElem?_map, hx]; rfl
  have := h.fe.setc i 1 _ (.string l) hx2 (by omega) rfl
  refine ⟨h.fo.other h.fe (by decide), h.fn.other h.fe (by decide), h.fs.other h.fe (by decide), h.fa.other h.fe (by decide), ?_, h.ul, fun j x u q1 q2 => (h.each j x u q1 q2).other h.fe (by decide)⟩
  show Ol _ _ _ _ _ ((R.e.set i (x.1, l)).map eR)
  rw [List.map_set]
  exact this
end Go.Proofs.YtceclpabdfncoaaDoor.Re

/- Recipes: relabelled. -/
namespace Go.Proofs.YtceclpabdfncoaaDoor.Re
open Go.RowKit
/-- A recipe of one's own in a box, a map beside it, the answer's place. -/
structure Rb (W : World) (rb mb : Nat) (C : Array Value) (o n s a e : Value) (us : List Value) (f : S → Option Nat) (k : Nat) (R : Rcp) (wr : World) : Prop where
  bel : Below W.heap.size W wr
  r1 : wr.heap[W.heap.size + 1]? = some (.cells zR 33 (0, 0))
  rbx : wr.heap[rb]? = some (.cells C 33 (0, 0))
  lb : W.heap.size + 1 < rb
  lm : W.heap.size ≤ mb
  tw : Tw W.heap.size wr o n s a e us R
  mp : Mp wr mb k f
theorem Rb.below {W : World} {rb mb : Nat} {C : Array Value} {o n s a e : Value} {us : List Value} {f : S → Option Nat} {k : Nat} {R : Rcp} {wr w' : World} (h : Rb W rb mb C o n s a e us f k R wr) (hb : Below wr.heap.size wr w') : Rb W rb mb C o n s a e us f k R w' :=
  ⟨h.bel.trans (hb.mono h.bel.size), (hb.block _ (Array.getElem?_eq_some_iff.1 h.r1).1).trans h.r1, (hb.block _ (Array.getElem?_eq_some_iff.1 h.rbx).1).trans h.rbx, h.lb, h.lm, h.tw.below hb, h.mp.keep (hb.block _ h.mp.lt)⟩
theorem Rb.setO {W : World} {rb mb : Nat} {C : Array Value} {g m c : Nat} {n s a e : Value} {us : List Value} {f : S → Option Nat} {k : Nat} {R : Rcp} {wr : World} (h : Rb W rb mb C (.slice (some ⟨g, 0, none⟩) m c) n s a e us f k R wr) {i : Nat} {x : Out} (l : S) (hx : R.o[i]? = some x) : Rb W rb mb C (.slice (some ⟨g, 0, none⟩) m c) n s a e us f k { R with o := R.o.set i (x.1, l, x.2.2) } (wr.setCell ⟨g, i * 4 + 1, none⟩ (.string l)) := by
  obtain ⟨h1, h2, cur, hc⟩ := h.tw.fo.tag (g := g) rfl
  exact ⟨h.bel.setCell (by show W.heap.size ≤ g; omega) _, (heap_setCell_other _ _ _ _ (by show W.heap.size + 1 ≠ g; exact (tag_ne hc h.r1 (by decide)).symm)).trans h.r1, (heap_setCell_other _ _ _ _ (by show rb ≠ g; exact (tag_ne hc h.rbx (by decide)).symm)).trans h.rbx, h.lb, h.lm, h.tw.setO l hx, h.mp.keep (heap_setCell_other _ _ _ _ (by show mb ≠ g; exact h.mp.row hc))⟩
theorem Rb.setE {W : World} {rb mb : Nat} {C : Array Value} {g m c : Nat} {o n s a : Value} {us : List Value} {f : S → Option Nat} {k : Nat} {R : Rcp} {wr : World} (h : Rb W rb mb C o n s a (.slice (some ⟨g, 0, none⟩) m c) us f k R wr) {i : Nat} {x : Pai} (l : S) (hx : R.e[i]? = some x) : Rb W rb mb C o n s a (.slice (some ⟨g, 0, none⟩) m c) us f k { R with e := R.e.set i (x.1, l) } (wr.setCell ⟨g, i * 2 + 1, none⟩ (.string l)) := by
  obtain ⟨h1, h2, cur, hc⟩ := h.tw.fe.tag (g := g) rfl
  exact ⟨h.bel.setCell (by show W.heap.size ≤ g; omega) _, (heap_setCell_other _ _ _ _ (by show W.heap.size + 1 ≠ g; exact (tag_ne hc h.r1 (by decide)).symm)).trans h.r1, (heap_setCell_other _ _ _ _ (by show rb ≠ g; exact (tag_ne hc h.rbx (by decide)).symm)).trans h.rbx, h.lb, h.lm, h.tw.setE l hx, h.mp.keep (heap_setCell_other _ _ _ _ (by show mb ≠ g; exact h.mp.row hc))⟩
theorem Rb.put {W : World} {rb mb : Nat} {C : Array Value} {o n s a e : Value} {us : List Value} {f f' : S → Option Nat} {k k' : Nat} {R : Rcp} {wr w' : World} (h : Rb W rb mb C o n s a e us f k R wr) (hm : Mp w' mb k' f') (hg : wr.grownBy w' (some mb)) : Rb W rb mb C o n s a e us f' k' R w' := by
  have kb : ∀ (g : Nat) D (t : Nat), wr.heap[g]? = some (.cells D t (0, 0)) → w'.heap[g]? = wr.heap[g]? := fun g D t hD => hg.block g (Array.getElem?_eq_some_iff.1 hD).1 (fun q => h.mp.row hD (Option.some.inj q).symm)
  exact ⟨⟨hg.os.trans h.bel.os, hg.tape.trans h.bel.tape, hg.output.trans h.bel.output, Nat.le_trans h.bel.size hg.size, fun j hj => (hg.block j (Nat.lt_of_lt_of_le hj h.bel.size) (fun q => by
    have := Option.some.inj q
    have := h.lm
    omega)).trans (h.bel.block j hj)⟩, (kb _ _ _ h.r1).trans h.r1, (kb _ _ _ h.rbx).trans h.rbx, h.lb, h.lm, h.tw.rows fun g D t hD _ => kb g D t hD, hm⟩
/-- The first output of a name, among the first i. -/
def fI (o : List Out) (i : Nat) (k : S) : Option Nat := (o.take i).findIdx? fun x => decide (x.1 = k)
theorem fI_zero (o : List Out) : fI o 0 = fun _ => none := by funext k; simp [fI]
theorem fI_succ (o : List Out) (i : Nat) (x : Out) (hx : o[i]? = some x) (k : S) : fI o (i + 1) k = (fI o i k).or (if x.1 = k then some i else none) := by
  have hi : i < o.length := (List.getElem?_eq_some_iff.1 hx).1
  unfold fI
  rw [List.take_add_one, hx]
  show (o.take i ++ [x]).findIdx? _ = _
  rw [List.findIdx?_append, List.length_take, Nat.min_eq_left (by omega)]
  congr 1
  by_cases e : x.1 = k <;> simp [e]
theorem fI_hit (o : List Out) (i : Nat) (x : Out) (hx : o[i]? = some x) (h : (fI o i x.1).isSome = true) : fI o (i + 1) = fI o i := by
  funext k
  rw [fI_succ o i x hx k]
  by_cases e : x.1 = k
  · subst e
    cases hq : fI o i x.1 with
    | none => rw [hq] at h; cases h
    | some j => rfl
  · rw [if_neg e]
    cases fI o i k <;> rfl
theorem fI_miss (o : List Out) (i : Nat) (x : Out) (hx : o[i]? = some x) (h : (fI o i x.1).isSome = false) : fI o (i + 1) = fun t => if t = x.1 then some i else fI o i t := by
  funext k
  rw [fI_succ o i x hx k]
  by_cases e : x.1 = k
  · subst e
    cases hq : fI o i x.1 with
    | none => simp
    | some j => rw [hq] at h; cases h
  · rw [if_neg e, if_neg (fun q => e q.symm)]
    cases fI o i k <;> rfl
section
attribute [local go_sem ↓] toLdR toStR toLdP
end
end Go.Proofs.YtceclpabdfncoaaDoor.Re

/- Recipes: Blank and Put of the code. -/
namespace Go.Proofs.YtceclpabdfncoaaDoor.Re
open Go.RowKit
theorem results_R2 {fn : Func} {p u : Tmp} (h : fn.results = #[.cell p 33, .tmp u]) (tmps : Array Value) (w : World) (g : Nat) (C : Array Value) (hC : C.size = 7)
    (hp : tmps.getD p undef = .pointer (some ⟨g, 0, none⟩)) (hg : w.heap[g]? = some (.cells C 33 (0, 0))) :
    (results fn tmps).run Tryd.prog w = .ok (.tuple #[.agg C, tmps.getD u undef]) w := by
  have hp' : tmps[p]?.getD undef = .pointer (some ⟨g, 0, none⟩) := by simpa using hp
  simp [results, h, hp', asAddr, run_loadVar_row w g 33 33 C (0, 0) _ hg Tryd.underlying33 rfl (by rw [sizeR, hC])]
def EMP : S := ⟨#[]⟩
theorem flat_rep (n : Nat) : flat (List.replicate n (sR EMP)) = List.replicate n (.string EMP) := by
  induction n with
  | zero => rfl
  | succ n ih =>
    rw [List.replicate_succ, List.replicate_succ, ← ih]
    rfl
theorem run_mkS (w : World) (n : Nat) (hn : n ≤ 10000000) : ∃ w', (Instr.makeSlice 22 (.int .i64 (n : Int)) (.int .i64 (n : Int))).run Tryd.prog w = .ok (.slice (some ⟨w.heap.size, 0, none⟩) n n) w' ∧ Ls w' (.slice (some ⟨w.heap.size, 0, none⟩) n n) 1 ((List.replicate n EMP).map sR) ∧ Below w.heap.size w w' := by
  obtain ⟨i0, hi0, hz0, hz1, hz2⟩ := info_parts infoS
  obtain ⟨w', h1, h2, h3⟩ := run_make_full (P := Tryd.prog) w w.heap.size 22 9 i0 _ 1 Tryd.underlying22 hi0 hz0 hz1 .i64 .i64 n (by rw [hz2]; omega) (by unfold maxLen; omega) (Nat.le_refl _)
  have e : (madeCells (Value.cells (.string EMP)) (n * 1)).toList = List.replicate n (.string EMP) := by
    apply List.ext_getElem?
    intro j
    simp only [madeCells, Nat.mul_one, List.getElem?_replicate]
    by_cases q : j < n
    · simp [q, Value.cells, Nat.mod_one]
    · simp [q]
  refine ⟨w', h1, ?_, ⟨h3.os, h3.tape, h3.output, h3.size, fun j hj => h3.block j hj (fun q => by cases q)⟩⟩
  have ho : Ol w.heap.size 9 1 w' (.slice (some ⟨w.heap.size, 0, none⟩) n n) ((List.replicate n EMP).map sR) := by
    refine ⟨?_, rs_s _⟩
    rw [List.map_replicate, flat_rep, List.length_replicate, ← e]
    exact h2
  exact ho.ls
/-- What a function that gives a recipe back leaves. -/
def GiR (W : World) (Q : Rcp) (en : Ending) (w' : World) : Prop := ∃ o' n' s' a' e' us, en = .returned (.agg (rV o' n' s' Q.sys Q.bld a' e')) ∧ Tw W.heap.size w' o' n' s' a' e' us Q ∧ Below W.heap.size W w'
def GiE (W : World) (Q : Rcp) (E : Int) (en : Ending) (w' : World) : Prop := ∃ o' n' s' a' e' us, en = .returned (.tuple #[.agg (rV o' n' s' Q.sys Q.bld a' e'), .int .i64 E]) ∧ Tw W.heap.size w' o' n' s' a' e' us Q ∧ Below W.heap.size W w'
def ZER : Rcp := ⟨[], [], [], EMP, EMP, [], []⟩
theorem tw_zer (base : Nat) (W : World) : Tw base W (.slice none 0 0) (.slice none 0 0) (.slice none 0 0) (.slice none 0 0) (.slice none 0 0) [] ZER := ⟨ol_nil _ _ _ _, ol_nil _ _ _ _, ol_nil _ _ _ _, ol_nil _ _ _ _, ol_nil _ _ _ _, rfl, fun i x u h => by simp [ZER] at h⟩
/-- The answer is laid into its place. -/
theorem Tw.give {W B w : World} {o n s a e : Value} {us : List Value} {Q : Rcp} {c : Array Value} (hb : Bx W c B) (h : Tw B.heap.size w o n s a e us Q) (hw : Below B.heap.size B w) {C : Array Value} (hC : C.size = 7) (h1 : C.all (·.oneCell') = true) :
    (stR (.pointer (some ⟨W.heap.size + 1, 0, none⟩)) (.agg C)).run Tryd.prog w = .ok () (w.setRow (W.heap.size + 1) C) ∧ Tw W.heap.size (w.setRow (W.heap.size + 1) C) o n s a e us Q ∧ Below W.heap.size W (w.setRow (W.heap.size + 1) C) ∧ (w.setRow (W.heap.size + 1) C).heap[W.heap.size + 1]? = some (.cells C 33 (0, 0)) := by
  have bx := hb.below hw
  exact ⟨st_R w (W.heap.size + 1) _ C rfl hC h1 bx.r1, (h.mono hb.bel.size).rows (fun g D t hD ht => setRow_other _ _ _ _ (tag_ne hD bx.r1 ht)), below_setRow bx.bel (by omega) _, setRow_heap _ _ _ _ _ _ bx.r1⟩
theorem Tw.one {base : Nat} {w : World} {o n s a e : Value} {us : List Value} {Q : Rcp} (tw : Tw base w o n s a e us Q) (sys bld : S) : (rV o n s sys bld a e).all (·.oneCell') = true := by
  obtain ⟨_, _, q1, -⟩ := tw.fo.form
  obtain ⟨_, _, q2, -⟩ := tw.fn.form
  obtain ⟨_, _, q3, -⟩ := tw.fs.form
  obtain ⟨_, _, q4, -⟩ := tw.fa.form
  obtain ⟨_, _, q5, -⟩ := tw.fe.form
  rw [q1, q2, q3, q4, q5]
  simp [rV, Value.oneCell']
/-- The answer is laid, and will be given back. -/
structure Gv (W : World) (Q : Rcp) (o n s a e : Value) (us : List Value) (Z : World) : Prop where
  tw : Tw W.heap.size Z o n s a e us Q
  bel : Below W.heap.size W Z
  row : Z.heap[W.heap.size + 1]? = some (.cells (rV o n s Q.sys Q.bld a e) 33 (0, 0))
theorem Tw.gv {W B w : World} {o n s a e : Value} {us : List Value} {Q : Rcp} {c : Array Value} (hb : Bx W c B) (h : Tw B.heap.size w o n s a e us Q) (hw : Below B.heap.size B w) :
    ∃ Z, (stR (.pointer (some ⟨W.heap.size + 1, 0, none⟩)) (.agg (rV o n s Q.sys Q.bld a e))).run Tryd.prog w = .ok () Z ∧ Hid (Gv W Q o n s a e us Z) := by
  obtain ⟨s1, s2, s3, s4⟩ := Tw.give hb h hw (C := rV o n s Q.sys Q.bld a e) rfl (h.one _ _)
  exact ⟨_, s1, s2, s3, s4⟩
section
attribute [local go_sem ↓] toLdR toStR
end
end Go.Proofs.YtceclpabdfncoaaDoor.Re

/- Recipes: Blank and Put of the document. -/
namespace Go.Proofs.YtceclpabdfncoaaDoor.Re
open Go.RowKit
/-- A recipe of one's own in the box. -/
structure Rd (W : World) (C : Array Value) (o n s a e : Value) (us : List Value) (R : Rcp) (wr : World) : Prop where
  bx : Bx W C wr
  tw : Tw W.heap.size wr o n s a e us R
theorem Rd.below {W : World} {C : Array Value} {o n s a e : Value} {us : List Value} {R : Rcp} {wr w' : World} (h : Rd W C o n s a e us R wr) (hb : Below wr.heap.size wr w') : Rd W C o n s a e us R w' := ⟨h.bx.below hb, h.tw.below hb⟩
theorem Rd.setO {W : World} {C : Array Value} {g m c : Nat} {n s a e : Value} {us : List Value} {R : Rcp} {wr : World} (h : Rd W C (.slice (some ⟨g, 0, none⟩) m c) n s a e us R wr) {i : Nat} {x : Out} (l : S) (hx : R.o[i]? = some x) : Rd W C (.slice (some ⟨g, 0, none⟩) m c) n s a e us { R with o := R.o.set i (x.1, l, x.2.2) } (wr.setCell ⟨g, i * 4 + 1, none⟩ (.string l)) := ⟨h.bx.other h.tw.fo (by decide) (Nat.le_refl _), h.tw.setO l hx⟩
theorem Rd.setE {W : World} {C : Array Value} {g m c : Nat} {o n s a : Value} {us : List Value} {R : Rcp} {wr : World} (h : Rd W C o n s a (.slice (some ⟨g, 0, none⟩) m c) us R wr) {i : Nat} {x : Pai} (l : S) (hx : R.e[i]? = some x) : Rd W C o n s a (.slice (some ⟨g, 0, none⟩) m c) us { R with e := R.e.set i (x.1, l) } (wr.setCell ⟨g, i * 2 + 1, none⟩ (.string l)) := ⟨h.bx.other h.tw.fe (by decide) (Nat.le_refl _), h.tw.setE l hx⟩
theorem lk_app (l : List (Out × S)) (z : Out × S) (k : S) : lk (l ++ [z]) k = (lk l k).or (if z.1.1 = k then some z.2 else none) := by
  unfold lk
  rw [List.find?_append]
  cases h : l.find? (fun z => decide (z.1.1 = k)) with
  | none =>
    by_cases e : z.1.1 = k <;> simp [e]
  | some y => simp
theorem lk_emp {o : List Out} {n i : Nat} {k l : S} (h : lk ((o.zip (List.replicate n EMP)).take i) k = some l) : l = EMP := by
  unfold lk at h
  rw [Option.map_eq_some_iff] at h
  obtain ⟨z, hz, rfl⟩ := h
  have := List.mem_of_mem_take (List.mem_of_find?_eq_some hz)
  have := (List.of_mem_zip (a := z.1) (b := z.2) this).2
  exact (List.mem_replicate.1 this).2
theorem gP_take_hit {o : List Out} {n i : Nat} {x : Out} (hx : o[i]? = some x) (hn : o.length = n) (p : Pai) (h : x.1 = p.1) : gP ((o.zip (List.replicate n EMP)).take (i + 1)) p = (p.1, EMP) := by
  have hi := (List.getElem?_eq_some_iff.1 hx).1
  have hz : (o.zip (List.replicate n EMP))[i]? = some (x, EMP) := by rw [List.getElem?_zip_eq_some]; exact ⟨hx, by rw [List.getElem?_replicate, if_pos (by omega)]⟩
  unfold gP
  rw [List.take_add_one, hz]
  show (match lk (List.take i (o.zip (List.replicate n EMP)) ++ [(x, EMP)]) p.1 with | some l => (p.1, l) | none => p) = _
  rw [lk_app, if_pos h]
  cases hq : lk ((o.zip (List.replicate n EMP)).take i) p.1 with
  | none => rfl
  | some l =>
    obtain rfl := lk_emp hq
    rfl
theorem gP_take_miss {o : List Out} {n i : Nat} {x : Out} (hx : o[i]? = some x) (hn : o.length = n) (p : Pai) (h : x.1 ≠ p.1) : gP ((o.zip (List.replicate n EMP)).take (i + 1)) p = gP ((o.zip (List.replicate n EMP)).take i) p := by
  have hi := (List.getElem?_eq_some_iff.1 hx).1
  have hz : (o.zip (List.replicate n EMP))[i]? = some (x, EMP) := by rw [List.getElem?_zip_eq_some]; exact ⟨hx, by rw [List.getElem?_replicate, if_pos (by omega)]⟩
  unfold gP
  rw [List.take_add_one, hz]
  show (match lk (List.take i (o.zip (List.replicate n EMP)) ++ [(x, EMP)]) p.1 with | some l => (p.1, l) | none => p) = _
  rw [lk_app, if_neg h]
  cases lk ((o.zip (List.replicate n EMP)).take i) p.1 <;> rfl
theorem tl_ne {s t : S} (h : ¬ s = t) : (ByteArray.toList s == ByteArray.toList t) = false := by
  rw [ByteArray.toList_eq, ByteArray.toList_eq]
  simp only [beq_eq_false_iff_ne, ne_eq]
  intro e
  apply h
  cases s; cases t
  simp at e
  rw [e]
section
attribute [local go_sem ↓] toLdR toStR
end
end Go.Proofs.YtceclpabdfncoaaDoor.Re
