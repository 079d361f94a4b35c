/- Recipes: a map from texts to numbers; labels by their names; a recipe of one's own, written over. -/
import Derived.Test.YtcggaiplepekdaaRcO
import Derived.Maps.OwnSet
import Derived.Maps.Views
import Derived.StringKeys
import Derived.Carry
namespace Go.Proofs.Ytcggaiplepekdaa
open Go.RowKit
theorem keyS : Maps.Keyed Try.prog 9 := Maps.string_keyed Try.underlying9
theorem zero3 (w : World) : (zeroValue 3).run Try.prog w = .ok (.int .i64 0) w := by
  have h : (Try.prog.info? 3).map (fun i => i.zero) = some (some (.int .i64 0)) := by kernel_rfl
  cases hq : Try.prog.info? 3 with
  | none => simp [hq] at h
  | some i =>
    rw [hq] at h
    simp only [Option.map_some, Option.some.injEq] at h
    simp [zeroValue, typeInfo, hq, h]
def kS (s : S) : Lit := .string s.data.toList
theorem kS_inj {s t : S} (h : kS s = kS t) : s = t := by
  unfold kS at h
  injection h with h
  cases s; cases t
  simp at h
  rw [h]
theorem kS_key {s : S} (h : s.size ≤ maxLen) : keyOf Try.prog 9 (.string s) = some (kS s) := Go.WideMaps.keyOf_string_mk Try.underlying9 h
/-- A map from texts to numbers. -/
def Mp (w : World) (b n : Nat) (f : S → Option Nat) : Prop :=
  ∃ D : DataW Unit, w.ownsMap Try.prog 9 (plainElem Try.prog 3) b n D ∧ Maps.IsMap D ∧ ∀ s : S, Maps.has D (kS s) = (f s).isSome ∧ ∀ i, f s = some i → D.atKey (kS s) (.lit (.int .i64 0)) = .lit (.int .i64 (i : Int))
theorem mp_made (w : World) : Mp (w.alloc (.map #[] 0)) w.heap.size 0 (fun _ => none) := ⟨_, World.ownsMap_made w _ _ _, Maps.isMap_empty, fun s => ⟨rfl, fun i h => by cases h⟩⟩
theorem Mp.lt {w : World} {b n : Nat} {f : S → Option Nat} (h : Mp w b n f) : b < w.heap.size := by
  obtain ⟨D, h, -⟩ := h
  exact h.lt
theorem Mp.keep {w w' : World} {b n : Nat} {f : S → Option Nat} (h : Mp w b n f) (hb : w'.heap[b]? = w.heap[b]?) : Mp w' b n f := by
  obtain ⟨D, ⟨es, clock, h1, h2⟩, h3⟩ := h
  exact ⟨D, ⟨es, clock, hb.trans h1, h2⟩, h3⟩
theorem Mp.row {w : World} {b n : Nat} {f : S → Option Nat} (h : Mp w b n f) {g : Nat} {C : Array Value} {t : Nat} (hg : w.heap[g]? = some (.cells C t (0, 0))) : b ≠ g := by
  obtain ⟨D, ⟨es, clock, h1, h2⟩, h3⟩ := h
  intro e
  subst e
  have := h1.symm.trans hg
  cases this
theorem Mp.look {w : World} {b n : Nat} {f : S → Option Nat} (h : Mp w b n f) (s : S) (hs : s.size ≤ maxLen) : ∃ c : Int, (Instr.lookup 61 (.map (some b)) (.string s) true).run Try.prog w = .ok (.tuple #[.int .i64 c, .bool (f s).isSome]) w ∧ ∀ i, f s = some i → c = (i : Int) := by
  obtain ⟨D, h1, h2, h3⟩ := h
  obtain ⟨v, ps, hrun, hv⟩ := h1.look_ok keyS Try.underlying61 (zero3 w) (plainElem_int Try.underlying3 (by decide)) (kS_key hs)
  obtain ⟨c, rfl, hc, hwc⟩ := plainElem_int_inv Try.underlying3 hv
  rw [(h3 s).1] at hrun
  refine ⟨c, hrun, fun i hi => ?_⟩
  have := (h3 s).2 i hi
  have h4 := congrArg Prod.fst hc
  change D.atKey (kS s) (.lit (.int .i64 0)) = .lit (.int .i64 c) at h4
  rw [this] at h4
  simp only [DataW.lit.injEq, Lit.int.injEq, true_and] at h4
  exact h4.symm
theorem Mp.put {w : World} {b n : Nat} {f : S → Option Nat} (h : Mp w b n f) (s : S) (hs : s.size ≤ maxLen) (i : Nat) (hi : i ≤ 10000000) (hn : n ≤ 10000000) : ∃ w', (Instr.mapUpdate 61 (.map (some b)) (.string s) (.int .i64 (i : Int))).run Try.prog w = .ok () w' ∧ Mp w' b (n + 1) (fun t => if t = s then some i else f t) ∧ w.grownBy w' (some b) := by
  obtain ⟨D, h1, h2, h3⟩ := h
  have hw : (Lit.int .i64 (i : Int)).wf = true := by
    have h1 : (i : Int) ≤ 10000000 := by omega
    have h2 : (0 : Int) ≤ (i : Int) := by omega
    have h3 : IntKind.i64.min = -9223372036854775808 := by decide
    have h4 : IntKind.i64.max = 9223372036854775807 := by decide
    simp [Lit.wf, h3, h4]
    omega
  obtain ⟨w', q1, q2, q3⟩ := h1.update keyS Try.underlying61 (by unfold maxLen; omega) (kS_key hs) (plainElem_int (H := Unit) Try.underlying3 hw)
  refine ⟨w', q1, ⟨_, q2, h2.put _ _, fun t => ?_⟩, q3⟩
  have hk : WideAt.IsKeyLit (kS s) := keyS.key (kS_key hs)
  by_cases e : t = s
  · subst e
    refine ⟨by simp [Maps.has_put_same h2 hk], fun j hj => ?_⟩
    simp at hj
    subst hj
    exact Maps.atKey_put_same h2 hk _ _
  · have hne : kS t ≠ kS s := fun q => e (kS_inj q)
    simp only [if_neg e]
    rw [Maps.has_put_other hne]
    refine ⟨(h3 t).1, fun j hj => ?_⟩
    rw [Maps.atKey_put_other hne]
    exact (h3 t).2 j hj
/-- The label of the first output of a name. -/
def lk (zs : List (Out × S)) (k : S) : Option S := (zs.find? fun z => decide (z.1.1 = k)).map (·.2)
def gP (zs : List (Out × S)) (p : Pai) : Pai := match lk zs p.1 with
  | some l => (p.1, l)
  | none => p
theorem gP_key (zs : List (Out × S)) (p : Pai) : (gP zs p).1 = p.1 := by unfold gP; split <;> rfl
theorem lk_cons (z : Out × S) (zs : List (Out × S)) (k : S) : lk (z :: zs) k = if z.1.1 = k then some z.2 else lk zs k := by
  unfold lk
  rw [List.find?_cons]
  by_cases h : z.1.1 = k <;> simp [h]
theorem gP_cons_hit (z : Out × S) (zs : List (Out × S)) (p : Pai) (h : z.1.1 = p.1) : gP (z :: zs) p = (p.1, z.2) := by unfold gP; rw [lk_cons, if_pos h]
theorem gP_cons_miss (z : Out × S) (zs : List (Out × S)) (p : Pai) (h : z.1.1 ≠ p.1) : gP (z :: zs) p = gP zs p := by unfold gP; rw [lk_cons, if_neg h]
theorem lk_idx : ∀ (o : List Out) (ls : List S) (k : S), ls.length = o.length → ∀ j, o.findIdx? (fun x => decide (x.1 = k)) = some j → ∃ l, ls[j]? = some l ∧ lk (o.zip ls) k = some l
  | [], ls, k, _, j, h => by simp at h
  | x :: o, [], k, hl, j, h => by simp at hl
  | x :: o, l :: ls, k, hl, j, h => by
    rw [List.findIdx?_cons] at h
    rw [List.zip_cons_cons, lk_cons]
    by_cases e : x.1 = k
    · simp only [e, decide_true, if_true, Option.some.injEq] at h
      subst h
      exact ⟨l, rfl, if_pos e⟩
    · simp only [e, decide_false, Bool.false_eq_true, if_false] at h
      cases hq : o.findIdx? (fun x => decide (x.1 = k)) with
      | none => rw [hq] at h; cases h
      | some j' =>
        rw [hq] at h
        simp at h
        subst h
        obtain ⟨l', q1, q2⟩ := lk_idx o ls k (by simpa using hl) j' hq
        exact ⟨l', by simpa using q1, by rw [if_neg e]; exact q2⟩
theorem lk_none : ∀ (o : List Out) (ls : List S) (k : S), o.findIdx? (fun x => decide (x.1 = k)) = none → lk (o.zip ls) k = none
  | [], ls, k, h => by simp [lk]
  | x :: o, [], k, h => by simp [lk]
  | x :: o, l :: ls, k, h => by
    rw [List.findIdx?_cons] at h
    rw [List.zip_cons_cons, lk_cons]
    by_cases e : x.1 = k
    · simp [e] at h
    · simp only [e, decide_false, Bool.false_eq_true, if_false] at h
      rw [if_neg e]
      exact lk_none o ls k (by simpa using h)
/-- The outputs with other labels. -/
def rlo (o : List Out) (ls : List S) : List Out := List.zipWith (fun x l => (x.1, l, x.2.2)) o ls
/-- The recipe with other labels. -/
def rel (R : Rcp) (ls : List S) : Rcp := { R with o := rlo R.o ls, e := R.e.map (gP (R.o.zip ls)) }
/-- Outputs, some of which have their new labels. -/
def Dn (o : List Out) (ls : List S) (d : Nat → Bool) (oi : List Out) : Prop := oi.length = o.length ∧ ∀ (j : Nat) x l, o[j]? = some x → ls[j]? = some l → oi[j]? = some (if d j = true then (x.1, l, x.2.2) else x)
theorem Dn.start (o : List Out) (ls : List S) : Dn o ls (fun _ => false) o := ⟨rfl, fun j x l h _ => by simpa using h⟩
theorem Dn.name {o : List Out} {ls : List S} {d : Nat → Bool} {oi : List Out} (h : Dn o ls d oi) {j : Nat} {x : Out} {l : S} (hx : o[j]? = some x) (hl : ls[j]? = some l) : ∃ y, oi[j]? = some y ∧ y.1 = x.1 ∧ (y.1, l, y.2.2) = (x.1, l, x.2.2) := by
  refine ⟨_, h.2 j x l hx hl, ?_, ?_⟩ <;> cases d j <;> rfl
theorem Dn.set {o : List Out} {ls : List S} {d d' : Nat → Bool} {oi : List Out} (h : Dn o ls d oi) {i : Nat} {x y : Out} {l : S} (hx : o[i]? = some x) (hl : ls[i]? = some l) (hy : oi[i]? = some y) (hd : ∀ j, d' j = (d j || decide (j = i))) : Dn o ls d' (oi.set i (y.1, l, y.2.2)) := by
  refine ⟨by rw [List.length_set]; exact h.1, fun j u m q1 q2 => ?_⟩
  obtain ⟨y', e1, e2, e3⟩ := h.name hx hl
  obtain rfl : y = y' := Option.some.inj (hy.symm.trans e1)
  rw [hd j]
  by_cases e : j = i
  · subst e
    obtain rfl : x = u := Option.some.inj (hx.symm.trans q1)
    obtain rfl : l = m := Option.some.inj (hl.symm.trans q2)
    rw [List.getElem?_set_self (by rw [h.1]; exact (List.getElem?_eq_some_iff.1 hx).1)]
    simp [e3]
  · rw [List.getElem?_set_ne (fun q => e q.symm), h.2 j u m q1 q2]
    simp [e]
theorem Dn.fin {o : List Out} {ls : List S} {d : Nat → Bool} {oi : List Out} (h : Dn o ls d oi) (hd : ∀ j, j < o.length → d j = true) (hl : ls.length = o.length) : oi = rlo o ls := by
  apply List.ext_getElem?
  intro j
  by_cases q : j < o.length
  · have h1 := h.2 j _ _ (List.getElem?_eq_getElem q) (List.getElem?_eq_getElem (by omega))
    rw [h1, hd j q]
    unfold rlo
    rw [List.getElem?_zipWith, List.getElem?_eq_getElem q, List.getElem?_eq_getElem (by omega)]
    rfl
  · rw [List.getElem?_eq_none (by rw [h.1]; omega), List.getElem?_eq_none (by unfold rlo; rw [List.length_zipWith]; omega)]
/-- Pairs, each as a function has it. -/
def De (e : List Pai) (G : Nat → Pai → Pai) (ei : List Pai) : Prop := ei.length = e.length ∧ ∀ (j : Nat) p, e[j]? = some p → ei[j]? = some (G j p)
theorem De.start (e : List Pai) : De e (fun _ p => p) e := ⟨rfl, fun _ _ h => h⟩
theorem De.to {e : List Pai} {G G' : Nat → Pai → Pai} {ei : List Pai} (h : De e G ei) (hg : ∀ j p, e[j]? = some p → G' j p = G j p) : De e G' ei := ⟨h.1, fun j p q => by rw [hg j p q]; exact h.2 j p q⟩
theorem De.set {e : List Pai} {G G' : Nat → Pai → Pai} {ei : List Pai} (h : De e G ei) {i : Nat} {p q : Pai} (hp : e[i]? = some p) (hq : G' i p = q) (hg : ∀ j p, e[j]? = some p → j ≠ i → G' j p = G j p) : De e G' (ei.set i q) := by
  refine ⟨by rw [List.length_set]; exact h.1, fun j u z => ?_⟩
  by_cases c : j = i
  · subst c
    obtain rfl : p = u := Option.some.inj (hp.symm.trans z)
    rw [List.getElem?_set_self (by rw [h.1]; exact (List.getElem?_eq_some_iff.1 hp).1), hq]
  · rw [List.getElem?_set_ne (fun q => c q.symm), hg j u z c]
    exact h.2 j u z
theorem De.fin {e : List Pai} {G : Nat → Pai → Pai} {ei : List Pai} (h : De e G ei) {g : Pai → Pai} (hg : ∀ j p, e[j]? = some p → G j p = g p) : ei = e.map g := by
  apply List.ext_getElem?
  intro j
  rw [List.getElem?_map]
  cases q : e[j]? with
  | none => rw [List.getElem?_eq_none (by rw [h.1]; exact List.getElem?_eq_none_iff.1 q)]; rfl
  | some p => rw [h.2 j p q, hg j p q]; rfl
theorem Tw.below {base : Nat} {W W' : World} {o n s a e : Value} {us : List Value} {R : Rcp} (h : Tw base W o n s a e us R) (hb : Below W.heap.size W W') : Tw base W' o n s a e us R := ⟨h.fo.below hb, h.fn.below hb, h.fs.below hb, h.fa.below hb, h.fe.below hb, h.ul, fun i x u q1 q2 => (h.each i x u q1 q2).below hb⟩
theorem Tw.mono {base base' : Nat} {W : World} {o n s a e : Value} {us : List Value} {R : Rcp} (h : Tw base W o n s a e us R) (hb : base' ≤ base) : Tw base' W o n s a e us R := ⟨h.fo.mono hb, h.fn.mono hb, h.fs.mono hb, h.fa.mono hb, h.fe.mono hb, h.ul, fun i x u q1 q2 => (h.each i x u q1 q2).mono hb⟩
theorem Ol.rowOf {base e sz : Nat} {W W' : World} {v : Value} {l : List (Array Value)} (h : Ol base e sz W v l) (hk : ∀ (g : Nat) C, W.heap[g]? = some (.cells C e (0, 0)) → W'.heap[g]? = W.heap[g]?) : Ol base e sz W' v l := h.keep fun g hg => by
  obtain ⟨_, _, cur, hc⟩ := h.tag hg
  exact hk g cur hc
/-- Rows of a recipe's kinds stay. -/
theorem Tw.rows {base : Nat} {W W' : World} {o n s a e : Value} {us : List Value} {R : Rcp} (h : Tw base W o n s a e us R) (hk : ∀ (g : Nat) C (t : Nat), W.heap[g]? = some (.cells C t (0, 0)) → t ≠ 27 → W'.heap[g]? = W.heap[g]?) : Tw base W' o n s a e us R :=
  ⟨h.fo.rowOf fun g C q => hk g C _ q (by decide), h.fn.rowOf fun g C q => hk g C _ q (by decide), h.fs.rowOf fun g C q => hk g C _ q (by decide), h.fa.rowOf fun g C q => hk g C _ q (by decide), h.fe.rowOf fun g C q => hk g C _ q (by decide), h.ul, fun i x u q1 q2 => (h.each i x u q1 q2).rowOf fun g C q => hk g C _ q (by decide)⟩
theorem Tw.setO {base : Nat} {W : World} {g m c : Nat} {n s a e : Value} {us : List Value} {R : Rcp} (h : Tw base W (.slice (some ⟨g, 0, none⟩) m c) n s a e us R) {i : Nat} {x : Out} (l : S) (hx : R.o[i]? = some x) : Tw base (W.setCell ⟨g, i * 4 + 1, none⟩ (.string l)) (.slice (some ⟨g, 0, none⟩) m c) n s a e us { R with o := R.o.set i (x.1, l, x.2.2) } := by
  have hx2 : (R.o.map oR)[i]? = some (oR x) := by rw [List.getElem?_map, hx]; rfl
  have := h.fo.setc i 1 _ (.string l) hx2 (by omega) rfl
  refine ⟨?_, h.fn.other h.fo (by decide), h.fs.other h.fo (by decide), h.fa.other h.fo (by decide), h.fe.other h.fo (by decide), h.ul, fun j x u q1 q2 => (h.each j x u q1 q2).other h.fo (by decide)⟩
  show Ol _ _ _ _ _ ((R.o.set i (x.1, l, x.2.2)).map oR)
  rw [List.map_set]
  exact this
theorem Tw.setE {base : Nat} {W : World} {g m c : Nat} {o n s a : Value} {us : List Value} {R : Rcp} (h : Tw base W o n s a (.slice (some ⟨g, 0, none⟩) m c) us R) {i : Nat} {x : Pai} (l : S) (hx : R.e[i]? = some x) : Tw base (W.setCell ⟨g, i * 2 + 1, none⟩ (.string l)) o n s a (.slice (some ⟨g, 0, none⟩) m c) us { R with e := R.e.set i (x.1, l) } := by
  have hx2 : (R.e.map eR)[i]? = some (eR x) := by rw [List.getElem?_map, hx]; rfl
  have := h.fe.setc i 1 _ (.string l) hx2 (by omega) rfl
  refine ⟨h.fo.other h.fe (by decide), h.fn.other h.fe (by decide), h.fs.other h.fe (by decide), h.fa.other h.fe (by decide), ?_, h.ul, fun j x u q1 q2 => (h.each j x u q1 q2).other h.fe (by decide)⟩
  show Ol _ _ _ _ _ ((R.e.set i (x.1, l)).map eR)
  rw [List.map_set]
  exact this
end Go.Proofs.Ytcggaiplepekdaa
