/- Several texts in one: RcG, RcH, RcI, RcVals, RcQ. -/
import Derived.Test.YtceclpabdfncoaaDoorRcJa
import Derived.Laws.CopyOwn
import Derived.Test.YtceclpabdfncoaaDoorChecked
import Derived.RegionTactic
import Derived.WalkKit
/- Recipes: a recipe of one's own; the document's twin. -/
namespace Go.Proofs.YtceclpabdfncoaaDoor.Re
open Go.RowKit
/-- A recipe all of whose lists are one's own. -/
structure Tw (base : Nat) (W : World) (o n s a e : Value) (us : List Value) (R : Rcp) : Prop where
  fo : Ol base 48 4 W o (R.o.map oR)
  fn : Ol base 45 2 W n (List.zipWith nR R.n us)
  fs : Ol base 9 1 W s (R.s.map sR)
  fa : Ol base 9 1 W a (R.a.map sR)
  fe : Ol base 50 2 W e (R.e.map eR)
  ul : us.length = R.n.length
  each : ∀ (i : Nat) x u, R.n[i]? = some x → us[i]? = some u → Ol base 9 1 W u (x.2.map sR)
theorem Tw.rc {base : Nat} {W : World} {o n s a e : Value} {us : List Value} {R : Rcp} (h : Tw base W o n s a e us R) : Rc W o n s a e R := ⟨h.fo.ls, ⟨us, h.ul, h.fn.ls, fun i x u q1 q2 => (h.each i x u q1 q2).ls⟩, h.fs.ls, h.fa.ls, h.fe.ls⟩
/-- A recipe in a box, its answer's place behind it. -/
structure Bx (W : World) (c : Array Value) (wr : World) : Prop where
  bel : Below W.heap.size W wr
  r0 : wr.heap[W.heap.size]? = some (.cells c 33 (0, 0))
  r1 : wr.heap[W.heap.size + 1]? = some (.cells #[.slice none 0 0, .slice none 0 0, .slice none 0 0, .string ⟨#[]⟩, .string ⟨#[]⟩, .slice none 0 0, .slice none 0 0] 33 (0, 0))
theorem Bx.below {W wr w' : World} {c : Array Value} (h : Bx W c wr) (hb : Below wr.heap.size wr w') : Bx W c w' := ⟨h.bel.trans (hb.mono h.bel.size), (hb.block _ (Array.getElem?_eq_some_iff.1 h.r0).1).trans h.r0, (hb.block _ (Array.getElem?_eq_some_iff.1 h.r1).1).trans h.r1⟩
theorem Bx.set {W wr : World} {c : Array Value} (h : Bx W c wr) (k : Nat) (v : Value) : wr.frozen? ⟨W.heap.size, k, none⟩ = false ∧ Bx W (c.setIfInBounds k v) (wr.setCell ⟨W.heap.size, k, none⟩ v) :=
  ⟨frozen_of_row _ _ _ _ _ h.r0, h.bel.setCell (Nat.le_refl _) _, heap_setCell_same _ _ _ _ _ _ h.r0, (heap_setCell_other _ _ _ _ (by show W.heap.size + 1 ≠ W.heap.size; omega)).trans h.r1⟩
/-- The box is written into: no list is touched. -/
theorem Ol.box {base e sz : Nat} {W wr : World} {v u : Value} {c : Array Value} {l : List (Array Value)} (h : Ol base e sz wr v l) (hb : Bx W c wr) (he : e ≠ 33) (k : Nat) : Ol base e sz (wr.setCell ⟨W.heap.size, k, none⟩ u) v l := h.keep fun g hg => by
  obtain ⟨_, _, cur, hc⟩ := h.tag hg
  exact heap_setCell_other _ _ _ _ (by show g ≠ W.heap.size; exact tag_ne hc hb.r0 he)
theorem Ls.box {sz : Nat} {W wr : World} {v u : Value} {c : Array Value} {l : List (Array Value)} (h : Ls W v sz l) (hb : Bx W c wr) (k : Nat) : Ls (wr.setCell ⟨W.heap.size, k, none⟩ u) v sz l := h.below (hb.bel.setCell (Nat.le_refl _) _)
/-- Inputs in the making: the first i. -/
structure Nm (base : Nat) (wr : World) (lv : Value) (us : List Value) (l : List (S × List S)) (i : Nat) : Prop where
  own : Ol base 45 2 wr lv (List.zipWith nR (l.take i) us)
  ul : us.length = i
  each : ∀ (j : Nat) x u, j < i → l[j]? = some x → us[j]? = some u → Ol base 9 1 wr u (x.2.map sR)
theorem Nm.step {base : Nat} {wr w1 w2 : World} {lv lv' u : Value} {us : List Value} {l : List (S × List S)} {i : Nat} {x : S × List S} (h : Nm base wr lv us l i) (hx : l[i]? = some x) (hb : Below wr.heap.size wr w1) (hu : Ol base 9 1 w1 u (x.2.map sR)) (hp : ApP base 45 2 w1 lv (List.zipWith nR (l.take i) us ++ [nR x u]) lv' w2) : Nm base w2 lv' (us ++ [u]) l (i + 1) := by
  have hi : i < l.length := (List.getElem?_eq_some_iff.1 hx).1
  have ho1 := h.own.below hb
  refine ⟨?_, by rw [List.length_append, h.ul]; rfl, fun j y v hj hy hv => ?_⟩
  · have e : List.zipWith nR (l.take (i + 1)) (us ++ [u]) = List.zipWith nR (l.take i) us ++ [nR x u] := by
      rw [List.take_add_one, hx]
      show List.zipWith nR (l.take i ++ [x]) (us ++ [u]) = _
      rw [List.zipWith_append (by rw [List.length_take, h.ul]; omega)]
      rfl
    rw [e]
    exact hp.1
  · by_cases q : j < i
    · rw [List.getElem?_append_left (by rw [h.ul]; exact q)] at hv
      exact ((h.each j y v q hy hv).below hb).grown ho1 hp.2.1 (by decide)
    · obtain rfl : j = i := by omega
      rw [List.getElem?_append_right (by rw [h.ul]; exact Nat.le_refl _), h.ul, Nat.sub_self] at hv
      obtain rfl : u = v := by simpa using hv
      obtain rfl : x = y := Option.some.inj (hx.symm.trans hy)
      exact hu.grown ho1 hp.2.1 (by decide)
theorem Nm.below {base : Nat} {wr w1 : World} {lv : Value} {us : List Value} {l : List (S × List S)} {i : Nat} (h : Nm base wr lv us l i) (hb : Below wr.heap.size wr w1) : Nm base w1 lv us l i := ⟨h.own.below hb, h.ul, fun j x u q1 q2 q3 => (h.each j x u q1 q2 q3).below hb⟩
theorem Nm.box {base : Nat} {W wr : World} {c : Array Value} {lv v : Value} {us : List Value} {l : List (S × List S)} {i : Nat} (h : Nm base wr lv us l i) (hb : Bx W c wr) (k : Nat) : Nm base (wr.setCell ⟨W.heap.size, k, none⟩ v) lv us l i := ⟨h.own.box hb (by decide) k, h.ul, fun j x u q1 q2 q3 => (h.each j x u q1 q2 q3).box hb (by decide) k⟩
theorem Bx.grown {W wr w' : World} {c : Array Value} {base e sz : Nat} {v : Value} {l : List (Array Value)} (h : Bx W c wr) (ho : Ol base e sz wr v l) (hg : wr.grownBy w' v.ownBlock) (he : e ≠ 33) (hbase : W.heap.size ≤ base) : Bx W c w' := by
  have kb : ∀ (g : Nat) D, wr.heap[g]? = some (.cells D 33 (0, 0)) → w'.heap[g]? = wr.heap[g]? := fun g D hD => hg.block g (Array.getElem?_eq_some_iff.1 hD).1 (fun q => by
    obtain ⟨_, _, cur, hc⟩ := ho.tag q.symm
    exact tag_ne hc hD he rfl)
  refine ⟨⟨hg.os.trans h.bel.os, hg.tape.trans h.bel.tape, hg.output.trans h.bel.output, Nat.le_trans h.bel.size hg.size, fun j hj => (hg.block j (Nat.lt_of_lt_of_le hj h.bel.size) (fun q => by
    have := (ho.tag q.symm).1
    omega)).trans (h.bel.block j hj)⟩, (kb _ _ h.r0).trans h.r0, (kb _ _ h.r1).trans h.r1⟩
end Go.Proofs.YtceclpabdfncoaaDoor.Re

/- Recipes: the document's twin. -/
namespace Go.Proofs.YtceclpabdfncoaaDoor.Re
open Go.RowKit
def stR (p v : Value) : Sem Unit := Instr.storeAt 33 p v
theorem toStR (p v : Value) : Instr.storeAt 33 p v = stR p v := rfl
theorem st_R (w : World) (g : Nat) (C D : Array Value) (hC : C.size = 7) (hD : D.size = 7) (h1 : D.all (·.oneCell') = true) (hg : w.heap[g]? = some (.cells C 33 (0, 0))) : (stR (.pointer (some ⟨g, 0, none⟩)) (.agg D)).run Tryd.prog w = .ok () (w.setRow g D) := by
  unfold stR
  simp only [Instr.storeAt, Instr.sureAddr, Sem.run_bind, Sem.run_pure, Result.andThen_ok, run_storeVar_row w g 33 33 C D hg (by rw [sizeR, hD]) (by rw [hD, hC]) h1]
def zR : Array Value := #[.slice none 0 0, .slice none 0 0, .slice none 0 0, .string ⟨#[]⟩, .string ⟨#[]⟩, .slice none 0 0, .slice none 0 0]
theorem bx_new (W : World) (c : Array Value) : Bx W c ((W.alloc (.cells c 33)).alloc (.cells zR 33)) := ⟨below2 _ _ _, row2 _ _ _, row2n _ _ _⟩
theorem Ol.row {base e sz : Nat} {wr : World} {v : Value} {l : List (Array Value)} (h : Ol base e sz wr v l) {g : Nat} {C D : Array Value} (hg : wr.heap[g]? = some (.cells C 33 (0, 0))) (he : e ≠ 33) : Ol base e sz (wr.setRow g D) v l := h.keep fun g' hg' => by
  obtain ⟨_, _, cur, hc⟩ := h.tag hg'
  exact setRow_other _ _ _ _ (tag_ne hc hg he)
/-- A list that was copied into a box. -/
structure Cp (W : World) (e sz : Nat) (l : List (Array Value)) (wr : World) (v : Value) (w' : World) : Prop where
  own : Ol W.heap.size e sz w' v l
  bel : Below wr.heap.size wr w'
  sl : ∃ a n c, v = .slice a n c
theorem cp_of {W wr w' : World} {e sz : Nat} {l : List (Array Value)} {v : Value} (h : ApP W.heap.size e sz wr (.slice none 0 0) ([] ++ l) v w') : Cp W e sz l wr v w' := ⟨h.1, h.fresh, by obtain ⟨a, c, q, -⟩ := h.1.form; exact ⟨a, _, c, q⟩⟩
section
attribute [local go_sem ↓] toApO toApI toApS toApP toLdR toStR
end
end Go.Proofs.YtceclpabdfncoaaDoor.Re

/- Recipes: a cell of a list is written over; fresh, with one answer. -/
namespace Go.Proofs.YtceclpabdfncoaaDoor.Re
open Go.RowKit
theorem flat_set {sz : Nat} : ∀ {ls : List (Array Value)}, (∀ c ∈ ls, c.size = sz) → ∀ (i j : Nat) c x, ls[i]? = some c → j < sz → (flat ls).set (i * sz + j) x = flat (ls.set i (c.setIfInBounds j x))
  | [], _, i, j, c, x, h, _ => by simp at h
  | a :: l, hz, 0, j, c, x, h, hj => by
    obtain rfl : a = c := by simpa using h
    have ha : a.toList.length = sz := by rw [Array.length_toList]; exact hz a List.mem_cons_self
    show (a.toList ++ flat l).set (0 * sz + j) x = (a.setIfInBounds j x).toList ++ flat l
    rw [Nat.zero_mul, Nat.zero_add, List.set_append_left _ _ (by omega), Array.toList_setIfInBounds]
  | a :: l, hz, i + 1, j, c, x, h, hj => by
    have ih := flat_set (ls := l) (fun c hc => hz c (List.mem_cons_of_mem _ hc)) i j c x (by simpa using h) hj
    have ha : a.toList.length = sz := by rw [Array.length_toList]; exact hz a List.mem_cons_self
    show (a.toList ++ flat l).set ((i + 1) * sz + j) x = a.toList ++ flat (l.set i (c.setIfInBounds j x))
    rw [List.set_append_right _ _ (by rw [ha, Nat.add_mul]; omega), ha, show (i + 1) * sz + j - sz = i * sz + j by rw [Nat.add_mul]; omega, ih]
theorem Rs.set {sz : Nat} {l : List (Array Value)} (h : Rs sz l) (i j : Nat) (c : Array Value) (x : Value) (hc : l[i]? = some c) (hx : x.oneCell' = true) : Rs sz (l.set i (c.setIfInBounds j x)) := fun d hd => by
  rcases List.mem_or_eq_of_mem_set hd with q | q
  · exact h d q
  · subst q
    obtain ⟨h1, h2⟩ := h c (List.mem_of_getElem? hc)
    refine ⟨by simp [h1], ?_⟩
    rw [Array.all_eq_true_iff_forall_mem] at h2 ⊢
    intro u hu
    rcases Array.mem_or_eq_of_mem_setIfInBounds hu with q | q
    · exact h2 u q
    · subst q; exact hx
/-- A cell of an owned list is written over. -/
theorem Ol.setc {base e sz : Nat} {W : World} {g n cap : Nat} {l : List (Array Value)} (h : Ol base e sz W (.slice (some ⟨g, 0, none⟩) n cap) l) (i j : Nat) (c : Array Value) (x : Value) (hc : l[i]? = some c) (hj : j < sz) (hx : x.oneCell' = true) : Ol base e sz (W.setCell ⟨g, i * sz + j, none⟩ x) (.slice (some ⟨g, 0, none⟩) n cap) (l.set i (c.setIfInBounds j x)) := by
  have hn : n = l.length := by
    obtain ⟨a, k, q, -⟩ := h.form
    injection q
  subst hn
  have := h.1.stored (i * sz + j) x
  rw [flat_set h.2.sz i j c x hc hj] at this
  refine ⟨?_, h.2.set i j c x hc hx⟩
  rw [List.length_set]
  exact this.1
theorem Ol.own {base e sz : Nat} {W : World} {a : Option Addr} {n cap : Nat} {l : List (Array Value)} (h : Ol base e sz W (.slice a n cap) l) (hn : 0 < n) : ∃ g, a = some ⟨g, 0, none⟩ := by
  rcases h.1.2 with ⟨q, hq⟩ | ⟨g, _, _, q, _⟩
  · injection q with _ q2
    omega
  · injection q with q1
    exact ⟨g, q1⟩
theorem Ol.fro {base e sz : Nat} {W : World} {g n cap : Nat} {l : List (Array Value)} (h : Ol base e sz W (.slice (some ⟨g, 0, none⟩) n cap) l) (j : Nat) : W.frozen? ⟨g, j, none⟩ = false := by
  have hn : n = l.length := by
    obtain ⟨a, k, q, -⟩ := h.form
    injection q
  subst hn
  exact h.1.frozenAt j
theorem Ol.cel {base e sz : Nat} {W : World} {g n cap : Nat} {l : List (Array Value)} (h : Ol base e sz W (.slice (some ⟨g, 0, none⟩) n cap) l) (i j : Nat) (c : Array Value) (x : Value) (hc : l[i]? = some c) (hx : c[j]? = some x) : W.cell? ⟨g, i * sz + j, none⟩ = some x := by
  have := h.1.cells (g := g) rfl (i * sz + j) x (flat_at h.2.sz i c hc j x (by simpa using hx))
  rw [Addr.add_mid, Nat.zero_add] at this
  exact this
/-- A list of another kind stays where a cell is written over. -/
theorem Ol.other {base base' e e' sz sz' : Nat} {W : World} {v : Value} {g k n cap : Nat} {u : Value} {l l' : List (Array Value)} (h : Ol base e sz W v l) (h' : Ol base' e' sz' W (.slice (some ⟨g, 0, none⟩) n cap) l') (he : e ≠ e') : Ol base e sz (W.setCell ⟨g, k, none⟩ u) v l := h.keep fun b hb => by
  obtain ⟨_, _, cur, hc⟩ := h.tag hb
  obtain ⟨_, _, cur', hc'⟩ := h'.tag (g := g) rfl
  exact heap_setCell_other _ _ _ _ (by show b ≠ g; exact tag_ne hc hc' he)
/-- A list in another block stays. -/
theorem Ol.apart {base e sz : Nat} {W : World} {v : Value} {g k : Nat} {u : Value} {l : List (Array Value)} (h : Ol base e sz W v l) (hn : v.ownBlock ≠ some g) : Ol base e sz (W.setCell ⟨g, k, none⟩ u) v l := h.keep fun b hb => heap_setCell_other _ _ _ _ (by show b ≠ g; intro q; subst q; exact hn hb)
def FrD (fn : Nat) (W : World) (v : Value) (e sz : Nat) (l : List (Array Value)) : Prop := ∃ a n c w', Calls Tryd.prog fn #[v] W (fun en w => en = .returned (.slice a n c) ∧ w = w') ∧ Ol W.heap.size e sz w' (.slice a n c) l ∧ Below W.heap.size W w'
section
attribute [local go_sem ↓] toApO toApI toApS toApP
set_option maxRecDepth 100000 in
theorem fresDO (W : World) (v : Value) (l : List (Array Value)) (h : Ls W v 4 l) (hl : l.length ≤ MX) : FrD 25 W v 48 4 l := by
  obtain ⟨v', w', hr, hP⟩ := run_apO W W.heap.size (.slice none 0 0) v [] l (ol_nil _ _ _ _) h (by simpa using hl) (Nat.le_refl _)
  obtain ⟨oa, cap, hv, -⟩ := id h
  obtain ⟨n, hn⟩ : ∃ n, l.length = n := ⟨_, rfl⟩
  rw [hn] at hv
  subst hv
  obtain ⟨o', n', c', hv'⟩ : ∃ a b c, v' = .slice a b c := by
    rcases hP.1.1.2 with ⟨q, _⟩ | ⟨_, _, _, q, _⟩ <;> exact ⟨_, _, _, q⟩
  subst hv'
  refine ⟨o', n', c', w', ?_, by simpa using hP.1, ApP.fresh hP⟩
  clear h hl hP hn
  go_enter Tryd.func25, Tryd.ntmps25
  go_wp2_with fail
  go_ret
  exact ⟨rfl, rfl⟩
set_option maxRecDepth 100000 in
theorem fresDI (W : World) (v : Value) (l : List (Array Value)) (h : Ls W v 2 l) (hl : l.length ≤ MX) : FrD 26 W v 45 2 l := by
  obtain ⟨v', w', hr, hP⟩ := run_apI W W.heap.size (.slice none 0 0) v [] l (ol_nil _ _ _ _) h (by simpa using hl) (Nat.le_refl _)
  obtain ⟨oa, cap, hv, -⟩ := id h
  obtain ⟨n, hn⟩ : ∃ n, l.length = n := ⟨_, rfl⟩
  rw [hn] at hv
  subst hv
  obtain ⟨o', n', c', hv'⟩ : ∃ a b c, v' = .slice a b c := by
    rcases hP.1.1.2 with ⟨q, _⟩ | ⟨_, _, _, q, _⟩ <;> exact ⟨_, _, _, q⟩
  subst hv'
  refine ⟨o', n', c', w', ?_, by simpa using hP.1, ApP.fresh hP⟩
  clear h hl hP hn
  go_enter Tryd.func26, Tryd.ntmps26
  go_wp2_with fail
  go_ret
  exact ⟨rfl, rfl⟩
set_option maxRecDepth 100000 in
theorem fresDS (W : World) (v : Value) (l : List (Array Value)) (h : Ls W v 1 l) (hl : l.length ≤ MX) : FrD 27 W v 9 1 l := by
  obtain ⟨v', w', hr, hP⟩ := run_apS W W.heap.size (.slice none 0 0) v [] l (ol_nil _ _ _ _) h (by simpa using hl) (Nat.le_refl _)
  obtain ⟨oa, cap, hv, -⟩ := id h
  obtain ⟨n, hn⟩ : ∃ n, l.length = n := ⟨_, rfl⟩
  rw [hn] at hv
  subst hv
  obtain ⟨o', n', c', hv'⟩ : ∃ a b c, v' = .slice a b c := by
    rcases hP.1.1.2 with ⟨q, _⟩ | ⟨_, _, _, q, _⟩ <;> exact ⟨_, _, _, q⟩
  subst hv'
  refine ⟨o', n', c', w', ?_, by simpa using hP.1, ApP.fresh hP⟩
  clear h hl hP hn
  go_enter Tryd.func27, Tryd.ntmps27
  go_wp2_with fail
  go_ret
  exact ⟨rfl, rfl⟩
set_option maxRecDepth 100000 in
theorem fresDP (W : World) (v : Value) (l : List (Array Value)) (h : Ls W v 2 l) (hl : l.length ≤ MX) : FrD 28 W v 50 2 l := by
  obtain ⟨v', w', hr, hP⟩ := run_apP W W.heap.size (.slice none 0 0) v [] l (ol_nil _ _ _ _) h (by simpa using hl) (Nat.le_refl _)
  obtain ⟨oa, cap, hv, -⟩ := id h
  obtain ⟨n, hn⟩ : ∃ n, l.length = n := ⟨_, rfl⟩
  rw [hn] at hv
  subst hv
  obtain ⟨o', n', c', hv'⟩ : ∃ a b c, v' = .slice a b c := by
    rcases hP.1.1.2 with ⟨q, _⟩ | ⟨_, _, _, q, _⟩ <;> exact ⟨_, _, _, q⟩
  subst hv'
  refine ⟨o', n', c', w', ?_, by simpa using hP.1, ApP.fresh hP⟩
  clear h hl hP hn
  go_enter Tryd.func28, Tryd.ntmps28
  go_wp2_with fail
  go_ret
  exact ⟨rfl, rfl⟩
end
end Go.Proofs.YtceclpabdfncoaaDoor.Re

/- A region that draws its order, by the values of its operations. -/
namespace Go.Proofs.YtceclpabdfncoaaDoor.Re
open Go.RowKit
section
variable {P : Program} {md : Region.Mode} {ops : Array Oper} {Q : Exit → Act → World → Prop}
/-- The frame in a region that draws: slots that no operation fills are as they were; what is listed has its value. -/
structure RFr (ops : Array Oper) (a0 : Act) (V : Nat → Value) (listed : Array Bool) (a : Act) : Prop where
  df : a.defers = a0.defers
  sz : a.tmps.size = a0.tmps.size
  old : ∀ s : Nat, (∀ (j : Nat) o, ops[j]? = some o → o.dst ≠ some s) → a.tmps[s]? = a0.tmps[s]?
  val : ∀ (j : Nat) o d, ops[j]? = some o → o.dst = some d → listed.getD j true = true → a.tmps[d]? = some (V j)
theorem agetD (l : Array Bool) (i : Nat) (b : Bool) (h : i < l.size) : l.getD i b = l[i] := by unfold Array.getD; rw [dif_pos h]; rfl
theorem mem_ready {listed : Array Bool} {i : Nat} (h : i ∈ Region.ready md ops listed) : i < ops.size ∧ listed.getD i true = false ∧ ∀ o, ops[i]? = some o → ∀ e ∈ o.after, Region.binds md e = true → listed.getD e.on false = true := by
  unfold Region.ready at h
  obtain ⟨h1, h2⟩ := List.mem_filter.1 h
  have hi := List.mem_range.1 h1
  simp only [Bool.and_eq_true, Bool.not_eq_true'] at h2
  refine ⟨hi, h2.1, fun o ho e he hb => ?_⟩
  have h3 := h2.2
  rw [ho] at h3
  simp only [Option.map_some, Option.getD_some, Array.all_eq_true_iff_forall_mem] at h3
  have := h3 e he
  rw [hb] at this
  simpa using this
theorem ready_nil {listed : Array Bool} (hlt : ∀ (i : Nat) o, ops[i]? = some o → ∀ e ∈ o.after, Region.binds md e = true → e.on < i) (hs : listed.size = ops.size) (h : Region.ready md ops listed = []) : ∀ i, i < ops.size → listed.getD i true = true := by
  intro i
  induction i using Nat.strongRecOn with
  | _ i ih =>
    intro hi
    cases hc : listed.getD i true with
    | true => rfl
    | false =>
      exfalso
      have hm : i ∈ Region.ready md ops listed := by
        unfold Region.ready
        refine List.mem_filter.2 ⟨List.mem_range.2 hi, ?_⟩
        obtain ⟨o, ho⟩ : ∃ o, ops[i]? = some o := ⟨_, Array.getElem?_eq_getElem hi⟩
        simp only [hc, ho, Option.map_some, Option.getD_some, Bool.not_false, Bool.true_and, Array.all_eq_true_iff_forall_mem]
        intro e he
        cases hb : Region.binds md e with
        | false => simp
        | true =>
          have hl := hlt i o ho e he hb
          have h1 := ih e.on hl (by omega)
          have hsz : e.on < listed.size := by omega
          rw [agetD _ _ _ hsz] at h1 ⊢
          simp [h1]
      rw [h] at hm
      cases hm
theorem put_size (a : Act) (d : Option Tmp) (v : Value) : (a.put d v).tmps.size = a.tmps.size := by
  cases d <;> simp [Act.put]
theorem put_defers (a : Act) (d : Option Tmp) (v : Value) : (a.put d v).defers = a.defers := by
  cases d <;> rfl
theorem RFr.put {a0 : Act} {V : Nat → Value} {listed : Array Bool} {a : Act} (h : RFr ops a0 V listed a) {i : Nat} {o : Oper} (ho : ops[i]? = some o) (hs : listed.size = ops.size)
    (hd : ∀ (j : Nat) oj d, ops[j]? = some oj → oj.dst = some d → o.dst = some d → j = i) (hN : ∀ d, o.dst = some d → d < a0.tmps.size) : RFr ops a0 V (listed.setIfInBounds i true) (a.put o.dst (V i)) := by
  refine ⟨(put_defers _ _ _).trans h.df, (put_size _ _ _).trans h.sz, fun s hno => ?_, fun j oj d hj hdj hl => ?_⟩
  · have h1 := hno i o ho
    have h2 := h.old s hno
    cases hc : o.dst with
    | none => exact h2
    | some d =>
      have hne : d ≠ s := fun e => h1 (by rw [hc, e])
      show (a.tmps.setIfInBounds d (V i))[s]? = _
      rw [Array.getElem?_setIfInBounds_ne hne]
      exact h2
  · by_cases hji : j = i
    · subst hji
      have : oj = o := Option.some.inj (hj.symm.trans ho)
      subst this
      rw [hdj]
      show (a.tmps.setIfInBounds d (V j))[d]? = _
      rw [Array.getElem?_setIfInBounds_self]
      have := hN d hdj
      rw [if_pos (by rw [h.sz]; exact this)]
    · have hl2 : listed.getD j true = true := by
        have hjs : j < ops.size := (Array.getElem?_eq_some_iff.1 hj).1
        have hjl : j < listed.size := by omega
        rw [agetD _ _ _ (by simpa using hjl)] at hl
        rw [agetD _ _ _ hjl]
        rw [Array.getElem_setIfInBounds_ne hjl (Ne.symm hji)] at hl
        exact hl
      have h3 := h.val j oj d hj hdj hl2
      cases hc : o.dst with
      | none => exact h3
      | some d' =>
        have hne : d' ≠ d := fun e => hji (hd j oj d hj hdj (by rw [hc, e]))
        show (a.tmps.setIfInBounds d' (V i))[d]? = _
        rw [Array.getElem?_setIfInBounds_ne hne]
        exact h3
/-- A REGION THAT DRAWS ITS ORDER, BY THE VALUES: each operation, where what it waits for has its value, gives its own value and keeps S; then every order comes to the one frame. -/
theorem wpAny_vals {a0 : Act} {V : Nat → Value} {S : Array Bool → World → Prop} (hlt : ∀ (i : Nat) o, ops[i]? = some o → ∀ e ∈ o.after, Region.binds md e = true → e.on < i)
    (hd : ∀ (i j : Nat) o oj d, ops[i]? = some o → ops[j]? = some oj → oj.dst = some d → o.dst = some d → j = i) (hN : ∀ (i : Nat) o d, ops[i]? = some o → o.dst = some d → d < a0.tmps.size)
    (hstep : ∀ (i : Nat) o a w listed, ops[i]? = some o → RFr ops a0 V listed a → S listed w → listed.size = ops.size → listed.getD i true = false → (∀ e ∈ o.after, Region.binds md e = true → listed.getD e.on false = true) →
      if Region.wanted o (yielded ops a.tmps) = true then Oper.wp P o a w (fun a' w' => a' = a.put o.dst (V i) ∧ S (listed.setIfInBounds i true) w') Q else V i = undef ∧ S (listed.setIfInBounds i true) w)
    (hend : ∀ a w, S (Array.replicate ops.size true) w → RFr ops a0 V (Array.replicate ops.size true) a → Q .normal a w) :
    ∀ (fuel : Nat) (listed : Array Bool) (a : Act) (w : World), listed.size = ops.size → listed.toList.count false ≤ fuel → RFr ops a0 V listed a → S listed w → wpAny P md ops Q fuel listed a w := by
  have hall : ∀ (listed : Array Bool), listed.size = ops.size → (∀ i, i < ops.size → listed.getD i true = true) → listed = Array.replicate ops.size true := by
    intro listed hs h
    apply Array.ext
    · simp [hs]
    · intro i h1 h2
      have := h i (by omega)
      rw [agetD _ _ _ h1] at this
      simpa using this
  have hfin : ∀ (listed : Array Bool) a w, listed.size = ops.size → RFr ops a0 V listed a → S listed w → Region.ready md ops listed = [] → Q .normal a w := by
    intro listed a w hs hF hS hr
    have he := hall listed hs (ready_nil hlt hs hr)
    rw [he] at hF hS
    exact hend a w hS hF
  intro fuel
  induction fuel with
  | zero =>
    intro listed a w hs hc hF hS
    have hr : Region.ready md ops listed = [] := by
      cases hr : Region.ready md ops listed with
      | nil => rfl
      | cons i rs =>
        exfalso
        have hm := mem_ready (md := md) (ops := ops) (listed := listed) (i := i) (by rw [hr]; simp)
        have hil : i < listed.size := by omega
        have h1 : listed[i] = false := by rw [← agetD _ _ true hil]; exact hm.2.1
        have h2 : false ∈ listed.toList := by rw [← h1]; exact Array.getElem_mem_toList hil
        have := List.count_pos_iff.2 h2
        omega
    exact ⟨hr, hfin listed a w hs hF hS hr⟩
  | succ fuel ih =>
    intro listed a w hs hc hF hS
    refine ⟨hfin listed a w hs hF hS, fun i hi => ?_⟩
    obtain ⟨hil, hun, hdep⟩ := mem_ready hi
    obtain ⟨o, ho⟩ : ∃ o, ops[i]? = some o := ⟨_, Array.getElem?_eq_getElem hil⟩
    have hls : i < listed.size := by omega
    have h1 : listed[i] = false := by rw [← agetD _ _ true hls]; exact hun
    have hcnt : (listed.setIfInBounds i true).toList.count false ≤ fuel := by
      have h2 : listed.toList[i]'(by simpa using hls) = false := by simpa using h1
      rw [Array.toList_setIfInBounds, List.count_set (by simpa using hls), h2]
      simp only [BEq.rfl, if_true]
      have h3 : ¬ ((true == false) = true) := by decide
      rw [if_neg h3]
      omega
    have hst := hstep i o a w listed ho hF hS hs hun (hdep o ho)
    have hnext : ∀ w', S (listed.setIfInBounds i true) w' → wpAny P md ops Q fuel (listed.setIfInBounds i true) (a.put o.dst (V i)) w' := fun w' hS' =>
      ih _ _ _ (by simpa using hs) hcnt (hF.put ho hs (fun j oj d hj h2 h3 => hd i j o oj d ho hj h2 h3) (fun d h => hN i o d ho h)) hS'
    refine wpOp_step ho fun K' hK => ?_
    by_cases hw : Region.wanted o (yielded ops a.tmps) = true
    · rw [if_pos hw] at hst ⊢
      exact Oper.wp_mono (fun a' w' ⟨e, hS'⟩ => hK _ _ (by rw [e]; exact hnext w' hS')) hst
    · rw [if_neg hw] at hst ⊢
      rw [← hst.1]
      exact hK _ _ (hnext w hst.2)
theorem RFr.start (a0 : Act) (V : Nat → Value) (listed : Array Bool) (h : ∀ j, j < ops.size → listed.getD j true = false) : RFr ops a0 V listed a0 :=
  ⟨rfl, rfl, fun _ _ => rfl, fun j o d hj _ hl => by have := h j (Array.getElem?_eq_some_iff.1 hj).1; rw [this] at hl; cases hl⟩
/-- All listed: there is one such frame. -/
theorem RFr.one {a0 : Act} {V : Nat → Value} {listed : Array Bool} {a b : Act} (ha : RFr ops a0 V listed a) (hb : RFr ops a0 V listed b) (hl : ∀ j, j < ops.size → listed.getD j true = true) : a = b := by
  have ht : a.tmps = b.tmps := by
    apply Array.ext_getElem?
    intro s
    by_cases h : ∃ (j : Nat) (o : Oper), ops[j]? = some o ∧ o.dst = some s
    · obtain ⟨j, o, hj, hd⟩ := h
      have := hl j (Array.getElem?_eq_some_iff.1 hj).1
      rw [ha.val j o s hj hd this, hb.val j o s hj hd this]
    · have hno : ∀ (j : Nat) o, ops[j]? = some o → o.dst ≠ some s := fun j o hj hd => h ⟨j, o, hj, hd⟩
      rw [ha.old s hno, hb.old s hno]
  have hdf : a.defers = b.defers := ha.df.trans hb.df.symm
  cases a
  cases b
  simp_all
/-- The frame behind the first n operations, in the text's order. -/
def putN (ops : Array Oper) (V : Nat → Value) (a0 : Act) : Nat → Act
  | 0 => a0
  | n + 1 => (putN ops V a0 n).put ((ops[n]?).bind (·.dst)) (V n)
def listN (k : Nat) : Nat → Array Bool
  | 0 => Array.replicate k false
  | n + 1 => (listN k n).setIfInBounds n true
theorem listN_size (k : Nat) : ∀ n, (listN k n).size = k
  | 0 => by simp [listN]
  | n + 1 => by rw [listN, Array.size_setIfInBounds, listN_size k n]
theorem listN_get (k : Nat) : ∀ n j, j < k → (listN k n).getD j true = decide (j < n)
  | 0, j, h => by rw [listN, agetD _ _ _ (by simpa using h)]; simp
  | n + 1, j, h => by
    have hs := listN_size k n
    have hj : j < (listN k n).size := by omega
    have ih := listN_get k n j h
    rw [agetD _ _ _ hj] at ih
    rw [listN, agetD _ _ _ (by simpa using hj)]
    by_cases he : n = j
    · subst he
      simp
    · rw [Array.getElem_setIfInBounds_ne hj he, ih]
      have : (j < n) = (j < n + 1) := by simp only [eq_iff_iff]; omega
      simp only [this]
theorem putN_fr {a0 : Act} {V : Nat → Value} (hd : ∀ (i j : Nat) o oj d, ops[i]? = some o → ops[j]? = some oj → oj.dst = some d → o.dst = some d → j = i) (hN : ∀ (i : Nat) o d, ops[i]? = some o → o.dst = some d → d < a0.tmps.size) :
    ∀ n, n ≤ ops.size → RFr ops a0 V (listN ops.size n) (putN ops V a0 n)
  | 0, _ => RFr.start a0 V _ fun j hj => by rw [listN_get _ _ _ hj]; simp
  | n + 1, h => by
    have ho : ops[n]? = some ops[n] := Array.getElem?_eq_getElem (by omega)
    have := (putN_fr (V := V) hd hN n (by omega)).put (i := n) ho (listN_size _ _) (fun j oj d hj h2 h3 => hd n j _ oj d ho hj h2 h3) (fun d h => hN n _ d ho h)
    rw [putN, listN, ho]
    exact this
/-- THE REGION, WHOLE: every order comes to the frame of the text's own order. -/
theorem wp_region_vals {id : Nat} {a0 : Act} {V : Nat → Value} {S : Array Bool → World → Prop} {w : World} (hm : P.follows .mixedOrders = true) (hlt : ∀ (i : Nat) o, ops[i]? = some o → ∀ e ∈ o.after, Region.binds .any e = true → e.on < i)
    (hd : ∀ (i j : Nat) o oj d, ops[i]? = some o → ops[j]? = some oj → oj.dst = some d → o.dst = some d → j = i) (hN : ∀ (i : Nat) o d, ops[i]? = some o → o.dst = some d → d < a0.tmps.size)
    (hstep : ∀ (i : Nat) o a w listed, ops[i]? = some o → RFr ops a0 V listed a → S listed w → listed.size = ops.size → listed.getD i true = false → (∀ e ∈ o.after, Region.binds .any e = true → listed.getD e.on false = true) →
      if Region.wanted o (yielded ops a.tmps) = true then Oper.wp P o a w (fun a' w' => a' = a.put o.dst (V i) ∧ S (listed.setIfInBounds i true) w') Q else V i = undef ∧ S (listed.setIfInBounds i true) w)
    (hS : S (Array.replicate ops.size false) w.drew) (hend : ∀ w', S (Array.replicate ops.size true) w' → Q .normal (putN ops V a0 ops.size) w') : (Code.region id ops true).wp P Q a0 w := by
  refine wp_region_any hm ?_
  show wpAny P .any ops Q ops.size (Array.replicate ops.size false) a0 w.drew
  refine wpAny_vals hlt hd hN hstep (fun a w' hS' hF => ?_) _ _ _ _ (by simp) (by simp) (RFr.start a0 V _ fun j hj => ?_) hS
  · have hb := putN_fr (V := V) hd hN ops.size (Nat.le_refl _)
    have hl : listN ops.size ops.size = Array.replicate ops.size true := by
      apply Array.ext
      · rw [listN_size]; simp
      · intro i h1 h2
        have hi : i < ops.size := by rw [listN_size] at h1; exact h1
        rw [← agetD _ _ true h1, listN_get _ _ _ hi]
        simp [hi]
    rw [hl] at hb
    rw [hF.one hb (fun j hj => by rw [agetD _ _ _ (by simpa using hj)]; simp)]
    exact hend w' hS'
  · rw [agetD _ _ _ (by simpa using hj)]; simp
end
end Go.Proofs.YtceclpabdfncoaaDoor.Re

/- Recipes: regions by values, helpers; steps in a fixed order. -/
namespace Go.Proofs.YtceclpabdfncoaaDoor.Re
open Go.RowKit
def findR (n : Nat) : Code → Option (Array Oper)
  | .region m ops _ => if m = n then some ops else none
  | .seq a b => match findR n a with
    | some c => some c
    | none => findR n b
  | .scope c => findR n c
  | .block _ c => findR n c
  | .loop c => findR n c
  | .cond _ a b => match findR n a with
    | some c => some c
    | none => findR n b
  | _ => none
/-- The closed facts of a region, by running. -/
def okR (ops : Array Oper) (N : Nat) : Bool :=
  (List.range ops.size).all fun i => ((ops[i]?).map fun o => (o.after.all fun e => !Region.binds .any e || decide (e.on < i)) && (match o.dst with | some d => decide (d < N) | none => true) &&
    (List.range ops.size).all fun j => decide (j = i) || ((ops[j]?).map fun p => decide (o.dst = none) || decide (p.dst ≠ o.dst)).getD true).getD true
theorem okR_at {ops : Array Oper} {N : Nat} (h : okR ops N = true) {i : Nat} {o : Oper} (ho : ops[i]? = some o) :
    (∀ e ∈ o.after, Region.binds .any e = true → e.on < i) ∧ (∀ d, o.dst = some d → d < N) ∧ ∀ (j : Nat) oj d, ops[j]? = some oj → oj.dst = some d → o.dst = some d → j = i := by
  have hi : i < ops.size := (Array.getElem?_eq_some_iff.1 ho).1
  have h1 := List.all_eq_true.1 h i (List.mem_range.2 hi)
  rw [ho] at h1
  simp only [Option.map_some, Option.getD_some, Bool.and_eq_true] at h1
  obtain ⟨⟨h1, h2⟩, h3⟩ := h1
  refine ⟨fun e he hb => ?_, fun d hd => ?_, fun j oj d hj hdj hd => ?_⟩
  · have := Array.all_eq_true_iff_forall_mem.1 h1 e he
    rw [hb] at this
    simpa using this
  · rw [hd] at h2
    simpa using h2
  · have hjs : j < ops.size := (Array.getElem?_eq_some_iff.1 hj).1
    have h4 := List.all_eq_true.1 h3 j (List.mem_range.2 hjs)
    rw [hj] at h4
    simp only [Option.map_some, Option.getD_some, Bool.or_eq_true, decide_eq_true_eq] at h4
    rcases h4 with h4 | h4 | h4
    · exact h4
    · rw [hd] at h4; cases h4
    · rw [hd, hdj] at h4; exact absurd rfl h4
theorem ev_old {ops : Array Oper} {a0 a : Act} {V : Nat → Value} {listed : Array Bool} (hF : RFr ops a0 V listed a) (s : Nat) (v : Value) (hs : a0.tmps[s]? = some v) (hno : (ops.all fun o => decide (o.dst ≠ some s)) = true) : a.eval (.tmp s) = v := by
  have h := hF.old s (fun j o hj hd => by
    have := Array.all_eq_true_iff_forall_mem.1 hno o (Array.mem_of_getElem? hj)
    simp [hd] at this)
  rw [hs] at h
  show a.tmps.getD s undef = v
  rw [Array.getD_eq_getD_getElem?, h]
  rfl
theorem tm_dep {ops : Array Oper} {a0 a : Act} {V : Nat → Value} {listed : Array Bool} (hF : RFr ops a0 V listed a) (j d : Nat) (hd : (ops[j]?).bind (·.dst) = some d) (hl : listed.getD j false = true) : a.tmps[d]? = some (V j) := by
  obtain ⟨o, ho, hod⟩ : ∃ o, ops[j]? = some o ∧ o.dst = some d := by
    cases h : ops[j]? with
    | none => rw [h] at hd; cases hd
    | some o => rw [h] at hd; exact ⟨o, rfl, hd⟩
  refine hF.val j o d ho hod ?_
  have hj : j < listed.size := by
    rcases Nat.lt_or_ge j listed.size with h | h
    · exact h
    · unfold Array.getD at hl; rw [dif_neg (by omega)] at hl; cases hl
  rw [agetD _ _ _ hj] at hl ⊢
  exact hl
theorem tm_old {ops : Array Oper} {a0 a : Act} {V : Nat → Value} {listed : Array Bool} (hF : RFr ops a0 V listed a) (s : Nat) (v : Value) (hs : a0.tmps[s]? = some v) (hno : (ops.all fun o => decide (o.dst ≠ some s)) = true) : a.tmps[s]? = some v := by
  have h := hF.old s (fun j o hj hd => by
    have := Array.all_eq_true_iff_forall_mem.1 hno o (Array.mem_of_getElem? hj)
    simp [hd] at this)
  rw [h, hs]
theorem ev_dep {ops : Array Oper} {a0 a : Act} {V : Nat → Value} {listed : Array Bool} (hF : RFr ops a0 V listed a) (j d : Nat) (hd : (ops[j]?).bind (·.dst) = some d) (hl : listed.getD j false = true) : a.eval (.tmp d) = V j := by
  show a.tmps.getD d undef = V j
  rw [Array.getD_eq_getD_getElem?, tm_dep hF j d hd hl]
  rfl
theorem yl_dep {ops : Array Oper} {a0 a : Act} {V : Nat → Value} {listed : Array Bool} (hF : RFr ops a0 V listed a) (j d : Nat) (b : Bool) (hd : (ops[j]?).bind (·.dst) = some d) (hl : listed.getD j false = true) (hv : V j = .bool b) : yielded ops a.tmps j = some b := by
  unfold yielded
  rw [hd]
  show (match a.tmps[d]? with | some (.bool b) => some b | _ => none) = _
  rw [tm_dep hF j d hd hl, hv]
theorem fact {ops : Array Oper} {i : Nat} {o : Oper} {α : Type} {f : Oper → α} {x : α} (ho : ops[i]? = some o) (h : (ops[i]?).map f = some x) : f o = x := by rw [ho] at h; exact Option.some.inj h
theorem dep_of {ops : Array Oper} {i : Nat} {o : Oper} {listed : Array Bool} (ho : ops[i]? = some o) (hdep : ∀ e ∈ o.after, Region.binds .any e = true → listed.getD e.on false = true) (j : Nat) (h : ((ops[i]?).map fun o => o.after.any fun e => Region.binds .any e && e.on == j) = some true) : listed.getD j false = true := by
  have h1 : (o.after.any fun e => Region.binds .any e && e.on == j) = true := fact ho h
  rw [← Array.any_toList] at h1
  obtain ⟨e, he, hb⟩ := List.any_eq_true.1 h1
  simp only [Bool.and_eq_true, beq_iff_eq] at hb
  rw [← hb.2]
  exact hdep e (Array.mem_toList_iff.1 he) hb.1
theorem want_none {o : Oper} {f : Nat → Option Bool} (h : o.guard = none) : Region.wanted o f = true := by unfold Region.wanted; rw [h]
theorem want_some {o : Oper} {f : Nat → Option Bool} {j : Nat} {b c : Bool} (h : o.guard = some (j, b)) (hy : f j = some c) : Region.wanted o f = (c == b) := by
  unfold Region.wanted; rw [h]; show (f j == some b) = _; rw [hy]; cases b <;> cases c <;> rfl

/-- The operations ix change the world, in that order; behind the first p of them all of pre are done. -/
def Sq (ix pre : List Nat) (p : Nat) (ws : Nat → World) (l : Array Bool) (Y : World) : Prop :=
  ∃ j, j ≤ ix.length ∧ Y = ws j ∧ (∀ (m : Nat) i, ix[m]? = some i → l.getD i true = decide (m < j)) ∧ (p < j → ∀ i ∈ pre, l.getD i true = true)
theorem getD_set_ne (l : Array Bool) (i k : Nat) (h : i ≠ k) : (l.setIfInBounds i true).getD k true = l.getD k true := by
  simp [Array.getD_eq_getD_getElem?, h]
theorem getD_set_eq (l : Array Bool) (i : Nat) : (l.setIfInBounds i true).getD i true = true := by
  simp only [Array.getD_eq_getD_getElem?, Array.getElem?_setIfInBounds]
  by_cases h : i < l.size <;> simp [h]
theorem getD_set_mono (l : Array Bool) (i k : Nat) (h : l.getD k true = true) : (l.setIfInBounds i true).getD k true = true := by
  by_cases e : i = k
  · subst e; exact getD_set_eq l i
  · rw [getD_set_ne l i k e]; exact h
theorem Sq.mv {ix pre : List Nat} {p : Nat} {ws : Nat → World} {l : Array Bool} {Y : World} (h : Sq ix pre p ws l Y) (i : Nat) (hi : i ∉ ix) : Sq ix pre p ws (l.setIfInBounds i true) Y := by
  obtain ⟨j, h1, h2, h3, h4⟩ := h
  refine ⟨j, h1, h2, fun m k hk => ?_, fun q k hk => getD_set_mono _ _ _ (h4 q k hk)⟩
  rw [getD_set_ne l i k (fun e => hi (e ▸ List.mem_of_getElem? hk))]
  exact h3 m k hk
theorem Sq.early {ix pre : List Nat} {p : Nat} {ws : Nat → World} {l : Array Bool} {Y : World} (h : Sq ix pre p ws l Y) {i : Nat} (hi : i ∈ pre) (hu : l.getD i true = false) : ∃ j, j ≤ p ∧ j ≤ ix.length ∧ Y = ws j := by
  obtain ⟨j, h1, h2, h3, h4⟩ := h
  refine ⟨j, ?_, h1, h2⟩
  rcases Nat.lt_or_ge p j with q | q
  · have := h4 q i hi
    rw [hu] at this
    cases this
  · exact q
theorem Sq.any {ix pre : List Nat} {p : Nat} {ws : Nat → World} {l : Array Bool} {Y : World} (h : Sq ix pre p ws l Y) : ∃ j, j ≤ ix.length ∧ Y = ws j := by
  obtain ⟨j, h1, h2, -⟩ := h
  exact ⟨j, h1, h2⟩
theorem Sq.step {ix pre : List Nat} {p : Nat} {ws : Nat → World} {l : Array Bool} {Y : World} (h : Sq ix pre p ws l Y) (nd : ix.Nodup) (m i : Nat) (hi : ix[m]? = some i) (hu : l.getD i true = false) (hp : ∀ m' i', m = m' + 1 → ix[m']? = some i' → l.getD i' true = true) (hpre : p = m → ∀ k ∈ pre, l.getD k true = true) : Y = ws m ∧ Sq ix pre p ws (l.setIfInBounds i true) (ws (m + 1)) := by
  obtain ⟨j, h1, h2, h3, h4⟩ := h
  have hm := (List.getElem?_eq_some_iff.1 hi).1
  have e1 : ¬ m < j := by
    have := h3 m i hi
    rw [hu] at this
    simpa using this.symm
  have e2 : j = m := by
    cases m with
    | zero => omega
    | succ m' =>
      have hm' : m' < ix.length := by omega
      have := h3 m' _ (List.getElem?_eq_getElem hm')
      rw [hp m' _ rfl (List.getElem?_eq_getElem hm')] at this
      have : m' < j := by simpa using this.symm
      omega
  subst e2
  refine ⟨h2, j + 1, by omega, rfl, fun k i' hk => ?_, fun q k hk => getD_set_mono _ _ _ ?_⟩
  · by_cases e : k = j
    · subst e
      obtain rfl : i = i' := Option.some.inj (hi.symm.trans hk)
      rw [getD_set_eq]
      simp
    · have hne : i ≠ i' := fun q => by
        subst q
        have hk' := (List.getElem?_eq_some_iff.1 hk).1
        exact e ((List.getElem?_inj hk' nd).1 (hk.trans hi.symm))
      rw [getD_set_ne l i i' hne, h3 k i' hk]
      by_cases q : k < j
      · rw [decide_eq_true q, decide_eq_true (by omega)]
      · rw [decide_eq_false q, decide_eq_false (by omega)]
  · by_cases e : p = j
    · exact hpre e k hk
    · exact h4 (by omega) k hk
theorem Sq.start (ix pre : List Nat) (p : Nat) (ws : Nat → World) (n : Nat) (h : ∀ i ∈ ix, i < n) : Sq ix pre p ws (Array.replicate n false) (ws 0) := by
  refine ⟨0, Nat.zero_le _, rfl, fun m i hi => ?_, fun q => absurd q (Nat.not_lt_zero _)⟩
  have := h i (List.mem_of_getElem? hi)
  simp [Array.getD_eq_getD_getElem?, this]
theorem Sq.done {ix pre : List Nat} {p : Nat} {ws : Nat → World} {n : Nat} {Y : World} (h : Sq ix pre p ws (Array.replicate n true) Y) : Y = ws ix.length := by
  obtain ⟨j, h1, h2, h3, -⟩ := h
  rcases Nat.lt_or_ge j ix.length with q | q
  · have := h3 j _ (List.getElem?_eq_getElem q)
    simp [Array.getD_eq_getD_getElem?, Array.getElem?_replicate] at this
    split at this <;> simp at this
  · rw [h2, show j = ix.length by omega]
theorem dep_t {l : Array Bool} {j : Nat} (h : l.getD j false = true) : l.getD j true = true := by
  unfold Array.getD at h ⊢
  split at h
  · rename_i q; rw [dif_pos q]; exact h
  · cases h
end Go.Proofs.YtceclpabdfncoaaDoor.Re
