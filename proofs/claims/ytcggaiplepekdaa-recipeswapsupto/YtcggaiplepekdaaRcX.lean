/- Recipes: room. -/
import Derived.Test.YtcggaiplepekdaaRcO
namespace Go.Proofs.Ytcggaiplepekdaa
open Go.RowKit
def zM : Array Value := #[.slice none 0 0, .slice none 0 0, .slice none 0 0, .slice none 0 0, .slice none 0 0, .slice none 0 0]
/-- A recipe in a box, the answer's place, the room in the making. -/
structure Mk (W : World) (c M : Array Value) (wr : World) : Prop where
  bel : Below W.heap.size W wr
  r0 : wr.heap[W.heap.size]? = some (.cells c 27 (0, 0))
  r1 : wr.heap[W.heap.size + 1]? = some (.cells zM 30 (0, 0))
  r2 : wr.heap[W.heap.size + 2]? = some (.cells M 30 (0, 0))
theorem mk_new (W : World) (c : Array Value) : Mk W c zM (((W.alloc (.cells c 27)).alloc (.cells zM 30)).alloc (.cells zM 30)) := by
  refine ⟨(below2 W _ _).alloc (by simp; omega) _, (heap_alloc_old _ _ (h := by simp; omega)).trans (row2 _ _ _), (heap_alloc_old _ _ (h := by simp)).trans (row2n _ _ _), ?_⟩
  have := heap_alloc_new ((W.alloc (.cells c 27)).alloc (.cells zM 30)) (.cells zM 30)
  simpa using this
theorem Mk.below {W wr w' : World} {c M : Array Value} (h : Mk W c M wr) (hb : Below wr.heap.size wr w') : Mk W c M w' := ⟨h.bel.trans (hb.mono h.bel.size), (hb.block _ (Array.getElem?_eq_some_iff.1 h.r0).1).trans h.r0, (hb.block _ (Array.getElem?_eq_some_iff.1 h.r1).1).trans h.r1, (hb.block _ (Array.getElem?_eq_some_iff.1 h.r2).1).trans h.r2⟩
theorem Mk.set {W wr : World} {c M : Array Value} (h : Mk W c M wr) (k : Nat) (v : Value) : wr.frozen? ⟨W.heap.size + 2, k, none⟩ = false ∧ Mk W c (M.setIfInBounds k v) (wr.setCell ⟨W.heap.size + 2, k, none⟩ v) :=
  ⟨frozen_of_row _ _ _ _ _ h.r2, h.bel.setCell (by show W.heap.size ≤ W.heap.size + 2; omega) _, (heap_setCell_other _ _ _ _ (by show W.heap.size ≠ W.heap.size + 2; omega)).trans h.r0, (heap_setCell_other _ _ _ _ (by show W.heap.size + 1 ≠ W.heap.size + 2; omega)).trans h.r1, heap_setCell_same _ _ _ _ _ _ h.r2⟩
theorem Mk.cel {W wr : World} {c M : Array Value} (h : Mk W c M wr) {k : Nat} {v : Value} (hv : M[k]? = some v) : wr.cell? ⟨W.heap.size + 2, k, none⟩ = some v := c1 h.r2 hv
theorem Mk.rcel {W wr : World} {c M : Array Value} (h : Mk W c M wr) {k : Nat} {v : Value} (hv : c[k]? = some v) : wr.cell? ⟨W.heap.size, k, none⟩ = some v := c1 h.r0 hv
theorem Mk.grown {W wr w' : World} {c M : Array Value} {base e sz : Nat} {v : Value} {l : List (Array Value)} (h : Mk W c M wr) (ho : Ol base e sz wr v l) (hg : wr.grownBy w' v.ownBlock) (he : e ≠ 27) (he2 : e ≠ 30) (hbase : W.heap.size ≤ base) : Mk W c M w' := by
  have kb : ∀ (g : Nat) D (t : Nat), wr.heap[g]? = some (.cells D t (0, 0)) → e ≠ t → w'.heap[g]? = wr.heap[g]? := fun g D t hD ht => hg.block g (Array.getElem?_eq_some_iff.1 hD).1 (fun q => by
    obtain ⟨_, _, cur, hc⟩ := ho.tag q.symm
    exact tag_ne hc hD ht rfl)
  exact ⟨⟨hg.os.trans h.bel.os, hg.tape.trans h.bel.tape, hg.output.trans h.bel.output, Nat.le_trans h.bel.size hg.size, fun j hj => (hg.block j (Nat.lt_of_lt_of_le hj h.bel.size) (fun q => by
    have := (ho.tag q.symm).1
    omega)).trans (h.bel.block j hj)⟩, (kb _ _ _ h.r0 he).trans h.r0, (kb _ _ _ h.r1 he2).trans h.r1, (kb _ _ _ h.r2 he2).trans h.r2⟩
theorem Ol.mbox {base e sz : Nat} {W wr : World} {v u : Value} {c M : Array Value} {l : List (Array Value)} (h : Ol base e sz wr v l) (hb : Mk W c M wr) (he : e ≠ 30) (k : Nat) : Ol base e sz (wr.setCell ⟨W.heap.size + 2, k, none⟩ u) v l := h.keep fun g hg => by
  obtain ⟨_, _, cur, hc⟩ := h.tag hg
  exact heap_setCell_other _ _ _ _ (by show g ≠ W.heap.size + 2; exact tag_ne hc hb.r2 he)
def stM (p v : Value) : Sem Unit := Instr.storeAt 30 p v
theorem toStM (p v : Value) : Instr.storeAt 30 p v = stM p v := rfl
def ldM (p : Value) : Sem Value := Instr.loadAt 30 p
theorem toLdM (p : Value) : Instr.loadAt 30 p = ldM p := rfl
theorem sizeM : (Try.prog.info? 30).map (·.size) = some 6 := by kernel_rfl
theorem st_M (w : World) (g : Nat) (C D : Array Value) (hC : C.size = 6) (hD : D.size = 6) (h1 : D.all (·.oneCell') = true) (hg : w.heap[g]? = some (.cells C 30 (0, 0))) : (stM (.pointer (some ⟨g, 0, none⟩)) (.agg D)).run Try.prog w = .ok () (w.setRow g D) := by
  unfold stM
  simp only [Instr.storeAt, Instr.sureAddr, Sem.run_bind, Sem.run_pure, Result.andThen_ok, run_storeVar_row w g 30 30 C D hg (by rw [sizeM, hD]) (by rw [hD, hC]) h1]
theorem ld_M (w : World) (g : Nat) (c : Array Value) (hc : c.size = 6) (h : w.heap[g]? = some (.cells c 30 (0, 0))) : (ldM (.pointer (some ⟨g, 0, none⟩))).run Try.prog w = .ok (.agg c) w := by
  have h2 := World.rangeAt_of_block h 0 6
  rw [show c.extract 0 (0 + 6) = c by rw [← hc, Nat.zero_add]; simp] at h2
  have := run_loadAt_mid (P := Try.prog) w g 0 30 c.toList _ h2 Try.underlying30 rfl (by rw [sizeM]; simp [hc])
  simpa [ldM] using this
theorem results_M {fn : Func} {p : Tmp} (h : fn.results = #[.cell p 30]) (tmps : Array Value) (w : World) (g : Nat) (C : Array Value) (hC : C.size = 6)
    (hp : tmps.getD p undef = .pointer (some ⟨g, 0, none⟩)) (hg : w.heap[g]? = some (.cells C 30 (0, 0))) :
    (results fn tmps).run Try.prog w = .ok (.agg C) w := by
  have hp' : tmps[p]?.getD undef = .pointer (some ⟨g, 0, none⟩) := by simpa using hp
  simp [results, h, hp', asAddr, run_loadVar_row w g 30 30 C (0, 0) _ hg Try.underlying30 rfl (by rw [sizeM, hC])]
/-- The room's inputs in the making. -/
structure Mn (W : World) (R : Rcp) (n l : Value) (us ls : List Value) (i : Nat) (wr : World) : Prop where
  fn : Ol W.heap.size 42 2 wr n (List.zipWith nR (R.n.take i) us)
  fl : Ol W.heap.size 24 1 wr l (ls.map fun v => #[v])
  ul : us.length = i
  ll : ls.length = i
  each : ∀ (j : Nat) x u v, R.n[j]? = some x → us[j]? = some u → ls[j]? = some v → (∃ oa c, v = .slice oa (x.2.length + 1) c ∧ u = .slice oa x.2.length c ∧ x.2.length ≤ c) ∧ Ol W.heap.size 9 1 wr v ((x.2 ++ [BEH]).map sR)
theorem Mn.keep {W : World} {R : Rcp} {n l : Value} {us ls : List Value} {i : Nat} {wr w' : World} (h : Mn W R n l us ls i wr) (hk : ∀ (e sz : Nat) u l', e ≠ 30 → Ol W.heap.size e sz wr u l' → Ol W.heap.size e sz w' u l') : Mn W R n l us ls i w' := ⟨hk _ _ _ _ (by decide) h.fn, hk _ _ _ _ (by decide) h.fl, h.ul, h.ll, fun j x u v q1 q2 q3 => ⟨(h.each j x u v q1 q2 q3).1, hk _ _ _ _ (by decide) (h.each j x u v q1 q2 q3).2⟩⟩
theorem Mn.step {W : World} {R : Rcp} {n l n' l' v' : Value} {us ls : List Value} {i : Nat} {wr P3 : World} {x : S × List S} {oa : Option Addr} {c : Nat} (h : Mn W R n l us ls i wr) (hx : R.n[i]? = some x) (hv : v' = .slice oa (x.2.length + 1) c) (hc : x.2.length ≤ c) (hk : ∀ (e sz : Nat) u l', e ≠ 30 → e ≠ 24 → e ≠ 42 → Ol W.heap.size e sz wr u l' → Ol W.heap.size e sz P3 u l') (hv3 : Ol W.heap.size 9 1 P3 v' ((x.2 ++ [BEH]).map sR)) (hn : Ol W.heap.size 42 2 P3 n' (List.zipWith nR (R.n.take i) us ++ [nR x (.slice oa x.2.length c)])) (hl : Ol W.heap.size 24 1 P3 l' ((ls.map fun v => #[v]) ++ [#[v']])) : Mn W R n' l' (us ++ [.slice oa x.2.length c]) (ls ++ [v']) (i + 1) P3 := by
  have hi : i < R.n.length := (List.getElem?_eq_some_iff.1 hx).1
  refine ⟨?_, by rw [List.map_append]; exact hl, by rw [List.length_append, h.ul]; rfl, by rw [List.length_append, h.ll]; rfl, fun j y u v hy hu hv' => ?_⟩
  · have e : List.zipWith nR (R.n.take (i + 1)) (us ++ [.slice oa x.2.length c]) = List.zipWith nR (R.n.take i) us ++ [nR x (.slice oa x.2.length c)] := by
      rw [List.take_add_one, hx]
      show List.zipWith nR (R.n.take i ++ [x]) (us ++ [.slice oa x.2.length c]) = _
      rw [List.zipWith_append (by rw [List.length_take, h.ul]; omega)]
      rfl
    rw [e]
    exact hn
  · by_cases q : j < i
    · rw [List.getElem?_append_left (by rw [h.ul]; exact q)] at hu
      rw [List.getElem?_append_left (by rw [h.ll]; exact q)] at hv'
      obtain ⟨z1, z2⟩ := h.each j y u v hy hu hv'
      exact ⟨z1, hk _ _ _ _ (by decide) (by decide) (by decide) z2⟩
    · have hj : j < (us ++ [Value.slice oa x.2.length c]).length := (List.getElem?_eq_some_iff.1 hu).1
      rw [List.length_append, h.ul] at hj
      obtain rfl : j = i := by simp at hj; omega
      rw [List.getElem?_append_right (by rw [h.ul]; exact Nat.le_refl _), h.ul, Nat.sub_self] at hu
      rw [List.getElem?_append_right (by rw [h.ll]; exact Nat.le_refl _), h.ll, Nat.sub_self] at hv'
      obtain rfl : .slice oa x.2.length c = u := by simpa using hu
      obtain rfl : v' = v := by simpa using hv'
      obtain rfl : x = y := Option.some.inj (hx.symm.trans hy)
      exact ⟨⟨oa, c, hv, rfl, hc⟩, hv3⟩
end Go.Proofs.Ytcggaiplepekdaa
