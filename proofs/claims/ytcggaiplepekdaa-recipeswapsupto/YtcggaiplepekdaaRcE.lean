/- Recipes: the room's lists. -/
import Derived.Test.YtcggaiplepekdaaRcD
namespace Go.Proofs.Ytcggaiplepekdaa
open Go.RowKit
theorem Ol.tag {base e sz : Nat} {W : World} {v : Value} {l : List (Array Value)} (h : Ol base e sz W v l) {g : Nat} (hg : v.ownBlock = some g) : base ≤ g ∧ g < W.heap.size ∧ ∃ cur, W.heap[g]? = some (.cells cur e (0, 0)) := by
  rcases h.1.2 with ⟨h1, _⟩ | ⟨g', cap, cur, h1, h2, h3, _⟩
  · rw [h1] at hg; cases hg
  · rw [h1] at hg
    obtain rfl : g' = g := by simpa [Value.ownBlock] using hg
    exact ⟨h2, (Array.getElem?_eq_some_iff.1 h3).1, _, h3⟩
theorem Ol.keep {base e sz : Nat} {W W' : World} {v : Value} {l : List (Array Value)} (h : Ol base e sz W v l) (hb : ∀ g, v.ownBlock = some g → W'.heap[g]? = W.heap[g]?) : Ol base e sz W' v l := by
  refine ⟨?_, h.2⟩
  obtain ⟨h0, h1⟩ := h.1
  refine ⟨h0, ?_⟩
  rcases h1 with h1 | ⟨g, cap, cur, rfl, hB, hg, hr⟩
  · exact .inl h1
  · exact .inr ⟨g, cap, cur, rfl, hB, (hb g rfl).trans hg, hr⟩
theorem Ol.below {base e sz : Nat} {W W' : World} {v : Value} {l : List (Array Value)} (h : Ol base e sz W v l) (hb : Below W.heap.size W W') : Ol base e sz W' v l := h.keep fun g hg => hb.block g (h.tag hg).2.1
theorem Ol.mono {base base' e sz : Nat} {W : World} {v : Value} {l : List (Array Value)} (h : Ol base e sz W v l) (hb : base' ≤ base) : Ol base' e sz W v l := by
  refine ⟨?_, h.2⟩
  obtain ⟨h0, h1⟩ := h.1
  refine ⟨h0, ?_⟩
  rcases h1 with h1 | ⟨g, cap, cur, rfl, hB, hg, hr⟩
  · exact .inl h1
  · exact .inr ⟨g, cap, cur, rfl, Nat.le_trans hb hB, hg, hr⟩
theorem Ol.form {base e sz : Nat} {W : World} {v : Value} {l : List (Array Value)} (h : Ol base e sz W v l) : ∃ a c, v = .slice a l.length c ∧ l.length ≤ c := by
  rcases h.1.2 with ⟨h1, h2⟩ | ⟨g, cap, cur, h1, _, _, h2, _⟩
  · exact ⟨none, 0, by rw [h1, h2], by omega⟩
  · exact ⟨_, cap, h1, h2⟩
theorem tag_ne {W : World} {g h : Nat} {C D : Array Value} {s t : Nat} (h1 : W.heap[g]? = some (.cells C s (0, 0))) (h2 : W.heap[h]? = some (.cells D t (0, 0))) (hst : s ≠ t) : g ≠ h := fun e => by
  subst e
  have := h1.symm.trans h2
  injection this with e1
  injection e1 with e1 e2
  exact hst e2
/-- A list of another kind stays where one grows. -/
theorem Ol.grown {base base' e e' sz sz' : Nat} {W W' : World} {v v' : Value} {l l' : List (Array Value)} (h : Ol base e sz W v l) (h' : Ol base' e' sz' W v' l') (hg : W.grownBy W' v'.ownBlock) (he : e ≠ e') : Ol base e sz W' v l := h.keep fun g hv => by
  obtain ⟨_, hlt, cur, hc⟩ := h.tag hv
  refine hg.block g hlt fun q => ?_
  obtain ⟨_, _, cur', hc'⟩ := h'.tag q.symm
  exact tag_ne hc hc' he rfl
def PEE : Pai := (BEH, ⟨#[]⟩)
def ONE : Out := (BEH, ⟨#[]⟩, ⟨#[]⟩, ⟨#[]⟩)
/-- The room's lists. -/
structure Rl (base : Nat) (W : World) (o n s a e l : Value) (us ls : List Value) (R : Rcp) : Prop where
  fo : Ol base 39 4 W o ((R.o ++ [ONE]).map oR)
  fn : Ol base 42 2 W n (List.zipWith nR R.n us ++ [nR (BEH, []) (.slice none 0 0)])
  fs : Ol base 9 1 W s ((R.s ++ [BEH]).map sR)
  fa : Ol base 9 1 W a ((R.a ++ [BEH]).map sR)
  fe : Ol base 44 2 W e ((R.e ++ [PEE]).map eR)
  fl : Ol base 24 1 W l (ls.map fun v => #[v])
  ul : us.length = R.n.length
  ll : ls.length = R.n.length
  each : ∀ (i : Nat) x u v, R.n[i]? = some x → us[i]? = some u → ls[i]? = some v → (∃ oa c, v = .slice oa (x.2.length + 1) c ∧ u = .slice oa x.2.length c ∧ x.2.length ≤ c) ∧ Ol base 9 1 W v ((x.2 ++ [BEH]).map sR)
  sep : ∃ b1 b2, (∀ (i : Nat) v g, ls[i]? = some v → v.ownBlock = some g → g < b1) ∧ (∀ g, s.ownBlock = some g → b1 ≤ g ∧ g < b2) ∧ (∀ g, a.ownBlock = some g → b2 ≤ g)
theorem Rl.below {base : Nat} {W W' : World} {o n s a e l : Value} {us ls : List Value} {R : Rcp} (h : Rl base W o n s a e l us ls R) (hb : Below W.heap.size W W') : Rl base W' o n s a e l us ls R := ⟨h.fo.below hb, h.fn.below hb, h.fs.below hb, h.fa.below hb, h.fe.below hb, h.fl.below hb, h.ul, h.ll, fun i x u v q1 q2 q3 => ⟨(h.each i x u v q1 q2 q3).1, (h.each i x u v q1 q2 q3).2.below hb⟩, h.sep⟩
/-- A list's beginning. -/
theorem Ls.cut {W : World} {oa : Option Addr} {n c sz : Nat} {l : List (Array Value)} (h : Ls W (.slice oa n c) sz l) (k : Nat) (hk : k ≤ l.length) : Ls W (.slice oa k c) sz (l.take k) := by
  obtain ⟨oa', c', e, h1, h2, h3, h4, h5⟩ := h
  injection e with e1 e2 e3
  subst e1 e3
  have hl : (l.take k).length = k := by rw [List.length_take]; omega
  refine ⟨oa, c, by rw [hl], h1, by rw [hl]; omega, h3, fun d hd => h4 d (List.mem_of_mem_take hd), fun i d hd => h5 i d ?_⟩
  have hi : i < k := by have := (List.getElem?_eq_some_iff.1 hd).1; omega
  rwa [List.getElem?_take_of_lt hi] at hd
theorem take_map_app {A B : Type} (f : A → B) (l : List A) (x : A) : ((l ++ [x]).map f).take l.length = l.map f := by
  rw [List.map_append]
  simp
/-- The recipe in the room. -/
theorem Rl.rc {base : Nat} {W : World} {o n s a e l : Value} {us ls : List Value} {R : Rcp} (h : Rl base W o n s a e l us ls R) : ∃ xo xn xs xa xe co cn cs ca ce, o = .slice xo (R.o.length + 1) co ∧ n = .slice xn (R.n.length + 1) cn ∧ s = .slice xs (R.s.length + 1) cs ∧ a = .slice xa (R.a.length + 1) ca ∧ e = .slice xe (R.e.length + 1) ce ∧ R.o.length ≤ co ∧ R.n.length ≤ cn ∧ R.s.length ≤ cs ∧ R.a.length ≤ ca ∧ R.e.length ≤ ce ∧ Rc W (.slice xo R.o.length co) (.slice xn R.n.length cn) (.slice xs R.s.length cs) (.slice xa R.a.length ca) (.slice xe R.e.length ce) R := by
  obtain ⟨xo, co, fo, ko⟩ := h.fo.form
  obtain ⟨xn, cn, fn, kn⟩ := h.fn.form
  obtain ⟨xs, cs, fs, ks⟩ := h.fs.form
  obtain ⟨xa, ca, fa, ka⟩ := h.fa.form
  obtain ⟨xe, ce, fe, ke⟩ := h.fe.form
  have zl : (List.zipWith nR R.n us).length = R.n.length := by rw [List.length_zipWith, h.ul, Nat.min_self]
  have lo : ((R.o ++ [ONE]).map oR).length = R.o.length + 1 := by simp
  have ln : (List.zipWith nR R.n us ++ [nR (BEH, []) (.slice none 0 0)]).length = R.n.length + 1 := by rw [List.length_append, zl]; rfl
  have ls' : ((R.s ++ [BEH]).map sR).length = R.s.length + 1 := by simp
  have la : ((R.a ++ [BEH]).map sR).length = R.a.length + 1 := by simp
  have le : ((R.e ++ [PEE]).map eR).length = R.e.length + 1 := by simp
  rw [lo] at fo ko
  rw [ln] at fn kn
  rw [ls'] at fs ks
  rw [la] at fa ka
  rw [le] at fe ke
  have qo := h.fo.ls
  have qn := h.fn.ls
  have qs := h.fs.ls
  have qa := h.fa.ls
  have qe := h.fe.ls
  rw [fo] at qo
  rw [fn] at qn
  rw [fs] at qs
  rw [fa] at qa
  rw [fe] at qe
  have ro := qo.cut R.o.length (by omega)
  have rn := qn.cut R.n.length (by omega)
  have rs := qs.cut R.s.length (by omega)
  have ra := qa.cut R.a.length (by omega)
  have re := qe.cut R.e.length (by omega)
  rw [take_map_app] at ro rs ra re
  rw [List.take_append_of_le_length (by omega), List.take_of_length_le (by omega)] at rn
  refine ⟨xo, xn, xs, xa, xe, co, cn, cs, ca, ce, fo, fn, fs, fa, fe, by omega, by omega, by omega, by omega, by omega, ro, ⟨us, h.ul, rn, fun i x u q1 q2 => ?_⟩, rs, ra, re⟩
  have hi : i < R.n.length := (List.getElem?_eq_some_iff.1 q1).1
  obtain ⟨v, hv⟩ : ∃ v, ls[i]? = some v := ⟨_, List.getElem?_eq_getElem (by rw [h.ll]; exact hi)⟩
  obtain ⟨⟨oa, c, e1, e2, -⟩, ho⟩ := h.each i x u v q1 q2 hv
  have hq := ho.ls
  rw [e1] at hq
  have := hq.cut x.2.length (by simp)
  rw [take_map_app] at this
  rw [e2]
  exact this
end Go.Proofs.Ytcggaiplepekdaa
