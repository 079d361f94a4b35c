/- Each's closure, as an iterator. -/
import Derived.Test.YtgedmfcfhdfoeaaGxF
import Derived.Handy
namespace Go.Proofs.Ytgedmfcfhdfoeaa
open Go.RowKit GM
set_option maxRecDepth 20000
/-- Between two rounds of Each's closure, at distance i, ahead of its q-th pair. -/
structure Dst (W : World) (X0 : Nat → Prop) (kd ky l : Nat) (J : Nat → (Nat → Prop) → World → Prop) (i q : Nat) (Xo : Nat → Prop) (w : World) : Prop where
  j : J q Xo w
  cd : w.heap[kd]? = some (.cells #[.int .i64 (i : Int)] 3 (0, 0))
  cy : w.heap[ky]? = some (.cells #[.func (.yield l) #[] #[]] 71 (0, 0))
  xd : ¬ Xo kd
  xy : ¬ Xo ky
  grw : ∀ k, Xo k → X0 k ∨ W.heap.size ≤ k
  lim : ∀ k, Xo k → k < w.heap.size
section
variable {W w w' : World} {X0 Xo Xn : Nat → Prop} {kd ky l i q : Nat} {J : Nat → (Nat → Prop) → World → Prop}
theorem Dst.keep (h : Dst W X0 kd ky l J i q Xo w) (hJ : ∀ i X A B, J i X A → Rm.Agr (fun k => k < W.heap.size ∨ X k) A B → J i X B) (hf : Rm.Agr (fun k => k < W.heap.size ∨ Xo k ∨ k = kd ∨ k = ky) w w') : Dst W X0 kd ky l J i q Xo w' :=
  ⟨hJ q Xo w w' h.j (hf.weak fun _ _ hk => hk.elim .inl fun q => .inr (.inl q)), (hf.blk kd (Array.getElem?_eq_some_iff.1 h.cd).1 (.inr (.inr (.inl rfl)))).trans h.cd, (hf.blk ky (Array.getElem?_eq_some_iff.1 h.cy).1 (.inr (.inr (.inr rfl)))).trans h.cy, h.xd, h.xy, h.grw, fun k hk => Nat.lt_of_lt_of_le (h.lim k hk) hf.size⟩
/-- A round of the asker's. -/
theorem Dst.yield (h : Dst W X0 kd ky l J i q Xo w) (hW : W.heap.size ≤ w.heap.size) (hf : Rm.Frm (fun k => Xo k ∨ False) w w') (hX : ∀ k, Xn k → (Xo k ∨ w.heap.size ≤ k) ∧ k < w'.heap.size) (hj : J (q + 1) Xn w') : Dst W X0 kd ky l J i (q + 1) Xn w' := by
  have h1 := (Array.getElem?_eq_some_iff.1 h.cd).1
  have h2 := (Array.getElem?_eq_some_iff.1 h.cy).1
  refine ⟨hj, (hf.blk kd h1 (fun q => q.elim h.xd id)).trans h.cd, (hf.blk ky h2 (fun q => q.elim h.xy id)).trans h.cy, fun q => ?_, fun q => ?_, fun k hk => ?_, fun k hk => (hX k hk).2⟩
  · rcases (hX _ q).1 with q | q
    · exact h.xd q
    · omega
  · rcases (hX _ q).1 with q | q
    · exact h.xy q
    · omega
  · rcases (hX k hk).1 with q | q
    · exact h.grw k q
    · exact .inr (by omega)
end
/-- Within a round: the layer in order, j of its nodes handed on. -/
structure Rst (W : World) (X0 : Nat → Prop) (kd ky l : Nat) (J : Nat → (Nat → Prop) → World → Prop) (F : Nat → List Nat) (S : List Nat) (U2 : World) (X : Nat → Prop) (v : Value) (m i j : Nat) (Xo : Nat → Prop) (w : World) : Prop where
  frm : Rm.Frm (fun k => X k ∨ LyH #[v] k) U2 w
  grw : ∀ k, Xo k → X k ∨ U2.heap.size ≤ k
  d : Dst W X0 kd ky l J i ((eaL F S i).length + j) Xo w
  own : ∃ B, w.ownsRow B 3 1 v m (ik (srt (lyr F S i).1)).toList
  blk : ∀ k, v.ownBlock = some k → k < U2.heap.size ∧ ¬ X k
  len : (srt (lyr F S i).1).length = m
  xk : X kd
  sW : W.heap.size ≤ U2.heap.size
section
variable {W w w' U2 : World} {X0 Xo Xn X : Nat → Prop} {kd ky l m i j : Nat} {J : Nat → (Nat → Prop) → World → Prop} {Jx : (Nat → Prop) → World → Prop} {F : Nat → List Nat} {S : List Nat} {v : Value}
theorem ly_one {v : Value} {k : Nat} (h : LyH #[v] k) : v.ownBlock = some k := by
  obtain ⟨u, e, q⟩ := h
  injection e with e
  injection e with e
  subst e
  exact q
theorem Rst.frm2 (h : Rst W X0 kd ky l J F S U2 X v m i j Xo w) (hf : Rm.Frm (fun k => Xo k ∨ False) w w') : Rm.Frm (fun k => X k ∨ LyH #[v] k) U2 w' :=
  ⟨hf.os.trans h.frm.os, hf.tape.trans h.frm.tape, hf.output.trans h.frm.output, Nat.le_trans h.frm.size hf.size, fun k hk hx => (hf.blk k (Nat.lt_of_lt_of_le hk h.frm.size) (fun q => by
    rcases q with q | q
    · rcases h.grw k q with q | q
      · exact hx (.inl q)
      · omega
    · exact q)).trans (h.frm.blk k hk hx)⟩
theorem Rst.grw2 (h : Rst W X0 kd ky l J F S U2 X v m i j Xo w) (hX : ∀ k, Xn k → (Xo k ∨ w.heap.size ≤ k) ∧ k < w'.heap.size) : ∀ k, Xn k → X k ∨ U2.heap.size ≤ k := fun k hk => by
  rcases (hX k hk).1 with q | q
  · exact h.grw k q
  · have := h.frm.size
    exact .inr (by omega)
theorem Rst.yield (h : Rst W X0 kd ky l J F S U2 X v m i j Xo w) (hf : Rm.Frm (fun k => Xo k ∨ False) w w') (hX : ∀ k, Xn k → (Xo k ∨ w.heap.size ≤ k) ∧ k < w'.heap.size) (hj : J ((eaL F S i).length + j + 1) Xn w') : Rst W X0 kd ky l J F S U2 X v m i (j + 1) Xn w' := by
  obtain ⟨B, ho⟩ := h.own
  refine ⟨h.frm2 hf, h.grw2 hX, h.d.yield (Nat.le_trans h.sW h.frm.size) hf hX hj, ⟨B, own_keep2 ho fun k hk => ?_⟩, h.blk, h.len, h.xk, h.sW⟩
  have h1 := h.blk k hk
  refine hf.blk k (Nat.lt_of_lt_of_le h1.1 h.frm.size) fun q => q.elim (fun q => ?_) id
  rcases h.grw k q with q | q
  · exact h1.2 q
  · omega
theorem Rst.read {o : Option Addr} {c : Nat} (h : Rst W X0 kd ky l J F S U2 X (.slice o m c) m i j Xo w) (hj : j < m) : ∃ gl off : Nat, o = some ⟨gl, off, none⟩ ∧ w.cell? ⟨gl, off + j, none⟩ = some (.int .i64 (((srt (lyr F S i).1).getD j 0 : Nat) : Int)) := by
  obtain ⟨B, ho⟩ := h.own
  have hl := h.len
  obtain ⟨gl, ⟨o2, c2, e, h1⟩, -⟩ := own_il ho
  injection e with e
  subst e
  obtain ⟨off, e1, -, e2⟩ := h1 (by omega)
  exact ⟨gl, off, e1, e2 j (by omega)⟩
/-- The asker wants no more. -/
theorem Rst.stop (h : Rst W X0 kd ky l J F S U2 X v m i j Xo w) (hf : Rm.Frm (fun k => Xo k ∨ False) w w') (hX : ∀ k, Xn k → (Xo k ∨ w.heap.size ≤ k) ∧ k < w'.heap.size) (hj : Jx Xn w') :
    ∃ X' : Nat → Prop, Rm.Frm (fun k => X k ∨ LyH #[v] k) U2 w' ∧ (∀ k, X' k → (X k ∨ U2.heap.size ≤ k) ∧ k < w'.heap.size) ∧ (Code.ret = Code.ret ∧ ∃ Xo, (∀ k, X' k ↔ Xo k ∨ k = kd) ∧ Jx Xo w' ∧ ¬ Xo kd ∧ ∀ k, Xo k → X0 k ∨ W.heap.size ≤ k) := by
  have h1 := (Array.getElem?_eq_some_iff.1 h.d.cd).1
  refine ⟨fun k => Xn k ∨ k = kd, h.frm2 hf, fun k hk => ?_, rfl, Xn, fun k => Iff.rfl, hj, fun q => ?_, fun k hk => ?_⟩
  · rcases hk with q | q
    · exact ⟨h.grw2 hX k q, (hX k q).2⟩
    · exact ⟨.inl (q ▸ h.xk), by have := hf.size; omega⟩
  · rcases (hX kd q).1 with q | q
    · exact h.d.xd q
    · omega
  · rcases (hX k hk).1 with q | q
    · exact h.d.grw k q
    · have := h.sW
      have := h.frm.size
      exact .inr (by omega)
/-- All of the layer is handed on. -/
theorem Rst.done (hJ : ∀ i X A B, J i X A → Rm.Agr (fun k => k < W.heap.size ∨ X k) A B → J i X B) (h : Rst W X0 kd ky l J F S U2 X v m i m Xo w) (hkd : W.heap.size ≤ kd) (hne : kd ≠ ky) (hw : w' = w.setCell ⟨kd, 0, none⟩ (.int .i64 ((i + 1 : Nat) : Int))) :
    ∃ X' : Nat → Prop, Rm.Frm (fun k => X k ∨ LyH #[v] k) U2 w' ∧ (∀ k, X' k → (X k ∨ U2.heap.size ≤ k) ∧ k < w'.heap.size) ∧ (∃ Xo, (∀ k, X' k ↔ Xo k ∨ k = kd) ∧ Dst W X0 kd ky l J (i + 1) (eaL F S (i + 1)).length Xo w') ∧ LyR F S i #[v] w' := by
  have h1 := (Array.getElem?_eq_some_iff.1 h.d.cd).1
  have sz : w'.heap.size = w.heap.size := by rw [hw]; simp
  have oth : ∀ k, k ≠ kd → w'.heap[k]? = w.heap[k]? := fun k hk => by rw [hw]; exact heap_setCell_other w ⟨kd, 0, none⟩ k _ hk
  have rk : w'.heap[kd]? = some (.cells #[.int .i64 ((i + 1 : Nat) : Int)] 3 (0, 0)) := by
    rw [hw, setCell_eq_setRow w kd 0 _ _ _ _ h.d.cd]
    exact setRow_heap _ _ _ _ _ _ h.d.cd
  have os : w'.os = w.os := by rw [hw, setCell_eq_setRow w kd 0 _ _ _ _ h.d.cd]; rfl
  have tp : w'.tape = w.tape := by rw [hw, setCell_eq_setRow w kd 0 _ _ _ _ h.d.cd]; rfl
  have ou : w'.output = w.output := by rw [hw, setCell_eq_setRow w kd 0 _ _ _ _ h.d.cd]; rfl
  obtain ⟨B, ho⟩ := h.own
  refine ⟨fun k => Xo k ∨ k = kd, ⟨os.trans h.frm.os, tp.trans h.frm.tape, ou.trans h.frm.output, by rw [sz]; exact h.frm.size, fun k hk hx => (oth k (fun q => hx (.inl (q ▸ h.xk)))).trans (h.frm.blk k hk hx)⟩, fun k hk => ?_, ⟨Xo, fun k => Iff.rfl, ?_, rk, (oth ky hne.symm).trans h.d.cy, h.d.xd, h.d.xy, h.d.grw, fun k hk => by rw [sz]; exact h.d.lim k hk⟩, v, B, m, rfl, own_keep2 ho fun k hk => oth k fun q => (h.blk k hk).2 (q ▸ h.xk)⟩
  · rcases hk with q | q
    · exact ⟨h.grw k q, by rw [sz]; exact h.d.lim k q⟩
    · exact ⟨.inl (q ▸ h.xk), by rw [sz, q]; exact h1⟩
  · rw [eaL_len, h.len]
    exact hJ _ Xo w w' h.d.j ⟨os, tp, ou, by rw [sz]; exact Nat.le_refl _, fun k hk hx => oth k fun q => by
      subst q
      rcases hx with q | q
      · omega
      · exact h.d.xd q⟩
end
theorem roundIn_any {n m : Nat} {P : Program} {l : Nat} {f : FuncId} {tmps : Array Value} {assign body : Code} {w : World} {R : Ending → World → Prop} (l2 : Nat) (h : RoundIn Fence.wide n P l f tmps assign body w R) : RoundIn (Fence.wide.inRound l2) m P l f tmps assign body w R :=
  ⟨h.1, fun c cs _ => h.2 c cs (room_wide _)⟩
attribute [local go_sem] Oper.semAt_some
set_option maxRecDepth 100000 in
set_option maxHeartbeats 6400000 in
theorem each_iter {Da : Nat → Prop} {b1 b2 g N gs K : Nat} {gv : Nat → Nat} {F : Nat → List Nat} {V : Nat → Value} {sv : Value} {S : List Nat} {w0 : World} (n : Nat) (hn1 : 1 ≤ n) (h : Eas Da b1 b2 g N gs gv F V sv S w0) (hDa : ∀ k, Da k → k < w0.heap.size) (hN : N ≤ 10000000)
    (hS : ∀ x ∈ S, x < N) (hF : ∀ v, v < N → ∀ x ∈ F v, x < N) (hSl : S.length < 10000000) (hFl : ∀ v, v < N → (F v).length < 10000000) (hK : (lyr F S K).1 = []) (hK' : ∀ i, i < K → (lyr F S i).1 ≠ []) (hKb : K ≤ 10000000) :
    Rm.Iter Fence.wide n Try.prog 46 #[.pointer (some ⟨b1, 0, none⟩), .pointer (some ⟨b2, 0, none⟩)] (eaL F S K).length (EaV F S K) (fun _ _ => False) (fun _ _ _ => True) w0 Da := by
  intro l J Jx W X0 hW hJ hJx hY h0 hX0 hX1
  have hE := h.keep hW.size (fun k hk => hW.block k (hDa k hk))
  have hDa' : ∀ k, Da k → k < W.heap.size := fun k hk => Nat.lt_of_lt_of_le (hDa k hk) hW.size
  clear h hDa hW
  obtain ⟨W1, hW1⟩ : ∃ w, W.alloc (.cells #[.func (.yield l) #[] #[]] 71) = w := ⟨_, rfl⟩
  have bA : Below W.heap.size W W1 := by rw [← hW1]; exact (Below.refl _ W).alloc (Nat.le_refl _) _
  have ry : W1.heap[W.heap.size]? = some (.cells #[.func (.yield l) #[] #[]] 71 (0, 0)) := by rw [← hW1]; exact heap_alloc_new _ _
  have sA : W1.heap.size = W.heap.size + 1 := by rw [← hW1]; simp
  obtain ⟨W2, hW2⟩ : ∃ w, W1.alloc (.cells #[.int .i64 0] 3) = w := ⟨_, rfl⟩
  have bB : Below W1.heap.size W1 W2 := by rw [← hW2]; exact (Below.refl _ W1).alloc (Nat.le_refl _) _
  have rd : W2.heap[W1.heap.size]? = some (.cells #[.int .i64 0] 3 (0, 0)) := by rw [← hW2]; exact heap_alloc_new _ _
  obtain ⟨kd, hkd⟩ : ∃ k, W1.heap.size = k := ⟨_, rfl⟩
  obtain ⟨ky, hky⟩ : ∃ k, W.heap.size = k := ⟨_, rfl⟩
  have bAB : Below W.heap.size W W2 := bA.trans (bB.mono bA.size)
  have ry2 := (bB.block _ (Array.getElem?_eq_some_iff.1 ry).1).trans ry
  have hE2 := hE.keep bAB.size (fun k hk => bAB.block k (hDa' k hk))
  have CL := layers_any W2 hE2 (fun k hk => Nat.lt_of_lt_of_le (hDa' k hk) bAB.size)
  have e1 := hE2.c1
  have e2 := hE2.c2
  obtain ⟨os, cs, es, -⟩ := id hE.st
  obtain ⟨SL, hSL⟩ : ∃ n, S.length = n := ⟨_, rfl⟩
  rw [es, hSL] at CL e1
  unfold nOf at CL
  have e1r := e1
  have e2r := e2
  rw [← hW2, ← hW1] at e1r e2r
  have hWW : (W.alloc (.cells #[.func (.yield l) #[] #[]] 71)).alloc (.cells #[.int .i64 0] 3) = W2 := by rw [hW1, hW2]
  have hk1 : ky + 1 = kd := by rw [← hkd, ← hky, sA]
  rw [hkd] at rd
  rw [hky] at ry2
  have HY := mkHid (And.intro hJ (And.intro hJx (And.intro hY (And.intro h0 (And.intro hX0 (And.intro hX1 (And.intro hE2 hDa')))))))
  have HN := mkHid (And.intro hN (And.intro hS (And.intro hF (And.intro hSl (And.intro hFl (And.intro hK (And.intro hK' hKb)))))))
  have HB := mkHid (And.intro bAB (And.intro rd (And.intro ry2 (And.intro hkd (And.intro hky sA)))))
  replace hWW := mkHid hWW
  clear hW1 hW2
  clear hJ hJx hY h0 hX0 hX1 hE hE2 hDa' hN hS hF hSl hFl hK hK' hKb bA ry sA bB rd bAB ry2 es hSL
  show CallsIn _ _ _ _ #[.func (.yield l) #[] #[], .pointer (some ⟨b1, 0, none⟩), .pointer (some ⟨b2, 0, none⟩)] W _
  refine callsIn_of_wp_marks Try.func46 rfl trivial ?_ rfl
  simp only [Try.ntmps46, List.size_toArray, List.length_cons, List.length_nil, Nat.reduceAdd, Nat.reduceSub, Array.replicate_succ, Array.replicate_zero, List.push_toArray, List.append_toArray, List.nil_append, List.cons_append]
  gi_wp2
  try rw [hky]
  try rw [hk1]
  try rw [hWW.out]
  refine ⟨trivial, callsIn_wide.2 (CL.mono ?_)⟩
  rintro e W3 ⟨a, b, rfl, ha, ha2, hb, hb2, b23, hL⟩
  clear CL e1 e2 e1r e2r
  have HL := mkHid (And.intro ha (And.intro ha2 (And.intro hb (And.intro hb2 (And.intro b23 hL)))))
  clear ha ha2 hb hb2 b23 hL
  gi_wp2
  have hDa3 : ∀ k, (Da k ∨ k = a ∨ k = b) → k < W3.heap.size := fun k hk => by
    obtain ⟨ha, ha2, hb, hb2, b23, -⟩ := HL.out
    rcases hk with q | q | q
    · have := HY.out.2.2.2.2.2.2.2 k q
      have := HB.out.1.size
      have := b23.size
      omega
    · omega
    · omega
  have hit := layers_iter (n - 1) HL.out.2.2.2.2.2 hDa3 HN.out.1 HN.out.2.1 HN.out.2.2.1 HN.out.2.2.2.1 HN.out.2.2.2.2.1 HN.out.2.2.2.2.2.1 HN.out.2.2.2.2.2.2.1
  have b03 : Below W.heap.size W W3 := HB.out.1.trans (HL.out.2.2.2.2.1.mono HB.out.1.size)
  have rd3 := (HL.out.2.2.2.2.1.block _ (Array.getElem?_eq_some_iff.1 HB.out.2.1).1).trans HB.out.2.1
  have ry3 := (HL.out.2.2.2.2.1.block _ (Array.getElem?_eq_some_iff.1 HB.out.2.2.1).1).trans HB.out.2.2.1
  have hkd3 := (Array.getElem?_eq_some_iff.1 rd3).1
  have hky3 := (Array.getElem?_eq_some_iff.1 ry3).1
  have hkdW : W.heap.size ≤ kd := by omega
  have hkne : kd ≠ ky := by omega
  have hD0 : Dst W X0 kd ky l J 0 (eaL F S 0).length X0 W3 := by
    obtain ⟨hJ, hJx, hY, h0, hX0, hX1, -⟩ := HY.out
    refine ⟨hJ 0 X0 W W3 h0 (Rm.Agr.of_below b03), rd3, ry3, fun q => ?_, fun q => ?_, fun k hk => .inl hk, fun k hk => ?_⟩
    · have := hX0 _ q
      omega
    · have := hX0 _ q
      omega
    · have := hX0 _ hk
      have := b03.size
      omega
  have HD := mkHid (And.intro hD0 (And.intro b03 (And.intro hkd3 (And.intro hky3 (And.intro hkdW hkne)))))
  clear hD0 b03 hkd3 hky3 hkdW hkne rd3 ry3
  refine Rm.loop_out (F := Fence.wide) (n := n) rfl hn1 (gf := 71) (lb := #[.pointer (some ⟨a, 0, none⟩), .pointer (some ⟨b, 0, none⟩)]) rfl trivial (enters_of Try.func71 (by kernel_rfl) rfl) hit hDa3 (Below.refl _ _) (fun i x W l o o' h hl ho => LyV.put h hl ho) (fun i x W l o o' h hl ho => LyR.put h hl ho) (fun i x W h => by obtain ⟨_, _, _, rfl, _⟩ := h; rfl)
    (fun i X U => ∃ Xo : Nat → Prop, (∀ k, X k ↔ Xo k ∨ k = kd) ∧ Dst W X0 kd ky l J i (eaL F S i).length Xo U)
    (fun c X U => c = Code.ret ∧ ∃ Xo : Nat → Prop, (∀ k, X k ↔ Xo k ∨ k = kd) ∧ Jx Xo U ∧ ¬ Xo kd ∧ ∀ k, Xo k → X0 k ∨ W.heap.size ≤ k)
    (fun k => X0 k ∨ k = kd) ?hI ?hIx ⟨X0, fun k => Iff.rfl, HD.out.1⟩ ?hX0 ?hX1 ?round ?done ?stop
  case hI =>
    rintro i X A B ⟨Xo, hX, hd⟩ hg
    refine ⟨Xo, hX, hd.keep HY.out.1 (hg.weak fun k _ hk => ?_)⟩
    rcases hk with q | q | q | q
    · have := HD.out.2.1.size
      exact .inl (by omega)
    · exact .inr ((hX k).2 (.inl q))
    · exact .inr ((hX k).2 (.inr q))
    · have := HD.out.2.2.2.1
      exact .inl (by omega)
  case hIx =>
    rintro c X A B ⟨e, Xo, hX, hj, h1, h2⟩ hg
    refine ⟨e, Xo, hX, HY.out.2.1 Xo A B hj (hg.weak fun k _ hk => ?_), h1, h2⟩
    rcases hk with q | q
    · have := HD.out.2.1.size
      exact .inl (by omega)
    · exact .inr ((hX k).2 (.inl q))
  case hX0 =>
    intro k hk
    have := HD.out.2.1.size
    have := HD.out.2.2.1
    rcases hk with q | q
    · have := HY.out.2.2.2.2.1 k q
      omega
    · omega
  case hX1 =>
    intro k hk hd
    have := HB.out.1.size
    have h1 := HD.out.2.2.2.2.1
    have h2 := (Array.getElem?_eq_some_iff.1 HB.out.2.1).1
    rcases hk with q | q
    · have h3 := HY.out.2.2.2.2.1 k q
      rcases hd with d | d | d
      · exact HY.out.2.2.2.2.2.1 k q d
      · have := HL.out.1
        omega
      · have := HL.out.2.2.1
        omega
    · rcases hd with d | d | d
      · have := HY.out.2.2.2.2.2.2.2 k d
        omega
      · have := HL.out.1
        omega
      · have := HL.out.2.2.1
        omega
  case round =>
    intro l2 i x X U hi hv
    obtain ⟨v, B, nB, rfl, ho⟩ := hv
    obtain ⟨o, c, rfl⟩ := own_size ho
    gi_wp2
    refine ⟨trivial, fun U2 hl hlw hlz hI hv2 hH hXl => ?_⟩
    obtain ⟨Xo, hX, hd⟩ := hI
    obtain ⟨v2, B2, n2, e, ho2⟩ := hv2
    injection e with e
    injection e with e
    subst e
    have CS := sort_any U2 ho2 (List.length_pos_iff.2 (HN.out.2.2.2.2.2.2.1 i hi)) (by
      have h2 := lyr_sum (nd := F) (S := S) i
      have h3 := nodup_len N _ (lyr_nodup (nd := F) (S := S) i) (lyr_lt HN.out.2.1 HN.out.2.2.1 i).1
      have h4 := HN.out.1
      omega)
    obtain ⟨m, hm⟩ : ∃ m, (lyr F S i).1.length = m := ⟨_, rfl⟩
    have hm2 : nB = m := by
      obtain ⟨h2, -⟩ := ho
      rw [← hm]
      simpa [ik] using h2.symm
    subst hm2
    have HR0 := mkHid (And.intro hX (And.intro hd (And.intro hlw (And.intro hlz (And.intro hH (And.intro hXl (And.intro ho2 (And.intro hi hm))))))))
    clear hX hd hlw hlz hH hXl ho2 ho hi hm
    gi_wp2
    refine ⟨trivial, fun h => (by cases h), CallsIn.inRound l2 (callsIn_wide.2 (CS.mono ?_))⟩
    rintro e U3 ⟨rfl, ho3, f3⟩
    have HR : Hid (∃ Xo, Rst W X0 kd ky l J F S U2 X (.slice o nB c) nB i 0 Xo U3) := by
      obtain ⟨hX, hd, hlw, hlz, hH, hXl, ho2, hi, hm⟩ := HR0.out
      have hvb : ∀ k, (Value.slice o nB c).ownBlock = some k → k < U2.heap.size ∧ ¬ X k := fun k hk => by
        obtain ⟨C, hC⟩ := own_tyI ho2 hk
        exact ⟨(Array.getElem?_eq_some_iff.1 hC).1, (hH k ⟨_, rfl, hk⟩).2⟩
      refine ⟨Xo, ⟨f3.wide fun k _ hk => .inr ⟨_, rfl, hk⟩, fun k hk => .inl ((hX k).2 (.inl hk)), hd.keep HY.out.1 (f3.agr fun k hk hx hv => ?_), ?_, hvb, by rw [srt_len, hm], (hX kd).2 (.inr rfl), ?_⟩⟩
      · have h1 := hH k ⟨_, rfl, hv⟩
        have h3 := HD.out.2.1.size
        have h4 := HD.out.2.2.2.1
        rcases hx with q | q | q | q
        · omega
        · exact h1.2 ((hX k).2 (.inl q))
        · exact h1.2 ((hX k).2 (.inr q))
        · omega
      · have h5 : n2 = nB := by
          obtain ⟨h2, -⟩ := ho2
          rw [← hm]
          simpa [ik] using h2.symm
        subst h5
        exact ⟨B2, ho3⟩
      · have h3 := HD.out.2.1.size
        omega
    clear CS ho3 f3
    gi_wp2
    gi_loopw [17] (fun iv wr => ∃ j : Nat, iv = .int .i64 (j : Int) ∧ j ≤ nB ∧ Hid (∃ Xo, Rst W X0 kd ky l J F S U2 X (.slice o nB c) nB i j Xo wr)) (fun iv _ => nB - (intOf iv).toNat)
    case atStart => exact ⟨0, rfl, Nat.zero_le _, HR⟩
    case round =>
      obtain ⟨j, rfl, hj, HI⟩ := hrel
      obtain ⟨Xn, hr⟩ := HI.out
      by_cases hlt : j < nB
      · have i1 := ltI hlt
        have i0 := geI j
        obtain ⟨gl, off, rfl, e1⟩ := hr.read hlt
        have hi2 := HR0.out.2.2.2.2.2.2.2.1
        have hjl : j < (srt (lyr F S i).1).length := by rw [hr.len]; exact hlt
        have e2 : wr.cell? ⟨ky, 0, none⟩ = some (.func (.yield l) #[] #[]) := (cell_of_row _ _ _ _ _ _ hr.d.cy).trans rfl
        have e3 : wr.cell? ⟨kd, 0, none⟩ = some (.int .i64 (i : Int)) := (cell_of_row _ _ _ _ _ _ hr.d.cd).trans rfl
        obtain ⟨fn, tmps, assign, body, hy, hR⟩ := HY.out.2.2.1 ((eaL F S i).length + j) #[.int .i64 (((srt (lyr F S i).1).getD j 0 : Nat) : Int), .int .i64 (i : Int)] Xn wr (eaL_lt hi2 hjl) hr.d.j (Nat.le_trans hr.sW hr.frm.size) ⟨_, eaL_get hi2 hjl, rfl⟩ (fun k h => h.elim)
        obtain ⟨x, hx⟩ : ∃ x, (srt (lyr F S i).1).getD j 0 = x := ⟨_, rfl⟩
        rw [hx] at e1 hy
        have hw1 := wrapI j (by
          have h2 := lyr_sum (nd := F) (S := S) i
          have h3 := nodup_len N _ (lyr_nodup (nd := F) (S := S) i) (lyr_lt HN.out.2.1 HN.out.2.2.1 i).1
          have h4 := HN.out.1
          have h5 := HR0.out.2.2.2.2.2.2.2.2
          omega)
        have HQ := mkHid hr
        clear hr hx hjl hi2
        gi_wp2
        refine ⟨fun h => (by cases h), roundIn_any l2 (hR.mono ?_)⟩
        rintro e W' ⟨X', hf, hX', (⟨rfl, hJ2, -⟩ | ⟨rfl, hJx2⟩)⟩
        · have HI3 : Hid (∃ Xo, Rst W X0 kd ky l J F S U2 X (.slice (some ⟨gl, off, none⟩) nB c) nB i (j + 1) Xo W') := ⟨X', HQ.out.yield hf hX' hJ2⟩
          clear hf hX' hJ2 hR hy
          gi_wp2
          go_roundw
          case rel => exact ⟨j + 1, by simp [hw1], hlt, HI3⟩
          case measure => rw [hw1]; exact measI _ _ hlt
        · have HE := mkHid (HQ.out.stop (Jx := Jx) hf hX' hJx2)
          clear hf hX' hJx2 hR hy
          gi_wp2
          obtain ⟨X', q1, q2, -, q3⟩ := HE.out
          exact ⟨X', q1, q2, rfl, q3⟩
      · have i1 := nltI hlt
        obtain rfl : j = nB := eqI hj hlt
        have e3 : wr.cell? ⟨kd, 0, none⟩ = some (.int .i64 (i : Int)) := (cell_of_row _ _ _ _ _ _ hr.d.cd).trans rfl
        have f3 : wr.frozen? ⟨kd, 0, none⟩ = false := frozen_of_row _ _ _ _ _ hr.d.cd
        have hi2 := HR0.out.2.2.2.2.2.2.2.1
        have hw1 := wrapI i (by have := HN.out.2.2.2.2.2.2.2; omega)
        have HE := mkHid (fun w' h => hr.done HY.out.1 HD.out.2.2.2.2.1 HD.out.2.2.2.2.2 (w' := w') h)
        clear hr hi2
        gi_wp2
        refine HE.out _ ?_
        rw [Int.natCast_add]
        rfl
  case done =>
    rintro X U ⟨Xo, hX, hd⟩ hF hG hK
    have hkU := (Array.getElem?_eq_some_iff.1 hd.cd).1
    have hb := HD.out.2.1
    have hsz := hb.size
    have hFs := hF.size
    have hXn : ¬ Xo W3.heap.size := fun q => by
      rcases hG _ ((hX _).2 (.inl q)) with (q | q) | q
      · have := HY.out.2.2.2.2.1 _ q
        omega
      · have := HD.out.2.2.1
        omega
      · omega
    have HE : Hid (∃ X : Nat → Prop, (∀ k, X k → X0 k ∨ W.heap.size ≤ k) ∧ Rm.Frm X0 W (U.putObj W3.heap.size (.deferred none)) ∧ (J (eaL F S K).length X (U.putObj W3.heap.size (.deferred none)) ∨ Jx X (U.putObj W3.heap.size (.deferred none)))) :=
      ⟨Xo, hd.grw, ⟨hF.os.trans hb.os, hF.tape.trans hb.tape, hF.output.trans hb.output, by simp [World.putObj]; omega, fun k hk hx => (World.putObj_heap_other (by omega)).trans ((hF.blk k (by omega) (fun q => q.elim hx (fun q => by have := HD.out.2.2.2.2.1; omega))).trans (hb.block k hk))⟩, .inl (HY.out.1 _ Xo U _ hd.j (Rm.Agr.put (fun q => q.elim (by omega) hXn) _))⟩
    refine ⟨by simp, .inl ⟨_, _, rfl, run_takeDeferred hK, ?_⟩⟩
    obtain ⟨X1, q1, q2, q3⟩ := HE.out
    exact ⟨_, results_none rfl _ _ _, ⟨_, rfl⟩, X1, q1, q2, q3⟩
  case stop =>
    rintro c X U ⟨rfl, Xo, hX, hj, h1, h2⟩ hF hG hK
    have hb := HD.out.2.1
    have hsz := hb.size
    have hFs := hF.size
    have hXn : ¬ Xo W3.heap.size := fun q => by
      rcases hG _ ((hX _).2 (.inl q)) with (q | q) | q
      · have := HY.out.2.2.2.2.1 _ q
        omega
      · have := HD.out.2.2.1
        omega
      · omega
    have HE : Hid (∃ X : Nat → Prop, (∀ k, X k → X0 k ∨ W.heap.size ≤ k) ∧ Rm.Frm X0 W (U.putObj W3.heap.size (.deferred none)) ∧ (J (eaL F S K).length X (U.putObj W3.heap.size (.deferred none)) ∨ Jx X (U.putObj W3.heap.size (.deferred none)))) :=
      ⟨Xo, h2, ⟨hF.os.trans hb.os, hF.tape.trans hb.tape, hF.output.trans hb.output, by simp [World.putObj]; omega, fun k hk hx => (World.putObj_heap_other (by omega)).trans ((hF.blk k (by omega) (fun q => q.elim hx (fun q => by have := HD.out.2.2.2.2.1; omega))).trans (hb.block k hk))⟩, .inr (HY.out.2.1 Xo U _ hj (Rm.Agr.put (fun q => q.elim (by omega) hXn) _))⟩
    gi_wp2
    refine ⟨by simp, .inl ⟨_, _, rfl, run_takeDeferred hK, ?_⟩⟩
    obtain ⟨X1, q1, q2, q3⟩ := HE.out
    exact ⟨_, results_none rfl _ _ _, ⟨_, rfl⟩, X1, q1, q2, q3⟩
end Go.Proofs.Ytgedmfcfhdfoeaa
