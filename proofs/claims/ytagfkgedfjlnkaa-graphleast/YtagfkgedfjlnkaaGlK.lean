/- Graphs reduced: ordered, Reduce. -/
import Derived.Test.YtagfkgedfjlnkaaGlJ
namespace Go.Proofs.Ytagfkgedfjlnkaa
open Go.RowKit GM Gl
/-- What each node needs. -/
def nd (N : Nat) (E : List (Nat × Nat)) : Nat → List Nat := trL (nds E E.length) N
/-- Edges from greater nodes to lesser ones. -/
def Dn (N : Nat) (E : List (Nat × Nat)) : Prop := ∀ e ∈ E, e.2 < e.1 ∧ e.1 < N
theorem mem_nd {N : Nat} {E : List (Nat × Nat)} (h : Dn N E) (a b : Nat) : b ∈ nd N E a ↔ (a, b) ∈ E := by
  unfold nd
  rw [mem_trL]
  unfold nds
  rw [List.take_length]
  constructor
  · rintro ⟨-, q⟩
    obtain ⟨⟨x, y⟩, h1, h2⟩ := List.mem_map.1 q
    obtain ⟨h3, h4⟩ := List.mem_filter.1 h1
    simp at h2 h4
    subst h2 h4
    exact h3
  · intro q
    have := h _ q
    simp at this
    exact ⟨by omega, List.mem_map.2 ⟨(a, b), List.mem_filter.2 ⟨q, by simp⟩, rfl⟩⟩
theorem nd_fits {N : Nat} {E : List (Nat × Nat)} (h : Dn N E) : Fits E (nd N E) := fun a b => (mem_nd h a b).symm
theorem nd_lt {N : Nat} {E : List (Nat × Nat)} (h : Dn N E) (a b : Nat) (hb : b ∈ nd N E a) : b < a := (h _ ((mem_nd h a b).1 hb)).1
theorem nd_nodup (N : Nat) (E : List (Nat × Nat)) (a : Nat) : (nd N E a).Nodup := trL_nodup _ _ _
theorem nd_out {N : Nat} {E : List (Nat × Nat)} (h : Dn N E) (a : Nat) (ha : N ≤ a) : nd N E a = [] := by
  rw [List.eq_nil_iff_forall_not_mem]
  intro b hb
  have := (h _ ((mem_nd h a b).1 hb)).2
  simp at this
  omega
theorem badF_ok (N : Int) : ∀ (E : List (Int × Int)) (i : Nat), (∀ e ∈ E, okE N e = true) → badF N E i = none
  | [], _, _ => rfl
  | e :: r, i, h => by
    unfold badF
    rw [if_pos (h e List.mem_cons_self)]
    exact badF_ok N r (i + 1) fun x hx => h x (List.mem_cons_of_mem _ hx)
theorem chk_dn {N : Nat} {E : List (Nat × Nat)} (h : Dn N E) (hN : N ≤ 1024) (hl : E.length ≤ 1000000) : (chk (N : Int) (zE E)).1 = 0 := by
  unfold chk
  rw [if_neg (by omega), if_neg (by rw [zE_len]; omega), badF_ok _ _ _ (fun e he => ?_)]
  · rfl
  · unfold zE at he
    obtain ⟨x, hx, rfl⟩ := List.mem_map.1 he
    have := h x hx
    simp [okE]
    omega
theorem edg_bound (L : Nat → List Nat) (m : Nat) (h : ∀ a, (L a).length ≤ m) : ∀ n, (edg L n).length ≤ n * m := edg_len L m h
theorem red_small {N : Nat} {E : List (Nat × Nat)} (hN : N ≤ 1024) (hd : Dn N E) : (edg (red (nd N E)) N).length ≤ 1073741824 := by
  have h1 : ∀ a, (red (nd N E) a).length ≤ N := fun a => by
    refine Nat.le_trans (List.length_filter_le _ _) ?_
    have := List.Nodup.length_le_of_subset (l₁ := nd N E a) (l₂ := List.range N) (nd_nodup N E a) (fun v hv => List.mem_range.2 (by
      have h2 := hd _ ((mem_nd hd a v).1 hv)
      simp at h2
      omega))
    simpa using this
  have h2 := edg_bound _ N h1 N
  have h3 : N * N ≤ 1024 * 1024 := Nat.mul_le_mul hN hN
  omega
set_option maxRecDepth 100000 in
set_option maxHeartbeats 1600000 in
theorem ordered_any (N : Nat) (hN : N ≤ 1024) (E : List (Nat × Nat)) (hd : Dn N E) (hl : E.length ≤ 1000000) (v : Value) (w : World) (hv : El v (zE E) w) : Calls Try.prog 9 #[grV (N : Int) v] w fun e w' => ∃ g V o ov, e = .returned (.tuple #[.slice (some ⟨g, 0, none⟩) N N, ov, .int .i64 0]) ∧ Rws g N (nd N E) V w' ∧ Top (nd N E) N o ∧ w'.ownsRow 0 3 1 ov N (ik o).toList ∧ Below w.heap.size w w' := by
  obtain ⟨W0, hW0⟩ : ∃ W0, w.alloc (.cells #[.int .i64 (N : Int), v] 24) = W0 := ⟨_, rfl⟩
  have b0 : Below w.heap.size w W0 := by rw [← hW0]; exact (Below.refl _ w).alloc (Nat.le_refl _) _
  have r0 : W0.heap[w.heap.size]? = some (.cells #[.int .i64 (N : Int), v] 24 (0, 0)) := by rw [← hW0]; exact heap_alloc_new _ _
  have HS : Hid (w.heap.size < W0.heap.size ∧ Below w.heap.size w W0 ∧ W0.heap[w.heap.size]? = some (.cells #[.int .i64 (N : Int), v] 24 (0, 0)) ∧ El v (zE E) w ∧ N ≤ 1024 ∧ Dn N E ∧ E.length ≤ 1000000) := ⟨(Array.getElem?_eq_some_iff.1 r0).1, b0, r0, hv, hN, hd, hl⟩
  have HC : Hid (Calls Try.prog 8 #[grV (N : Int) v, .slice none 0 0] W0 fun e w' => e = .returned (.int .i64 0) ∧ Below W0.heap.size W0 w') := by
    have := checkWith_any (N : Int) (zE E) v W0 (hv.below b0)
    rw [chk_dn hd hN hl] at this
    exact this
  have HN : Hid (∀ Y, Below w.heap.size w Y → Calls Try.prog 14 #[grV (N : Int) v] Y fun e w' => ∃ g' V', e = .returned (.slice (some ⟨g', 0, none⟩) N N) ∧ Rws g' N (nd N E) V' w' ∧ Below Y.heap.size Y w') := fun Y bY => needsOf_any N (by omega) E (fun e he => by have := hd e he; omega) (by omega) v Y (hv.below bY)
  obtain ⟨o', c', hvf, -, -⟩ := hv.form
  rw [zE_len] at hvf
  subst hvf
  unfold grV at HC HN ⊢
  have l0 : W0.cell? ⟨w.heap.size, 0, none⟩ = some (.int .i64 (N : Int)) := (cell_of_row _ _ _ _ _ _ r0).trans rfl
  have l1 : W0.cell? ⟨w.heap.size, 1, none⟩ = some (.slice o' E.length c') := (cell_of_row _ _ _ _ _ _ r0).trans rfl
  obtain ⟨m, hm⟩ : ∃ m, E.length = m := ⟨_, rfl⟩
  rw [hm] at HC HN HS l1 hW0 ⊢
  clear b0 r0 hv hN hd hl hm
  go_enter Try.func9, Try.ntmps9
  go_wp2_with fail
  with_reducible refine Calls.mono HC.out ?_
  rintro en W1 ⟨rfl, b1⟩
  have H1 : Hid (Below w.heap.size w W1 ∧ W1.heap[w.heap.size]? = some (.cells #[.int .i64 (N : Int), .slice o' m c'] 24 (0, 0))) := ⟨HS.out.2.1.trans (b1.mono HS.out.2.1.size), (b1.block _ HS.out.1).trans HS.out.2.2.1⟩
  have l2 : W1.cell? ⟨w.heap.size, 0, none⟩ = some (.int .i64 (N : Int)) := (cell_of_row _ _ _ _ _ _ H1.out.2).trans rfl
  have l3 : W1.cell? ⟨w.heap.size, 1, none⟩ = some (.slice o' m c') := (cell_of_row _ _ _ _ _ _ H1.out.2).trans rfl
  have HC2 : Hid (Calls Try.prog 14 #[.agg #[.int .i64 (N : Int), .slice o' m c']] W1 fun e w' => ∃ g' V', e = .returned (.slice (some ⟨g', 0, none⟩) N N) ∧ Rws g' N (nd N E) V' w' ∧ Below W1.heap.size W1 w') := HN.out W1 H1.out.1
  clear b1 l0 l1 hW0
  go_wp2_with fail
  with_reducible refine Calls.mono HC2.out ?_
  rintro en W2 ⟨g2, V2, rfl, R2, b2⟩
  have HO : Hid (Calls Try.prog 15 #[.slice (some ⟨g2, 0, none⟩) N N] W2 fun e w' => ∃ o ov, e = .returned ov ∧ Top (nd N E) N o ∧ w'.ownsRow W2.heap.size 3 1 ov N (ik o).toList ∧ Below W2.heap.size W2 w') := order_any N HS.out.2.2.2.2.1 (nd N E) (nd_lt HS.out.2.2.2.2.2.1) (nd_nodup N E) (nd_out HS.out.2.2.2.2.2.1) g2 V2 W2 R2
  have H2 : Hid (Rws g2 N (nd N E) V2 W2 ∧ Below w.heap.size w W2 ∧ W2.heap[w.heap.size]? = some (.cells #[.int .i64 (N : Int), .slice o' m c'] 24 (0, 0))) := ⟨R2, H1.out.1.trans (b2.mono H1.out.1.size), (b2.block _ (Array.getElem?_eq_some_iff.1 H1.out.2).1).trans H1.out.2⟩
  clear R2 b2 l2 l3
  go_wp2_with fail
  with_reducible refine Calls.mono HO.out ?_
  rintro en W3 ⟨o, ov, rfl, tp, ow, b3⟩
  obtain ⟨oa, oc, rfl⟩ := own_size ow
  have rw3 := (b3.block _ (Array.getElem?_eq_some_iff.1 H2.out.2.2).1).trans H2.out.2.2
  have l4 : W3.cell? ⟨w.heap.size, 0, none⟩ = some (.int .i64 (N : Int)) := (cell_of_row _ _ _ _ _ _ rw3).trans rfl
  have ow0 : W3.ownsRow 0 3 1 (.slice oa N oc) N (ik o).toList := by
    obtain ⟨u0, u1⟩ := ow
    refine ⟨u0, ?_⟩
    rcases u1 with u1 | ⟨g, cap, cur, u2, u3, u4⟩
    · exact .inl u1
    · exact .inr ⟨g, cap, cur, u2, Nat.zero_le _, u4⟩
  have HE : Hid (∃ o, Rws g2 N (nd N E) V2 W3 ∧ Top (nd N E) N o ∧ W3.ownsRow 0 3 1 (.slice oa N oc) N (ik o).toList ∧ Below w.heap.size w W3) := ⟨o, H2.out.1.below b3, tp, ow0, H2.out.2.1.trans (b3.mono H2.out.2.1.size)⟩
  clear tp ow b3 rw3 ow0
  go_wp2_with fail
  go_ret3
  obtain ⟨o, e1, e2, e3, e4⟩ := HE.out
  exact ⟨g2, V2, o, _, rfl, e1, e2, e3, e4⟩
section
set_option maxRecDepth 100000 in
set_option maxHeartbeats 1600000 in
theorem reduce_any (N : Nat) (hN : N ≤ 1024) (E : List (Nat × Nat)) (hd : Dn N E) (hl : E.length ≤ 1000000) (v : Value) (w : World) (hv : El v (zE E) w) : Calls Try.prog 5 #[grV (N : Int) v] w fun e w' => ∃ u, e = .returned (.tuple #[grV (N : Int) u, .int .i64 0]) ∧ El u (zE (edg (red (nd N E)) N)) w' ∧ Below w.heap.size w w' := by
  obtain ⟨W0, hW0⟩ : ∃ W0, (w.alloc (.cells #[.int .i64 (N : Int), v] 24)).alloc (.cells #[.int .i64 0, .slice none 0 0] 24) = W0 := ⟨_, rfl⟩
  have b0 : Below w.heap.size w W0 := by rw [← hW0]; exact ((Below.refl _ w).alloc (Nat.le_refl _) _).alloc (by simp) _
  have r0 : W0.heap[w.heap.size]? = some (.cells #[.int .i64 (N : Int), v] 24 (0, 0)) := by rw [← hW0]; exact heap_alloc2_old _ _ _
  have r1 : W0.heap[w.heap.size + 1]? = some (.cells #[.int .i64 0, .slice none 0 0] 24 (0, 0)) := by rw [← hW0]; exact heap_alloc2_new _ _ _
  have HS : Hid (Below w.heap.size w W0 ∧ W0.heap[w.heap.size]? = some (.cells #[.int .i64 (N : Int), v] 24 (0, 0)) ∧ W0.heap[w.heap.size + 1]? = some (.cells #[.int .i64 0, .slice none 0 0] 24 (0, 0)) ∧ El v (zE E) w ∧ N ≤ 1024 ∧ Dn N E ∧ E.length ≤ 1000000) := ⟨b0, r0, r1, hv, hN, hd, hl⟩
  have HC : Hid (Calls Try.prog 8 #[grV (N : Int) v, .slice none 0 0] W0 fun e w' => e = .returned (.int .i64 0) ∧ Below W0.heap.size W0 w') := by
    have := checkWith_any (N : Int) (zE E) v W0 (hv.below b0)
    rw [chk_dn hd hN hl] at this
    exact this
  have HN : Hid (∀ Y, Below w.heap.size w Y → Calls Try.prog 9 #[grV (N : Int) v] Y fun e w' => ∃ g V o ov, e = .returned (.tuple #[.slice (some ⟨g, 0, none⟩) N N, ov, .int .i64 0]) ∧ Rws g N (nd N E) V w' ∧ Top (nd N E) N o ∧ w'.ownsRow 0 3 1 ov N (ik o).toList ∧ Below Y.heap.size Y w') := fun Y bY => ordered_any N hN E hd hl v Y (hv.below bY)
  obtain ⟨o', c', hvf, -, -⟩ := hv.form
  rw [zE_len] at hvf
  subst hvf
  unfold grV at HC HN ⊢
  have l0 : W0.cell? ⟨w.heap.size, 0, none⟩ = some (.int .i64 (N : Int)) := (cell_of_row _ _ _ _ _ _ r0).trans rfl
  have l1 : W0.cell? ⟨w.heap.size, 1, none⟩ = some (.slice o' E.length c') := (cell_of_row _ _ _ _ _ _ r0).trans rfl
  obtain ⟨m, hm⟩ : ∃ m, E.length = m := ⟨_, rfl⟩
  rw [hm] at HC HN HS l1 hW0 ⊢
  have nb : ¬ ((1024 : Int) < (N : Int)) := by omega
  clear b0 r0 r1 hv hN hd hl hm
  go_enter Try.func5, Try.ntmps5
  go_wp2_with fail
  with_reducible refine Calls.mono HC.out ?_
  rintro en W1 ⟨rfl, b1⟩
  have H1 : Hid (Below w.heap.size w W1 ∧ W1.heap[w.heap.size]? = some (.cells #[.int .i64 (N : Int), .slice o' m c'] 24 (0, 0)) ∧ W1.heap[w.heap.size + 1]? = some (.cells #[.int .i64 0, .slice none 0 0] 24 (0, 0))) := ⟨HS.out.1.trans (b1.mono HS.out.1.size), (b1.block _ (Array.getElem?_eq_some_iff.1 HS.out.2.1).1).trans HS.out.2.1, (b1.block _ (Array.getElem?_eq_some_iff.1 HS.out.2.2.1).1).trans HS.out.2.2.1⟩
  have l2 : W1.cell? ⟨w.heap.size, 0, none⟩ = some (.int .i64 (N : Int)) := (cell_of_row _ _ _ _ _ _ H1.out.2.1).trans rfl
  have l3 : W1.cell? ⟨w.heap.size, 1, none⟩ = some (.slice o' m c') := (cell_of_row _ _ _ _ _ _ H1.out.2.1).trans rfl
  have HC2 : Hid (Calls Try.prog 9 #[.agg #[.int .i64 (N : Int), .slice o' m c']] W1 fun e w' => ∃ g V o ov, e = .returned (.tuple #[.slice (some ⟨g, 0, none⟩) N N, ov, .int .i64 0]) ∧ Rws g N (nd N E) V w' ∧ Top (nd N E) N o ∧ w'.ownsRow 0 3 1 ov N (ik o).toList ∧ Below W1.heap.size W1 w') := HN.out W1 H1.out.1
  clear b1 l0 l1 hW0
  go_wp2_with fail
  with_reducible refine Calls.mono HC2.out ?_
  rintro en W2 ⟨g2, V2, o, ov, rfl, R2, tp, ow, b2⟩
  have HR : Hid (Calls Try.prog 10 #[.slice (some ⟨g2, 0, none⟩) N N, ov] W2 fun e w' => ∃ g' V', e = .returned (.slice (some ⟨g', 0, none⟩) N N) ∧ Rws g' N (red (nd N E)) V' w' ∧ Below W2.heap.size W2 w') := reduced_any N HS.out.2.2.2.2.1 (nd N E) (nd_lt HS.out.2.2.2.2.2.1) (nd_nodup N E) g2 V2 W2 R2 o tp ov ow
  have H2 : Hid (Below w.heap.size w W2 ∧ W2.heap[w.heap.size + 1]? = some (.cells #[.int .i64 0, .slice none 0 0] 24 (0, 0))) := ⟨H1.out.1.trans (b2.mono H1.out.1.size), (b2.block _ (Array.getElem?_eq_some_iff.1 H1.out.2.2).1).trans H1.out.2.2⟩
  obtain ⟨oa, oc, rfl⟩ := own_size ow
  clear R2 tp ow b2 l2 l3
  go_wp2_with fail
  with_reducible refine Calls.mono HR.out ?_
  rintro en W3 ⟨g3, V3, rfl, R3, b3⟩
  have HG : Hid (Calls Try.prog 11 #[.slice (some ⟨g3, 0, none⟩) N N] W3 fun e w' => ∃ v, e = .returned (grV (N : Int) v) ∧ El v (zE (edg (red (nd N E)) N)) w' ∧ Below W3.heap.size W3 w' ∧ ∀ q, v.ownBlock = some q → W3.heap.size ≤ q) := graph_any N (by have := HS.out.2.2.2.2.1; omega) (red (nd N E)) (red_small HS.out.2.2.2.2.1 HS.out.2.2.2.2.2.1) g3 V3 W3 R3
  have H3 : Hid (Below w.heap.size w W3 ∧ W3.heap[w.heap.size + 1]? = some (.cells #[.int .i64 0, .slice none 0 0] 24 (0, 0))) := ⟨H2.out.1.trans (b3.mono H2.out.1.size), (b3.block _ (Array.getElem?_eq_some_iff.1 H2.out.2).1).trans H2.out.2⟩
  clear R3 b3
  go_wp2_with fail
  with_reducible refine Calls.mono HG.out ?_
  rintro en W4 ⟨u, rfl, eu, b4, fu⟩
  obtain ⟨ou, cu, hu, -, -⟩ := eu.form
  obtain ⟨mu, hmu⟩ : ∃ k, (zE (edg (red (nd N E)) N)).length = k := ⟨_, rfl⟩
  rw [hmu] at hu
  subst hu
  have rw4 := (b4.block _ (Array.getElem?_eq_some_iff.1 H3.out.2).1).trans H3.out.2
  have z0 : W4.cell? ⟨w.heap.size + 1, 0, none⟩ = some (.int .i64 0) := (cell_of_row _ _ _ _ _ _ rw4).trans rfl
  have z1 : W4.cell? ⟨w.heap.size + 1, 1, none⟩ = some (.slice none 0 0) := (cell_of_row _ _ _ _ _ _ rw4).trans rfl
  have f0 := frozen_of_row W4 (w.heap.size + 1) 0 _ _ rw4
  have f1 := frozen_of_row W4 (w.heap.size + 1) 1 _ _ rw4
  unfold grV
  have HE : Hid (El (.slice ou mu cu) (zE (edg (red (nd N E)) N)) W4 ∧ Below w.heap.size w W4 ∧ W4.heap[w.heap.size + 1]? = some (.cells #[.int .i64 0, .slice none 0 0] 24 (0, 0)) ∧ ∀ q, (Value.slice ou mu cu).ownBlock = some q → W3.heap.size ≤ q) := ⟨eu, H3.out.1.trans (b4.mono H3.out.1.size), rw4, fu⟩
  clear eu b4 fu rw4 hmu
  have HLT : Hid (∀ q, (Value.slice ou mu cu).ownBlock = some q → w.heap.size + 2 ≤ q) := fun q hq => by
    have h1 := HE.out.2.2.2 q hq
    have h2 := (Array.getElem?_eq_some_iff.1 H3.out.2).1
    omega
  go_wp2_with fail
  refine bodyPost_ret (results_Gt rfl _ _ (w.heap.size + 1) (.int .i64 (N : Int)) (.slice ou mu cu) rfl (set2G _ _ HE.out.2.2.1)) rfl ⟨_, rfl, ?_, ?_⟩
  · exact HE.out.1.keep (by simp [World.setCell]) fun q hq _ => set2_other _ _ q (by have := HLT.out q hq; omega)
  · exact below_set2 _ _ (Nat.le_succ _) HE.out.2.1
end
end Go.Proofs.Ytagfkgedfjlnkaa
