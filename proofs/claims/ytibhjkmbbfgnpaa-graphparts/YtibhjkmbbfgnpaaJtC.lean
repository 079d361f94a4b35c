/- Several texts in one: GtB, GtC. -/
import Derived.Test.YtibhjkmbbfgnpaaGxC
import Derived.Test.YtibhjkmbbfgnpaaGi
/- GraphTurns: one edge stands before another. -/
namespace Go.Proofs.Ytibhjkmbbfgnpaa
open Go.RowKit GM
set_option maxRecDepth 20000
set_option maxRecDepth 100000 in
theorem before_any (a b c d : Nat) (h : a < c ∨ a = c ∧ b < d) (w : World) : Calls Try.prog 21 #[.agg #[.int .i64 (a : Int), .int .i64 (b : Int)], .agg #[.int .i64 (c : Int), .int .i64 (d : Int)]] w fun e w' => e = .returned (.bool true) ∧ Below w.heap.size w w' := by
  obtain ⟨k, hk⟩ : ∃ k, w.heap.size = k := ⟨_, rfl⟩
  obtain ⟨W0, hW0⟩ : ∃ W0, (w.alloc (.cells #[.int .i64 (a : Int), .int .i64 (b : Int)] 47)).alloc (.cells #[.int .i64 (c : Int), .int .i64 (d : Int)] 47) = W0 := ⟨_, rfl⟩
  have b0 : Below w.heap.size w W0 := by rw [← hW0]; exact ((Below.refl _ w).alloc (Nat.le_refl _) _).alloc (by simp) _
  have r0 : W0.heap[k]? = some (.cells #[.int .i64 (a : Int), .int .i64 (b : Int)] 47 (0, 0)) := by rw [← hW0, ← hk]; exact (heap_alloc_old _ _ (h := by simp)).trans (heap_alloc_new _ _)
  have r1 : W0.heap[k + 1]? = some (.cells #[.int .i64 (c : Int), .int .i64 (d : Int)] 47 (0, 0)) := by
    rw [← hW0, ← hk]
    have := heap_alloc_new (w.alloc (.cells #[.int .i64 (a : Int), .int .i64 (b : Int)] 47)) (.cells #[.int .i64 (c : Int), .int .i64 (d : Int)] 47)
    have e : (w.alloc (.cells #[.int .i64 (a : Int), .int .i64 (b : Int)] 47)).heap.size = w.heap.size + 1 := by simp
    rwa [e] at this
  have c0 : W0.cell? ⟨k, 0, none⟩ = some (.int .i64 (a : Int)) := (cell_of_row _ _ _ _ _ _ r0).trans rfl
  have c1 : W0.cell? ⟨k, 1, none⟩ = some (.int .i64 (b : Int)) := (cell_of_row _ _ _ _ _ _ r0).trans rfl
  have c2 : W0.cell? ⟨k + 1, 0, none⟩ = some (.int .i64 (c : Int)) := (cell_of_row _ _ _ _ _ _ r1).trans rfl
  have c3 : W0.cell? ⟨k + 1, 1, none⟩ = some (.int .i64 (d : Int)) := (cell_of_row _ _ _ _ _ _ r1).trans rfl
  have HB := mkHid b0
  clear b0 r0 r1
  by_cases h1 : a < c
  · have i1 := ltI h1
    clear h h1
    go_enter Try.func21, Try.ntmps21
    go_upto_region 1 with fail
    try rw [hk]
    try rw [hW0]
    go_wp2_with fail
    go_ret
    exact ⟨rfl, by first | exact HB.out | (rw [← hk]; exact HB.out)⟩
  · obtain ⟨rfl, h2⟩ := h.resolve_left h1
    have i1 := ltI h2
    have i2 := nltI h1
    clear h h1 h2
    go_enter Try.func21, Try.ntmps21
    go_upto_region 1 with fail
    try rw [hk]
    try rw [hW0]
    go_wp2_with fail
    go_ret
    exact ⟨rfl, by first | exact HB.out | (rw [← hk]; exact HB.out)⟩
end Go.Proofs.Ytibhjkmbbfgnpaa

/- Graphs: lists of edges that are alike; Norm and Transpose, the code's. -/
namespace Go.Proofs.Ytibhjkmbbfgnpaa
open Go.RowKit GM
set_option maxRecDepth 20000
attribute [local go_sem ↓] toEqA
set_option maxRecDepth 100000 in
set_option maxHeartbeats 1000000 in
theorem sameE_any (l : List (Int × Int)) (v u : Value) (w : World) (hv : El v l w) (hu : El u l w) :
    Calls Try.prog 41 #[v, u] w fun e w' => e = .returned (.bool true) ∧ ∃ q, w' = w.drewN q := by
  obtain ⟨o, c, rfl, hl, ho⟩ := hv.form
  obtain ⟨o2, c2, rfl, _, ho2⟩ := hu.form
  clear hv hu
  go_enter Try.func41, Try.ntmps41
  go_wp2_with fail
  go_loopw [5] (fun i wr => ∃ k q : Nat, i = .int .i64 (k : Int) ∧ Hid (wr = w.drewN q)) (fun i _ => l.length - (intOf i).toNat)
  case atStart => exact ⟨0, 0, rfl, rfl⟩
  case round =>
    obtain ⟨k, q, rfl, HW⟩ := hrel
    by_cases hlt : k < l.length
    · obtain ⟨b, off, rfl, hb, hc⟩ := ho (by omega)
      obtain ⟨b2, off2, rfl, hb2, hc2⟩ := ho2 (by omega)
      have hk1 : (k : Int) < (l.length : Int) := by omega
      have hk0 : (0 : Int) ≤ (k : Int) := by omega
      have c1 : wr.cell? ⟨b, off + k * 2, none⟩ = some (.int .i64 (l.getD k (0, 0)).1) := by rw [HW.out]; exact (hc k hlt).1
      have c2 : wr.cell? ⟨b, off + k * 2 + 1, none⟩ = some (.int .i64 (l.getD k (0, 0)).2) := by rw [HW.out]; exact (hc k hlt).2
      have c3 : wr.cell? ⟨b2, off2 + k * 2, none⟩ = some (.int .i64 (l.getD k (0, 0)).1) := by rw [HW.out]; exact (hc2 k hlt).1
      have c4 : wr.cell? ⟨b2, off2 + k * 2 + 1, none⟩ = some (.int .i64 (l.getD k (0, 0)).2) := by rw [HW.out]; exact (hc2 k hlt).2
      revert c1 c2 c3 c4
      generalize (l.getD k (0, 0)).1 = x1, (l.getD k (0, 0)).2 = x2
      intro c1 c2 c3 c4
      have he := fun W => run_eqA W x1 x2 x1 x2
      rw [decide_eq_true ⟨rfl, rfl⟩] at he
      clear hc ho hc2 ho2
      go_wp2_with fail
      go_quiet (fail)
      go_wp2
      exact ⟨⟨k + 1, q + nq, by rfl, by show _ = _; rw [HW.out, World.drewN_drewN]⟩, by simp only [intOf]; omega⟩
    · have hk1 : ¬ ((k : Int) < (l.length : Int)) := by omega
      go_wp2
      go_ret
      exact ⟨rfl, q, HW.out⟩
set_option maxRecDepth 100000 in
set_option maxHeartbeats 1000000 in
theorem sameG_any (N : Int) (E : List (Int × Int)) (v u : Value) (w : World) (hv : El v E w) (hu : El u E w) :
    Calls Try.prog 20 #[grV N v, grV N u] w fun e w' => e = .returned (.bool true) ∧ Below w.heap.size w w' := by
  unfold grV
  obtain ⟨W0, hW0⟩ : ∃ W0, (w.alloc (.cells #[.int .i64 N, v] 24)).alloc (.cells #[.int .i64 N, u] 24) = W0 := ⟨_, rfl⟩
  have b0 : Below w.heap.size w W0 := by rw [← hW0]; exact ((Below.refl _ w).alloc (Nat.le_refl _) _).alloc (by simp) _
  have HC : Hid (Calls Try.prog 41 #[v, u] W0 fun e w' => e = .returned (.bool true) ∧ ∃ q, w' = W0.drewN q) := sameE_any E v u W0 (hv.below b0) (hu.below b0)
  have HW0 : Hid ((w.alloc (.cells #[.int .i64 N, v] 24)).alloc (.cells #[.int .i64 N, u] 24) = W0) := hW0
  have HB0 : Hid (Below w.heap.size w W0) := b0
  clear hW0 b0 hv hu
  go_enter Try.func20, Try.ntmps20
  go_wp2_with fail
  rw [HW0.out]
  refine Calls.mono HC.out ?_
  rintro e W1 ⟨rfl, q, rfl⟩
  go_wp2
  go_ret
  exact ⟨rfl, Below.drewN' HB0.out _⟩
set_option maxRecDepth 100000 in
set_option maxHeartbeats 1000000 in
theorem norm_any (N : Int) (E : List (Int × Int)) (v : Value) (w : World) (hv : El v E w) :
    Calls Try.prog 19 #[grV N v] w fun e w' => ∃ u, e = .returned (.tuple #[grV (okN N E) u, .int .i64 ((chk N E).1 : Int)]) ∧ El u (nrmR N E) w' ∧ Below w.heap.size w w' ∧ ∀ q, u.ownBlock = some q → w.heap.size + 2 ≤ q := by
  obtain ⟨W0, hW0⟩ : ∃ W0, (w.alloc (.cells #[.int .i64 N, v] 24)).alloc (.cells #[.int .i64 0, .slice none 0 0] 24) = W0 := ⟨_, rfl⟩
  have b0 : Below w.heap.size w W0 := by rw [← hW0]; exact ((Below.refl _ w).alloc (Nat.le_refl _) _).alloc (by simp) _
  have r0 : W0.heap[w.heap.size]? = some (.cells #[.int .i64 N, v] 24 (0, 0)) := by rw [← hW0]; exact heap_alloc2_old _ _ _
  have r1 : W0.heap[w.heap.size + 1]? = some (.cells #[.int .i64 0, .slice none 0 0] 24 (0, 0)) := by rw [← hW0]; exact heap_alloc2_new _ _ _
  have C := checkWith_any N E v W0 (hv.below b0)
  unfold grV at C ⊢
  obtain ⟨a, ha⟩ : ∃ a, a = (chk N E).1 := ⟨_, rfl⟩
  rw [← ha] at C
  rw [← ha]
  have HC : Hid _ := C
  have HW0 : Hid ((w.alloc (.cells #[.int .i64 N, v] 24)).alloc (.cells #[.int .i64 0, .slice none 0 0] 24) = W0) := hW0
  have H0 : Hid (Below w.heap.size w W0 ∧ W0.heap[w.heap.size]? = some (.cells #[.int .i64 N, v] 24 (0, 0)) ∧ W0.heap[w.heap.size + 1]? = some (.cells #[.int .i64 0, .slice none 0 0] 24 (0, 0))) := ⟨b0, r0, r1⟩
  have HA : Hid (a = (chk N E).1) := ha
  have HV : Hid (∀ X, Below w.heap.size w X → El v E X) := fun X h => hv.below h
  obtain ⟨oo, cc, hvv0, -, -⟩ := hv.form
  have HVV : Hid (v = .slice oo E.length cc) := hvv0
  clear hvv0
  clear C ha hW0 b0 hv r0 r1
  go_enter Try.func19, Try.ntmps19
  go_wp2_with fail
  rw [HW0.out]
  refine Calls.mono HC.out ?_
  rintro e W1 ⟨rfl, b1⟩
  have H1 : Hid (Below w.heap.size w W1 ∧ W1.heap[w.heap.size]? = some (.cells #[.int .i64 N, v] 24 (0, 0)) ∧ W1.heap[w.heap.size + 1]? = some (.cells #[.int .i64 0, .slice none 0 0] 24 (0, 0))) := ⟨H0.out.1.trans (b1.mono H0.out.1.size), (b1.block _ (Array.getElem?_eq_some_iff.1 H0.out.2.1).1).trans H0.out.2.1, (b1.block _ (Array.getElem?_eq_some_iff.1 H0.out.2.2).1).trans H0.out.2.2⟩
  clear HC b1 H0 HW0
  by_cases h0 : a = 0
  · subst h0
    obtain ⟨n, F, rfl, hn, rfl, hF, hl⟩ := chk_ok HA.out.symm
    have hk := HA.out.symm
    have HRES : Hid (okN (n : Int) (zE F) = (n : Int) ∧ nrmR (n : Int) (zE F) = zE (nrm n F)) := by
      unfold okN nrmR
      rw [if_pos hk, if_pos hk, Int.toNat_natCast, nE_zE]
      exact ⟨rfl, rfl⟩
    have HF : Hid (n ≤ 8192 ∧ (∀ e ∈ F, e.1 < n ∧ e.2 < n) ∧ F.length ≤ 1048576) := ⟨hn, hF, hl⟩
    have hvv := HVV.out
    subst hvv
    have l0 : W1.cell? ⟨w.heap.size, 0, none⟩ = some (.int .i64 (n : Int)) := (cell_of_row _ _ _ _ _ _ H1.out.2.1).trans rfl
    have l1 : W1.cell? ⟨w.heap.size, 1, none⟩ = some (.slice oo (zE F).length cc) := (cell_of_row _ _ _ _ _ _ H1.out.2.1).trans rfl
    clear hn hF hl hk
    have CN := needsOf_any n HF.out.1 F HF.out.2.1 (by have := HF.out.2.2; omega) _ W1 (HV.out W1 H1.out.1)
    unfold grV at CN
    have HCN : Hid _ := CN
    clear CN
    go_wp2_with fail
    refine Calls.mono HCN.out ?_
    rintro e W2 ⟨g2, V2, rfl, hr2, b2⟩
    have HN1 : Hid (Rws g2 n (trL (nds F F.length) n) V2 W2 ∧ Below w.heap.size w W2 ∧ W2.heap[w.heap.size + 1]? = some (.cells #[.int .i64 0, .slice none 0 0] 24 (0, 0))) := ⟨hr2, H1.out.1.trans (b2.mono H1.out.1.size), (b2.block _ (Array.getElem?_eq_some_iff.1 H1.out.2.2).1).trans H1.out.2.2⟩
    have CG := graph_any n HF.out.1 (trL (nds F F.length) n) (edg_small _ n HF.out.1) g2 V2 W2 HN1.out.1
    have HCG : Hid _ := CG
    clear CG HCN hr2 b2 l0 l1
    go_wp2_with fail
    refine Calls.mono HCG.out ?_
    rintro e WZ ⟨u, rfl, hu, bz, fz⟩
    have HLT : Hid (∀ q, u.ownBlock = some q → w.heap.size + 2 ≤ q) := fun q hq => by have := fz q hq; have := (Array.getElem?_eq_some_iff.1 HN1.out.2.2).1; omega
    rw [edg_norm] at hu
    have HG : Hid (El u (zE (nrm n F)) WZ ∧ Below w.heap.size w WZ ∧ WZ.heap[w.heap.size + 1]? = some (.cells #[.int .i64 0, .slice none 0 0] 24 (0, 0))) := ⟨hu, HN1.out.2.1.trans (bz.mono HN1.out.2.1.size), (bz.block _ (Array.getElem?_eq_some_iff.1 HN1.out.2.2).1).trans HN1.out.2.2⟩
    obtain ⟨ou, cu, rfl, -, -⟩ := HG.out.1.form
    have z0 : WZ.cell? ⟨w.heap.size + 1, 0, none⟩ = some (.int .i64 0) := (cell_of_row _ _ _ _ _ _ HG.out.2.2).trans rfl
    have z1 : WZ.cell? ⟨w.heap.size + 1, 1, none⟩ = some (.slice none 0 0) := (cell_of_row _ _ _ _ _ _ HG.out.2.2).trans rfl
    have f0 : WZ.frozen? ⟨w.heap.size + 1, 0, none⟩ = false := frozen_of_row _ _ _ _ _ HG.out.2.2
    have f1 : WZ.frozen? ⟨w.heap.size + 1, 1, none⟩ = false := frozen_of_row _ _ _ _ _ HG.out.2.2
    have HNE : Hid (∀ q, (Value.slice ou (zE (nrm n F)).length cu).ownBlock = some q → w.heap.size + 2 ≤ q) := HLT.out
    clear HCG HN1 H1 hu bz fz
    unfold grV
    go_wp2_with fail
    refine bodyPost_ret (results_Gt rfl _ _ (w.heap.size + 1) (.int .i64 (n : Int)) (.slice ou (zE (nrm n F)).length cu) rfl (set2G _ _ HG.out.2.2)) rfl ⟨_, by rw [HRES.out.1]; rfl, ?_, ?_, HNE.out⟩
    · rw [HRES.out.2]
      exact HG.out.1.keep (by simp [World.setCell]) fun q hq _ => set2_other _ _ q (by have := HNE.out q hq; omega)
    · exact below_set2 _ _ (Nat.le_succ _) HG.out.2.1
  · have h0' : ((a : Int) == 0) = false := by simpa using h0
    have HRES : Hid (okN N E = 0 ∧ nrmR N E = []) := by
      have hk : ¬ (chk N E).1 = 0 := by rw [← HA.out]; exact h0
      unfold okN nrmR
      rw [if_neg hk, if_neg hk]
      exact ⟨rfl, rfl⟩
    have z0 : W1.cell? ⟨w.heap.size + 1, 0, none⟩ = some (.int .i64 0) := (cell_of_row _ _ _ _ _ _ H1.out.2.2).trans rfl
    have z1 : W1.cell? ⟨w.heap.size + 1, 1, none⟩ = some (.slice none 0 0) := (cell_of_row _ _ _ _ _ _ H1.out.2.2).trans rfl
    have f0 : W1.frozen? ⟨w.heap.size + 1, 0, none⟩ = false := frozen_of_row _ _ _ _ _ H1.out.2.2
    have f1 : W1.frozen? ⟨w.heap.size + 1, 1, none⟩ = false := frozen_of_row _ _ _ _ _ H1.out.2.2
    go_wp2_with fail
    refine bodyPost_ret (results_Gt rfl _ _ (w.heap.size + 1) (.int .i64 0) (.slice none 0 0) rfl (set2G _ _ H1.out.2.2)) rfl ⟨.slice none 0 0, by rw [HRES.out.1]; rfl, ?_, ?_, fun q hq => by cases hq⟩
    · rw [HRES.out.2]
      exact .inl ⟨rfl, rfl⟩
    · exact below_set2 _ _ (Nat.le_succ _) H1.out.1
set_option maxRecDepth 100000 in
set_option maxHeartbeats 1000000 in
theorem transpose_any (N : Int) (E : List (Int × Int)) (v : Value) (w : World) (hv : El v E w) :
    Calls Try.prog 18 #[grV N v] w fun e w' => ∃ u, e = .returned (.tuple #[grV (okN N E) u, .int .i64 ((chk N E).1 : Int)]) ∧ El u (trnR N E) w' ∧ Below w.heap.size w w' ∧ ∀ q, u.ownBlock = some q → w.heap.size + 2 ≤ q := by
  obtain ⟨W0, hW0⟩ : ∃ W0, (w.alloc (.cells #[.int .i64 N, v] 24)).alloc (.cells #[.int .i64 0, .slice none 0 0] 24) = W0 := ⟨_, rfl⟩
  have b0 : Below w.heap.size w W0 := by rw [← hW0]; exact ((Below.refl _ w).alloc (Nat.le_refl _) _).alloc (by simp) _
  have r0 : W0.heap[w.heap.size]? = some (.cells #[.int .i64 N, v] 24 (0, 0)) := by rw [← hW0]; exact heap_alloc2_old _ _ _
  have r1 : W0.heap[w.heap.size + 1]? = some (.cells #[.int .i64 0, .slice none 0 0] 24 (0, 0)) := by rw [← hW0]; exact heap_alloc2_new _ _ _
  have C := checkWith_any N E v W0 (hv.below b0)
  unfold grV at C ⊢
  obtain ⟨a, ha⟩ : ∃ a, a = (chk N E).1 := ⟨_, rfl⟩
  rw [← ha] at C
  rw [← ha]
  have HC : Hid _ := C
  have HW0 : Hid ((w.alloc (.cells #[.int .i64 N, v] 24)).alloc (.cells #[.int .i64 0, .slice none 0 0] 24) = W0) := hW0
  have H0 : Hid (Below w.heap.size w W0 ∧ W0.heap[w.heap.size]? = some (.cells #[.int .i64 N, v] 24 (0, 0)) ∧ W0.heap[w.heap.size + 1]? = some (.cells #[.int .i64 0, .slice none 0 0] 24 (0, 0))) := ⟨b0, r0, r1⟩
  have HA : Hid (a = (chk N E).1) := ha
  have HV : Hid (∀ X, Below w.heap.size w X → El v E X) := fun X h => hv.below h
  obtain ⟨oo, cc, hvv0, -, -⟩ := hv.form
  have HVV : Hid (v = .slice oo E.length cc) := hvv0
  clear hvv0
  clear C ha hW0 b0 hv r0 r1
  go_enter Try.func18, Try.ntmps18
  go_wp2_with fail
  rw [HW0.out]
  refine Calls.mono HC.out ?_
  rintro e W1 ⟨rfl, b1⟩
  have H1 : Hid (Below w.heap.size w W1 ∧ W1.heap[w.heap.size]? = some (.cells #[.int .i64 N, v] 24 (0, 0)) ∧ W1.heap[w.heap.size + 1]? = some (.cells #[.int .i64 0, .slice none 0 0] 24 (0, 0))) := ⟨H0.out.1.trans (b1.mono H0.out.1.size), (b1.block _ (Array.getElem?_eq_some_iff.1 H0.out.2.1).1).trans H0.out.2.1, (b1.block _ (Array.getElem?_eq_some_iff.1 H0.out.2.2).1).trans H0.out.2.2⟩
  clear HC b1 H0 HW0
  by_cases h0 : a = 0
  · subst h0
    obtain ⟨n, F, rfl, hn, rfl, hF, hl⟩ := chk_ok HA.out.symm
    have hk := HA.out.symm
    have HRES : Hid (okN (n : Int) (zE F) = (n : Int) ∧ trnR (n : Int) (zE F) = zE (nrm n (trn F))) := by
      unfold okN trnR
      rw [if_pos hk, if_pos hk, Int.toNat_natCast, nE_zE]
      exact ⟨rfl, rfl⟩
    have HF : Hid (n ≤ 8192 ∧ (∀ e ∈ F, e.1 < n ∧ e.2 < n) ∧ F.length ≤ 1048576) := ⟨hn, hF, hl⟩
    have hvv := HVV.out
    subst hvv
    have l0 : W1.cell? ⟨w.heap.size, 0, none⟩ = some (.int .i64 (n : Int)) := (cell_of_row _ _ _ _ _ _ H1.out.2.1).trans rfl
    have l1 : W1.cell? ⟨w.heap.size, 1, none⟩ = some (.slice oo (zE F).length cc) := (cell_of_row _ _ _ _ _ _ H1.out.2.1).trans rfl
    clear hn hF hl hk
    have CN := needsOf_any n HF.out.1 F HF.out.2.1 (by have := HF.out.2.2; omega) _ W1 (HV.out W1 H1.out.1)
    unfold grV at CN
    have HCN : Hid _ := CN
    clear CN
    go_wp2_with fail
    refine Calls.mono HCN.out ?_
    rintro e W2 ⟨g2, V2, rfl, hr2, b2⟩
    have HN1 : Hid (Rws g2 n (trL (nds F F.length) n) V2 W2 ∧ Below w.heap.size w W2 ∧ W2.heap[w.heap.size + 1]? = some (.cells #[.int .i64 0, .slice none 0 0] 24 (0, 0))) := ⟨hr2, H1.out.1.trans (b2.mono H1.out.1.size), (b2.block _ (Array.getElem?_eq_some_iff.1 H1.out.2.2).1).trans H1.out.2.2⟩
    have CT := turned_any n HF.out.1 (trL (nds F F.length) n) (fun b _ a ha => trL_mem ha) (fun b => by have := trL_len (nds F F.length) n b; have := HF.out.1; omega) g2 V2 W2 HN1.out.1
    have HCT : Hid _ := CT
    clear CT HCN hr2 b2 l0 l1
    go_wp2_with fail
    refine Calls.mono HCT.out ?_
    rintro e W3 ⟨g3, V3, rfl, hr3, b3, -⟩
    have HN2 : Hid (Rws g3 n (trL (trL (nds F F.length) n) n) V3 W3 ∧ Below w.heap.size w W3 ∧ W3.heap[w.heap.size + 1]? = some (.cells #[.int .i64 0, .slice none 0 0] 24 (0, 0))) := ⟨hr3, HN1.out.2.1.trans (b3.mono HN1.out.2.1.size), (b3.block _ (Array.getElem?_eq_some_iff.1 HN1.out.2.2).1).trans HN1.out.2.2⟩
    have CG := graph_any n HF.out.1 (trL (trL (nds F F.length) n) n) (edg_small _ n HF.out.1) g3 V3 W3 HN2.out.1
    have HCG : Hid _ := CG
    clear CG HCT hr3 b3
    go_wp2_with fail
    refine Calls.mono HCG.out ?_
    rintro e WZ ⟨u, rfl, hu, bz, fz⟩
    have HLT : Hid (∀ q, u.ownBlock = some q → w.heap.size + 2 ≤ q) := fun q hq => by have := fz q hq; have := (Array.getElem?_eq_some_iff.1 HN2.out.2.2).1; omega
    rw [edg_turn n F HF.out.2.1] at hu
    have HG : Hid (El u (zE (nrm n (trn F))) WZ ∧ Below w.heap.size w WZ ∧ WZ.heap[w.heap.size + 1]? = some (.cells #[.int .i64 0, .slice none 0 0] 24 (0, 0))) := ⟨hu, HN2.out.2.1.trans (bz.mono HN2.out.2.1.size), (bz.block _ (Array.getElem?_eq_some_iff.1 HN2.out.2.2).1).trans HN2.out.2.2⟩
    obtain ⟨ou, cu, rfl, -, -⟩ := HG.out.1.form
    have z0 : WZ.cell? ⟨w.heap.size + 1, 0, none⟩ = some (.int .i64 0) := (cell_of_row _ _ _ _ _ _ HG.out.2.2).trans rfl
    have z1 : WZ.cell? ⟨w.heap.size + 1, 1, none⟩ = some (.slice none 0 0) := (cell_of_row _ _ _ _ _ _ HG.out.2.2).trans rfl
    have f0 : WZ.frozen? ⟨w.heap.size + 1, 0, none⟩ = false := frozen_of_row _ _ _ _ _ HG.out.2.2
    have f1 : WZ.frozen? ⟨w.heap.size + 1, 1, none⟩ = false := frozen_of_row _ _ _ _ _ HG.out.2.2
    have HNE : Hid (∀ q, (Value.slice ou (zE (nrm n (trn F))).length cu).ownBlock = some q → w.heap.size + 2 ≤ q) := HLT.out
    clear HCG HN1 HN2 H1 hu bz fz
    unfold grV
    go_wp2_with fail
    refine bodyPost_ret (results_Gt rfl _ _ (w.heap.size + 1) (.int .i64 (n : Int)) (.slice ou (zE (nrm n (trn F))).length cu) rfl (set2G _ _ HG.out.2.2)) rfl ⟨_, by rw [HRES.out.1]; rfl, ?_, ?_, HNE.out⟩
    · rw [HRES.out.2]
      exact HG.out.1.keep (by simp [World.setCell]) fun q hq _ => set2_other _ _ q (by have := HNE.out q hq; omega)
    · exact below_set2 _ _ (Nat.le_succ _) HG.out.2.1
  · have h0' : ((a : Int) == 0) = false := by simpa using h0
    have HRES : Hid (okN N E = 0 ∧ trnR N E = []) := by
      have hk : ¬ (chk N E).1 = 0 := by rw [← HA.out]; exact h0
      unfold okN trnR
      rw [if_neg hk, if_neg hk]
      exact ⟨rfl, rfl⟩
    have z0 : W1.cell? ⟨w.heap.size + 1, 0, none⟩ = some (.int .i64 0) := (cell_of_row _ _ _ _ _ _ H1.out.2.2).trans rfl
    have z1 : W1.cell? ⟨w.heap.size + 1, 1, none⟩ = some (.slice none 0 0) := (cell_of_row _ _ _ _ _ _ H1.out.2.2).trans rfl
    have f0 : W1.frozen? ⟨w.heap.size + 1, 0, none⟩ = false := frozen_of_row _ _ _ _ _ H1.out.2.2
    have f1 : W1.frozen? ⟨w.heap.size + 1, 1, none⟩ = false := frozen_of_row _ _ _ _ _ H1.out.2.2
    go_wp2_with fail
    refine bodyPost_ret (results_Gt rfl _ _ (w.heap.size + 1) (.int .i64 0) (.slice none 0 0) rfl (set2G _ _ H1.out.2.2)) rfl ⟨.slice none 0 0, by rw [HRES.out.1]; rfl, ?_, ?_, fun q hq => by cases hq⟩
    · rw [HRES.out.2]
      exact .inl ⟨rfl, rfl⟩
    · exact below_set2 _ _ (Nat.le_succ _) H1.out.1
end Go.Proofs.Ytibhjkmbbfgnpaa
