/- Graphs: Norm and Transpose, the code's. -/
import Derived.Test.YtaephneafckfdaaGh
namespace Go.Proofs.Ytaephneafckfdaa
open Go.RowKit GM
/-- Edges as pairs of nodes. -/
def nE (E : List (Int × Int)) : List (Nat × Nat) := E.map fun e => (e.1.toNat, e.2.toNat)
theorem nE_zE (E : List (Nat × Nat)) : nE (zE E) = E := by simp [nE, zE, Function.comp_def]
theorem badF_none (N : Int) : ∀ (E : List (Int × Int)) (i : Nat), badF N E i = none → ∀ e ∈ E, okE N e = true
  | [], _, _, e, he => by cases he
  | x :: r, i, h, e, he => by
    rw [badF] at h
    by_cases hx : okE N x = true
    · rw [if_pos hx] at h
      rcases List.mem_cons.1 he with rfl | he
      · exact hx
      · exact badF_none N r (i + 1) h e he
    · rw [if_neg hx] at h
      cases h
theorem chk_ok {N : Int} {E : List (Int × Int)} (h : (chk N E).1 = 0) : ∃ (n : Nat) (F : List (Nat × Nat)), N = (n : Int) ∧ n ≤ 8192 ∧ E = zE F ∧ (∀ e ∈ F, e.1 < n ∧ e.2 < n) ∧ F.length ≤ 1048576 := by
  unfold chk at h
  by_cases h1 : N < 0 ∨ 8192 < N
  · rw [if_pos h1] at h; simp at h
  · rw [if_neg h1] at h
    by_cases h2 : 1048576 < E.length
    · rw [if_pos h2] at h; simp at h
    · rw [if_neg h2] at h
      have hb : badF N E 0 = none := by
        cases hb : badF N E 0 with
        | none => rfl
        | some i => rw [hb] at h; simp [edgV] at h
      have hk := badF_none N E 0 hb
      have he : E = zE (nE E) := by
        unfold zE nE
        rw [List.map_map]
        symm
        conv => rhs; rw [← List.map_id E]
        apply List.map_congr_left
        intro e hem
        have := of_decide_eq_true (hk e hem)
        simp
        apply Prod.ext
        · simp; omega
        · simp; omega
      refine ⟨N.toNat, nE E, by omega, by omega, he, fun e hem => ?_, by simp [nE]; omega⟩
      unfold nE at hem
      rw [List.mem_map] at hem
      obtain ⟨x, hx, rfl⟩ := hem
      have := of_decide_eq_true (hk x hx)
      simp
      omega
/-- What Norm and Transpose answer beside the error. -/
def okN (N : Int) (E : List (Int × Int)) : Int := if (chk N E).1 = 0 then N else 0
def nrmR (N : Int) (E : List (Int × Int)) : List (Int × Int) := if (chk N E).1 = 0 then zE (nrm N.toNat (nE E)) else []
def trnR (N : Int) (E : List (Int × Int)) : List (Int × Int) := if (chk N E).1 = 0 then zE (nrm N.toNat (trn (nE E))) else []
theorem edg_len (L : Nat → List Nat) (m : Nat) (h : ∀ a, (L a).length ≤ m) : ∀ n, (edg L n).length ≤ n * m
  | 0 => by simp [edg]
  | n + 1 => by
    rw [edg_succ, List.length_append, List.length_map, Nat.succ_mul]
    have := edg_len L m h n
    have := h n
    omega
theorem edg_small (L : Nat → List Nat) (n : Nat) (hn : n ≤ 8192) : (edg (trL L n) n).length ≤ 1073741824 := by
  have h1 := edg_len (trL L n) n (fun a => trL_len L n a) n
  have h2 : n * n ≤ 8192 * 8192 := Nat.mul_le_mul hn hn
  omega
theorem trL_mem {L : Nat → List Nat} {b a x : Nat} (h : x ∈ trL L b a) : x < b := trL_lt L b a x h
set_option maxRecDepth 100000 in
theorem checkWith_any (N : Int) (E : List (Int × Int)) (v : Value) (w : World) (hv : El v E w) :
    Calls Try.prog 33 #[grV N v, .slice none 0 0] w fun e w' => e = .returned (.int .i64 ((chk N E).1 : Int)) ∧ Below w.heap.size w w' := by
  obtain ⟨W0, hW0⟩ : ∃ W0, w.alloc (.cells #[.int .i64 N, v] 24) = W0 := ⟨_, rfl⟩
  have b0 : Below w.heap.size w W0 := by rw [← hW0]; exact (Below.refl _ w).alloc (Nat.le_refl _) _
  have C := check_any N E v W0 (hv.below b0)
  unfold grV at C ⊢
  obtain ⟨a, ha⟩ : ∃ a, a = (chk N E).1 := ⟨_, rfl⟩
  obtain ⟨b, hb⟩ : ∃ b, b = (chk N E).2 := ⟨_, rfl⟩
  rw [← ha, ← hb] at C
  rw [← ha]
  have HC : Hid _ := C
  have HW0 : Hid (w.alloc (.cells #[.int .i64 N, v] 24) = W0) := hW0
  have HB0 : Hid (Below w.heap.size w W0) := b0
  clear C ha hb hW0 b0 hv
  go_enter Try.func33, Try.ntmps33
  go_wp2_with fail
  rw [HW0.out]
  refine Calls.mono HC.out ?_
  rintro e W1 ⟨rfl, b1⟩
  have HB1 : Hid (Below w.heap.size w W1) := HB0.out.trans (b1.mono HB0.out.size)
  clear HC b1
  by_cases h0 : a = 0
  · subst h0
    go_wp2_with fail
    go_loopw [19] (fun i wr => i = .int .i64 0 ∧ Hid (Below w.heap.size w wr)) (fun _ _ => 0)
    case atStart => exact ⟨rfl, HB1⟩
    case round =>
      obtain ⟨rfl, HB⟩ := hrel
      go_wp2
      go_ret
      exact ⟨rfl, HB.out⟩
  · have h0' : ((a : Int) == 0) = false := by simpa using h0
    go_wp2
    go_ret
    exact ⟨rfl, HB1.out⟩
set_option maxRecDepth 100000 in
set_option maxHeartbeats 1000000 in
theorem norm_any (N : Int) (E : List (Int × Int)) (v : Value) (w : World) (hv : El v E w) :
    Calls Try.prog 12 #[grV N v] w fun e w' => ∃ u, e = .returned (.tuple #[grV (okN N E) u, .int .i64 ((chk N E).1 : Int)]) ∧ El u (nrmR N E) w' ∧ Below w.heap.size w w' ∧ ∀ q, u.ownBlock = some q → w.heap.size + 2 ≤ q := by
  obtain ⟨W0, hW0⟩ : ∃ W0, (w.alloc (.cells #[.int .i64 N, v] 24)).alloc (.cells #[.int .i64 0, .slice none 0 0] 24) = W0 := ⟨_, rfl⟩
  have b0 : Below w.heap.size w W0 := by rw [← hW0]; exact ((Below.refl _ w).alloc (Nat.le_refl _) _).alloc (by simp) _
  have r0 : W0.heap[w.heap.size]? = some (.cells #[.int .i64 N, v] 24 (0, 0)) := by rw [← hW0]; exact heap_alloc2_old _ _ _
  have r1 : W0.heap[w.heap.size + 1]? = some (.cells #[.int .i64 0, .slice none 0 0] 24 (0, 0)) := by rw [← hW0]; exact heap_alloc2_new _ _ _
  have C := checkWith_any N E v W0 (hv.below b0)
  unfold grV at C ⊢
  obtain ⟨a, ha⟩ : ∃ a, a = (chk N E).1 := ⟨_, rfl⟩
  rw [← ha] at C
  rw [← ha]
  have HC : Hid _ := C
  have HW0 : Hid ((w.alloc (.cells #[.int .i64 N, v] 24)).alloc (.cells #[.int .i64 0, .slice none 0 0] 24) = W0) := hW0
  have H0 : Hid (Below w.heap.size w W0 ∧ W0.heap[w.heap.size]? = some (.cells #[.int .i64 N, v] 24 (0, 0)) ∧ W0.heap[w.heap.size + 1]? = some (.cells #[.int .i64 0, .slice none 0 0] 24 (0, 0))) := ⟨b0, r0, r1⟩
  have HA : Hid (a = (chk N E).1) := ha
  have HV : Hid (∀ X, Below w.heap.size w X → El v E X) := fun X h => hv.below h
  obtain ⟨oo, cc, hvv0, -, -⟩ := hv.form
  have HVV : Hid (v = .slice oo E.length cc) := hvv0
  clear hvv0
  clear C ha hW0 b0 hv r0 r1
  go_enter Try.func12, Try.ntmps12
  go_wp2_with fail
  rw [HW0.out]
  refine Calls.mono HC.out ?_
  rintro e W1 ⟨rfl, b1⟩
  have H1 : Hid (Below w.heap.size w W1 ∧ W1.heap[w.heap.size]? = some (.cells #[.int .i64 N, v] 24 (0, 0)) ∧ W1.heap[w.heap.size + 1]? = some (.cells #[.int .i64 0, .slice none 0 0] 24 (0, 0))) := ⟨H0.out.1.trans (b1.mono H0.out.1.size), (b1.block _ (Array.getElem?_eq_some_iff.1 H0.out.2.1).1).trans H0.out.2.1, (b1.block _ (Array.getElem?_eq_some_iff.1 H0.out.2.2).1).trans H0.out.2.2⟩
  clear HC b1 H0 HW0
  by_cases h0 : a = 0
  · subst h0
    obtain ⟨n, F, rfl, hn, rfl, hF, hl⟩ := chk_ok HA.out.symm
    have hk := HA.out.symm
    have HRES : Hid (okN (n : Int) (zE F) = (n : Int) ∧ nrmR (n : Int) (zE F) = zE (nrm n F)) := by
      unfold okN nrmR
      rw [if_pos hk, if_pos hk, Int.toNat_natCast, nE_zE]
      exact ⟨rfl, rfl⟩
    have HF : Hid (n ≤ 8192 ∧ (∀ e ∈ F, e.1 < n ∧ e.2 < n) ∧ F.length ≤ 1048576) := ⟨hn, hF, hl⟩
    have hvv := HVV.out
    subst hvv
    have l0 : W1.cell? ⟨w.heap.size, 0, none⟩ = some (.int .i64 (n : Int)) := (cell_of_row _ _ _ _ _ _ H1.out.2.1).trans rfl
    have l1 : W1.cell? ⟨w.heap.size, 1, none⟩ = some (.slice oo (zE F).length cc) := (cell_of_row _ _ _ _ _ _ H1.out.2.1).trans rfl
    clear hn hF hl hk
    have CN := needsOf_any n HF.out.1 F HF.out.2.1 (by have := HF.out.2.2; omega) _ W1 (HV.out W1 H1.out.1)
    unfold grV at CN
    have HCN : Hid _ := CN
    clear CN
    go_wp2_with fail
    refine Calls.mono HCN.out ?_
    rintro e W2 ⟨g2, V2, rfl, hr2, b2⟩
    have HN1 : Hid (Rws g2 n (trL (nds F F.length) n) V2 W2 ∧ Below w.heap.size w W2 ∧ W2.heap[w.heap.size + 1]? = some (.cells #[.int .i64 0, .slice none 0 0] 24 (0, 0))) := ⟨hr2, H1.out.1.trans (b2.mono H1.out.1.size), (b2.block _ (Array.getElem?_eq_some_iff.1 H1.out.2.2).1).trans H1.out.2.2⟩
    have CG := graph_any n HF.out.1 (trL (nds F F.length) n) (edg_small _ n HF.out.1) g2 V2 W2 HN1.out.1
    have HCG : Hid _ := CG
    clear CG HCN hr2 b2 l0 l1
    go_wp2_with fail
    refine Calls.mono HCG.out ?_
    rintro e WZ ⟨u, rfl, hu, bz, fz⟩
    have HLT : Hid (∀ q, u.ownBlock = some q → w.heap.size + 2 ≤ q) := fun q hq => by have := fz q hq; have := (Array.getElem?_eq_some_iff.1 HN1.out.2.2).1; omega
    rw [edg_norm] at hu
    have HG : Hid (El u (zE (nrm n F)) WZ ∧ Below w.heap.size w WZ ∧ WZ.heap[w.heap.size + 1]? = some (.cells #[.int .i64 0, .slice none 0 0] 24 (0, 0))) := ⟨hu, HN1.out.2.1.trans (bz.mono HN1.out.2.1.size), (bz.block _ (Array.getElem?_eq_some_iff.1 HN1.out.2.2).1).trans HN1.out.2.2⟩
    obtain ⟨ou, cu, rfl, -, -⟩ := HG.out.1.form
    have z0 : WZ.cell? ⟨w.heap.size + 1, 0, none⟩ = some (.int .i64 0) := (cell_of_row _ _ _ _ _ _ HG.out.2.2).trans rfl
    have z1 : WZ.cell? ⟨w.heap.size + 1, 1, none⟩ = some (.slice none 0 0) := (cell_of_row _ _ _ _ _ _ HG.out.2.2).trans rfl
    have f0 : WZ.frozen? ⟨w.heap.size + 1, 0, none⟩ = false := frozen_of_row _ _ _ _ _ HG.out.2.2
    have f1 : WZ.frozen? ⟨w.heap.size + 1, 1, none⟩ = false := frozen_of_row _ _ _ _ _ HG.out.2.2
    have HNE : Hid (∀ q, (Value.slice ou (zE (nrm n F)).length cu).ownBlock = some q → w.heap.size + 2 ≤ q) := HLT.out
    clear HCG HN1 H1 hu bz fz
    unfold grV
    go_wp2_with fail
    refine bodyPost_ret (results_Gt rfl _ _ (w.heap.size + 1) (.int .i64 (n : Int)) (.slice ou (zE (nrm n F)).length cu) rfl (set2G _ _ HG.out.2.2)) rfl ⟨_, by rw [HRES.out.1]; rfl, ?_, ?_, HNE.out⟩
    · rw [HRES.out.2]
      exact HG.out.1.keep (by simp [World.setCell]) fun q hq _ => set2_other _ _ q (by have := HNE.out q hq; omega)
    · exact below_set2 _ _ (Nat.le_succ _) HG.out.2.1
  · have h0' : ((a : Int) == 0) = false := by simpa using h0
    have HRES : Hid (okN N E = 0 ∧ nrmR N E = []) := by
      have hk : ¬ (chk N E).1 = 0 := by rw [← HA.out]; exact h0
      unfold okN nrmR
      rw [if_neg hk, if_neg hk]
      exact ⟨rfl, rfl⟩
    have z0 : W1.cell? ⟨w.heap.size + 1, 0, none⟩ = some (.int .i64 0) := (cell_of_row _ _ _ _ _ _ H1.out.2.2).trans rfl
    have z1 : W1.cell? ⟨w.heap.size + 1, 1, none⟩ = some (.slice none 0 0) := (cell_of_row _ _ _ _ _ _ H1.out.2.2).trans rfl
    have f0 : W1.frozen? ⟨w.heap.size + 1, 0, none⟩ = false := frozen_of_row _ _ _ _ _ H1.out.2.2
    have f1 : W1.frozen? ⟨w.heap.size + 1, 1, none⟩ = false := frozen_of_row _ _ _ _ _ H1.out.2.2
    go_wp2_with fail
    refine bodyPost_ret (results_Gt rfl _ _ (w.heap.size + 1) (.int .i64 0) (.slice none 0 0) rfl (set2G _ _ H1.out.2.2)) rfl ⟨.slice none 0 0, by rw [HRES.out.1]; rfl, ?_, ?_, fun q hq => by cases hq⟩
    · rw [HRES.out.2]
      exact .inl ⟨rfl, rfl⟩
    · exact below_set2 _ _ (Nat.le_succ _) H1.out.1
set_option maxRecDepth 100000 in
set_option maxHeartbeats 1000000 in
theorem transpose_any (N : Int) (E : List (Int × Int)) (v : Value) (w : World) (hv : El v E w) :
    Calls Try.prog 15 #[grV N v] w fun e w' => ∃ u, e = .returned (.tuple #[grV (okN N E) u, .int .i64 ((chk N E).1 : Int)]) ∧ El u (trnR N E) w' ∧ Below w.heap.size w w' ∧ ∀ q, u.ownBlock = some q → w.heap.size + 2 ≤ q := by
  obtain ⟨W0, hW0⟩ : ∃ W0, (w.alloc (.cells #[.int .i64 N, v] 24)).alloc (.cells #[.int .i64 0, .slice none 0 0] 24) = W0 := ⟨_, rfl⟩
  have b0 : Below w.heap.size w W0 := by rw [← hW0]; exact ((Below.refl _ w).alloc (Nat.le_refl _) _).alloc (by simp) _
  have r0 : W0.heap[w.heap.size]? = some (.cells #[.int .i64 N, v] 24 (0, 0)) := by rw [← hW0]; exact heap_alloc2_old _ _ _
  have r1 : W0.heap[w.heap.size + 1]? = some (.cells #[.int .i64 0, .slice none 0 0] 24 (0, 0)) := by rw [← hW0]; exact heap_alloc2_new _ _ _
  have C := checkWith_any N E v W0 (hv.below b0)
  unfold grV at C ⊢
  obtain ⟨a, ha⟩ : ∃ a, a = (chk N E).1 := ⟨_, rfl⟩
  rw [← ha] at C
  rw [← ha]
  have HC : Hid _ := C
  have HW0 : Hid ((w.alloc (.cells #[.int .i64 N, v] 24)).alloc (.cells #[.int .i64 0, .slice none 0 0] 24) = W0) := hW0
  have H0 : Hid (Below w.heap.size w W0 ∧ W0.heap[w.heap.size]? = some (.cells #[.int .i64 N, v] 24 (0, 0)) ∧ W0.heap[w.heap.size + 1]? = some (.cells #[.int .i64 0, .slice none 0 0] 24 (0, 0))) := ⟨b0, r0, r1⟩
  have HA : Hid (a = (chk N E).1) := ha
  have HV : Hid (∀ X, Below w.heap.size w X → El v E X) := fun X h => hv.below h
  obtain ⟨oo, cc, hvv0, -, -⟩ := hv.form
  have HVV : Hid (v = .slice oo E.length cc) := hvv0
  clear hvv0
  clear C ha hW0 b0 hv r0 r1
  go_enter Try.func15, Try.ntmps15
  go_wp2_with fail
  rw [HW0.out]
  refine Calls.mono HC.out ?_
  rintro e W1 ⟨rfl, b1⟩
  have H1 : Hid (Below w.heap.size w W1 ∧ W1.heap[w.heap.size]? = some (.cells #[.int .i64 N, v] 24 (0, 0)) ∧ W1.heap[w.heap.size + 1]? = some (.cells #[.int .i64 0, .slice none 0 0] 24 (0, 0))) := ⟨H0.out.1.trans (b1.mono H0.out.1.size), (b1.block _ (Array.getElem?_eq_some_iff.1 H0.out.2.1).1).trans H0.out.2.1, (b1.block _ (Array.getElem?_eq_some_iff.1 H0.out.2.2).1).trans H0.out.2.2⟩
  clear HC b1 H0 HW0
  by_cases h0 : a = 0
  · subst h0
    obtain ⟨n, F, rfl, hn, rfl, hF, hl⟩ := chk_ok HA.out.symm
    have hk := HA.out.symm
    have HRES : Hid (okN (n : Int) (zE F) = (n : Int) ∧ trnR (n : Int) (zE F) = zE (nrm n (trn F))) := by
      unfold okN trnR
      rw [if_pos hk, if_pos hk, Int.toNat_natCast, nE_zE]
      exact ⟨rfl, rfl⟩
    have HF : Hid (n ≤ 8192 ∧ (∀ e ∈ F, e.1 < n ∧ e.2 < n) ∧ F.length ≤ 1048576) := ⟨hn, hF, hl⟩
    have hvv := HVV.out
    subst hvv
    have l0 : W1.cell? ⟨w.heap.size, 0, none⟩ = some (.int .i64 (n : Int)) := (cell_of_row _ _ _ _ _ _ H1.out.2.1).trans rfl
    have l1 : W1.cell? ⟨w.heap.size, 1, none⟩ = some (.slice oo (zE F).length cc) := (cell_of_row _ _ _ _ _ _ H1.out.2.1).trans rfl
    clear hn hF hl hk
    have CN := needsOf_any n HF.out.1 F HF.out.2.1 (by have := HF.out.2.2; omega) _ W1 (HV.out W1 H1.out.1)
    unfold grV at CN
    have HCN : Hid _ := CN
    clear CN
    go_wp2_with fail
    refine Calls.mono HCN.out ?_
    rintro e W2 ⟨g2, V2, rfl, hr2, b2⟩
    have HN1 : Hid (Rws g2 n (trL (nds F F.length) n) V2 W2 ∧ Below w.heap.size w W2 ∧ W2.heap[w.heap.size + 1]? = some (.cells #[.int .i64 0, .slice none 0 0] 24 (0, 0))) := ⟨hr2, H1.out.1.trans (b2.mono H1.out.1.size), (b2.block _ (Array.getElem?_eq_some_iff.1 H1.out.2.2).1).trans H1.out.2.2⟩
    have CT := turned_any n HF.out.1 (trL (nds F F.length) n) (fun b _ a ha => trL_mem ha) (fun b => by have := trL_len (nds F F.length) n b; have := HF.out.1; omega) g2 V2 W2 HN1.out.1
    have HCT : Hid _ := CT
    clear CT HCN hr2 b2 l0 l1
    go_wp2_with fail
    refine Calls.mono HCT.out ?_
    rintro e W3 ⟨g3, V3, rfl, hr3, b3, -⟩
    have HN2 : Hid (Rws g3 n (trL (trL (nds F F.length) n) n) V3 W3 ∧ Below w.heap.size w W3 ∧ W3.heap[w.heap.size + 1]? = some (.cells #[.int .i64 0, .slice none 0 0] 24 (0, 0))) := ⟨hr3, HN1.out.2.1.trans (b3.mono HN1.out.2.1.size), (b3.block _ (Array.getElem?_eq_some_iff.1 HN1.out.2.2).1).trans HN1.out.2.2⟩
    have CG := graph_any n HF.out.1 (trL (trL (nds F F.length) n) n) (edg_small _ n HF.out.1) g3 V3 W3 HN2.out.1
    have HCG : Hid _ := CG
    clear CG HCT hr3 b3
    go_wp2_with fail
    refine Calls.mono HCG.out ?_
    rintro e WZ ⟨u, rfl, hu, bz, fz⟩
    have HLT : Hid (∀ q, u.ownBlock = some q → w.heap.size + 2 ≤ q) := fun q hq => by have := fz q hq; have := (Array.getElem?_eq_some_iff.1 HN2.out.2.2).1; omega
    rw [edg_turn n F HF.out.2.1] at hu
    have HG : Hid (El u (zE (nrm n (trn F))) WZ ∧ Below w.heap.size w WZ ∧ WZ.heap[w.heap.size + 1]? = some (.cells #[.int .i64 0, .slice none 0 0] 24 (0, 0))) := ⟨hu, HN2.out.2.1.trans (bz.mono HN2.out.2.1.size), (bz.block _ (Array.getElem?_eq_some_iff.1 HN2.out.2.2).1).trans HN2.out.2.2⟩
    obtain ⟨ou, cu, rfl, -, -⟩ := HG.out.1.form
    have z0 : WZ.cell? ⟨w.heap.size + 1, 0, none⟩ = some (.int .i64 0) := (cell_of_row _ _ _ _ _ _ HG.out.2.2).trans rfl
    have z1 : WZ.cell? ⟨w.heap.size + 1, 1, none⟩ = some (.slice none 0 0) := (cell_of_row _ _ _ _ _ _ HG.out.2.2).trans rfl
    have f0 : WZ.frozen? ⟨w.heap.size + 1, 0, none⟩ = false := frozen_of_row _ _ _ _ _ HG.out.2.2
    have f1 : WZ.frozen? ⟨w.heap.size + 1, 1, none⟩ = false := frozen_of_row _ _ _ _ _ HG.out.2.2
    have HNE : Hid (∀ q, (Value.slice ou (zE (nrm n (trn F))).length cu).ownBlock = some q → w.heap.size + 2 ≤ q) := HLT.out
    clear HCG HN1 HN2 H1 hu bz fz
    unfold grV
    go_wp2_with fail
    refine bodyPost_ret (results_Gt rfl _ _ (w.heap.size + 1) (.int .i64 (n : Int)) (.slice ou (zE (nrm n (trn F))).length cu) rfl (set2G _ _ HG.out.2.2)) rfl ⟨_, by rw [HRES.out.1]; rfl, ?_, ?_, HNE.out⟩
    · rw [HRES.out.2]
      exact HG.out.1.keep (by simp [World.setCell]) fun q hq _ => set2_other _ _ q (by have := HNE.out q hq; omega)
    · exact below_set2 _ _ (Nat.le_succ _) HG.out.2.1
  · have h0' : ((a : Int) == 0) = false := by simpa using h0
    have HRES : Hid (okN N E = 0 ∧ trnR N E = []) := by
      have hk : ¬ (chk N E).1 = 0 := by rw [← HA.out]; exact h0
      unfold okN trnR
      rw [if_neg hk, if_neg hk]
      exact ⟨rfl, rfl⟩
    have z0 : W1.cell? ⟨w.heap.size + 1, 0, none⟩ = some (.int .i64 0) := (cell_of_row _ _ _ _ _ _ H1.out.2.2).trans rfl
    have z1 : W1.cell? ⟨w.heap.size + 1, 1, none⟩ = some (.slice none 0 0) := (cell_of_row _ _ _ _ _ _ H1.out.2.2).trans rfl
    have f0 : W1.frozen? ⟨w.heap.size + 1, 0, none⟩ = false := frozen_of_row _ _ _ _ _ H1.out.2.2
    have f1 : W1.frozen? ⟨w.heap.size + 1, 1, none⟩ = false := frozen_of_row _ _ _ _ _ H1.out.2.2
    go_wp2_with fail
    refine bodyPost_ret (results_Gt rfl _ _ (w.heap.size + 1) (.int .i64 0) (.slice none 0 0) rfl (set2G _ _ H1.out.2.2)) rfl ⟨.slice none 0 0, by rw [HRES.out.1]; rfl, ?_, ?_, fun q hq => by cases hq⟩
    · rw [HRES.out.2]
      exact .inl ⟨rfl, rfl⟩
    · exact below_set2 _ _ (Nat.le_succ _) H1.out.1
end Go.Proofs.Ytaephneafckfdaa
