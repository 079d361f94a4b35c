/- Several texts in one: GuP, GuQ. -/
import Derived.Test.YtgedmfcfhdfoeaaGuO
import Derived.Deep.Cut
import Derived.Handy
/- Graphs searched by the document: Listed: what Each goes over (what lies, mathematics). -/
namespace Go.Proofs.Ytgedmfcfhdfoeaa
open Go.RowKit GM
set_option maxRecDepth 20000
section
variable {F : Nat → List Nat} {S : List Nat} {N i k K v : Nat} {f : Nat → Option Nat}
/-- Those at distance k, of the first i nodes. -/
def flD (f : Nat → Option Nat) (i k : Nat) : List Nat := (List.range i).filter fun v => decide (f v = some k)
theorem flD_mem : v ∈ flD f i k ↔ v < i ∧ f v = some k := by simp [flD]
theorem flD_succ (f : Nat → Option Nat) (i k : Nat) : flD f (i + 1) k = flD f i k ++ (if f i = some k then [i] else []) := by
  unfold flD
  rw [List.range_succ, List.filter_append]
  by_cases h : f i = some k <;> simp [h]
theorem flD_rise (f : Nat → Option Nat) (i k : Nat) : (flD f i k).Pairwise (· < ·) := List.Pairwise.filter _ List.pairwise_lt_range
theorem flD_full (hS : ∀ x ∈ S, x < N) (hF : ∀ v, v < N → ∀ x ∈ F v, x < N) (hf : ∀ v k, f v = some k ↔ DsS F S k v) (k : Nat) : flD f N k = srt (lyr F S k).1 :=
  rise_eq (flD_rise f N k) (srt_rise (lyr_nd1 S k)) fun x => by
    rw [flD_mem, srt_mem, lyrS_ds, hf]
    exact ⟨fun h => h.2, fun h => ⟨blS_lt hS hF k x h.1, h⟩⟩
/-- How many layers the first i nodes have. -/
def moD (f : Nat → Option Nat) : Nat → Nat
  | 0 => 0
  | i + 1 => match f i with
    | none => moD f i
    | some k => max (moD f i) (k + 1)
theorem moD_le (h : f v = some k) : ∀ i, v < i → k < moD f i
  | 0, q => by omega
  | i + 1, q => by
    by_cases e : v = i
    · subst e
      simp only [moD, h]
      omega
    · have := moD_le h i (by omega)
      simp only [moD]
      cases f i with
      | none => exact this
      | some j => simp only; omega
theorem moD_bound (hb : ∀ v k, v < N → f v = some k → k < N) : ∀ i, i ≤ N → moD f i ≤ N
  | 0, _ => Nat.zero_le _
  | i + 1, h => by
    have := moD_bound hb i (by omega)
    simp only [moD]
    cases e : f i with
    | none => exact this
    | some k => have := hb i k (by omega) e; simp only; omega
theorem moD_end (hS : ∀ x ∈ S, x < N) (hF : ∀ v, v < N → ∀ x ∈ F v, x < N) (hf : ∀ v k, f v = some k ↔ DsS F S k v) : (lyr F S (moD f N)).1 = [] := by
  rw [List.eq_nil_iff_forall_not_mem]
  intro x hx
  have h := lyrS_ds.1 hx
  have := moD_le ((hf x _).2 h) N (blS_lt hS hF _ x h.1)
  omega
theorem dsS_bound (hS : ∀ x ∈ S, x < N) (hF : ∀ v, v < N → ∀ x ∈ F v, x < N) (h : DsS F S k v) : k < N := by
  obtain ⟨K, k1, k2, k3⟩ := lyr_end (nd := F) (S := S) (N := N) hS hF
  have h0 := lyrS_ds.2 h
  by_cases q : k < K
  · omega
  · exfalso
    have z : ∀ j, (lyr F S (K + j)).1 = [] := by
      intro j
      induction j with
      | zero => exact k2
      | succ j ih =>
        show (frs (lyr F S (K + j)).2 ((srt (lyr F S (K + j)).1).flatMap F)).1 = []
        rw [ih]
        simp [srt, frs]
    have := z (k - K)
    rw [show K + (k - K) = k by omega] at this
    rw [this] at h0
    cases h0
theorem eaL_tot (hS : ∀ x ∈ S, x < N) (hF : ∀ v, v < N → ∀ x ∈ F v, x < N) (d : Nat) : (eaL F S d).length ≤ N := by
  have key : ∀ d, (eaL F S (d + 1)).length = (lyr F S d).2.length := by
    intro d
    induction d with
    | zero =>
      rw [eaL_len, srt_len]
      have h2 : (lyr F S 0).2.length = 0 + (lyr F S 0).1.length := frs_len S []
      rw [h2]; rfl
    | succ d ih =>
      rw [eaL_len, ih, srt_len]
      have h2 : (lyr F S (d + 1)).2.length = (lyr F S d).2.length + (lyr F S (d + 1)).1.length := frs_len _ _
      omega
  cases d with
  | zero => simp [eaL]
  | succ d =>
    rw [key]
    exact nodup_len N _ (lyr_nodup d) (lyr_lt hS hF d).1
theorem eaL_stop (hK : (lyr F S K).1 = []) : ∀ j, eaL F S (K + j) = eaL F S K := by
  have z : ∀ j, (lyr F S (K + j)).1 = [] := by
    intro j
    induction j with
    | zero => exact hK
    | succ j ih =>
      show (frs (lyr F S (K + j)).2 ((srt (lyr F S (K + j)).1).flatMap F)).1 = []
      rw [ih]
      simp [srt, frs]
  intro j
  induction j with
  | zero => rfl
  | succ j ih =>
    show eaL F S (K + j + 1) = _
    rw [eaL_succ, ih, z j]
    simp [srt]
theorem eaL_same {K' : Nat} (hK : (lyr F S K).1 = []) (hK' : (lyr F S K').1 = []) : eaL F S K = eaL F S K' := by
  rcases Nat.le_total K K' with h | h
  · have := eaL_stop hK (K' - K)
    rw [show K + (K' - K) = K' by omega] at this
    exact this.symm
  · have := eaL_stop hK' (K - K')
    rw [show K' + (K - K') = K by omega] at this
    exact this
end
/-- Two lists of one's own, beside one another. -/
structure Tl (W : World) (A B : List Nat) (v u : Value) (w : World) : Prop where
  bel : Below W.heap.size W w
  o1 : w.ownsRow W.heap.size 3 1 v A.length (ik A).toList
  o2 : w.ownsRow W.heap.size 3 1 u B.length (ik B).toList
  ap : ∀ k, v.ownBlock = some k → ¬ u.ownBlock = some k
theorem tl_nil (W : World) : Tl W [] [] (.slice none 0 0) (.slice none 0 0) W := ⟨Below.refl _ _, World.ownsRow_nil _ _ _ _, World.ownsRow_nil _ _ _ _, fun k h => by cases h⟩
theorem Tl.add1 {W w : World} {A B : List Nat} {v u : Value} (h : Tl W A B v u w) (x : Nat) (hA : A.length ≤ 100000000) :
    ∃ o c w', (apI 32 #[v, .slice (some ⟨w.heap.size, 0, none⟩) 1 1]).run Try.prog (w.alloc (.cells #[.int .i64 (x : Int)] 3)) = .ok (.slice o (A.length + 1) c) w' ∧ Tl W (A ++ [x]) B (.slice o (A.length + 1) c) u w' ∧ Below W.heap.size w w' := by
  obtain ⟨v', w', r1, r2, r3, r4⟩ := run_apI w W.heap.size A.length 32 v A x h.o1 (by omega) h.bel.size
  obtain ⟨o, c, rfl⟩ := own_size r2
  have hz : w.heap.size ≤ w'.heap.size := by have := r3.size; simp at this; omega
  have bb : Below W.heap.size w w' := ⟨r3.os, r3.tape, r3.output, hz, fun b hb => grown_oldR r3 b (by have := h.bel.size; omega) (fun e => by have := (h.o1.lt b e).1; omega)⟩
  refine ⟨o, c, w', r1, ⟨h.bel.trans bb, by rw [List.length_append]; exact r2, own_keep2 h.o2 fun k hk => grown_oldR r3 k (h.o2.lt k hk).2 fun e => h.ap k e hk, fun k hk => ?_⟩, bb⟩
  rcases r4 with q | q
  · rw [q] at hk; exact h.ap k hk
  · rw [q] at hk
    intro e
    have := (h.o2.lt k e).2
    have := Option.some.inj hk
    omega
theorem Tl.add2 {W w : World} {A B : List Nat} {v u : Value} (h : Tl W A B v u w) (x : Nat) (hB : B.length ≤ 100000000) :
    ∃ o c w', (apI 32 #[u, .slice (some ⟨w.heap.size, 0, none⟩) 1 1]).run Try.prog (w.alloc (.cells #[.int .i64 (x : Int)] 3)) = .ok (.slice o (B.length + 1) c) w' ∧ Tl W A (B ++ [x]) v (.slice o (B.length + 1) c) w' ∧ Below W.heap.size w w' := by
  have hs : Tl W B A u v w := ⟨h.bel, h.o2, h.o1, fun k h1 h2 => h.ap k h2 h1⟩
  obtain ⟨o, c, w', r1, r2, r3⟩ := hs.add1 x hB
  exact ⟨o, c, w', r1, ⟨r2.bel, r2.o2, r2.o1, fun k h1 h2 => r2.ap k h2 h1⟩, r3⟩
/-- What Listed answers. -/
def LsP (N : Int) (E : List (Int × Int)) (l : List Int) (w : World) (e : Ending) (w' : World) : Prop := Below w.heap.size w w' ∧
  ((∃ e0 : Nat, e0 ≠ 0 ∧ e = .returned (.tuple #[.slice none 0 0, .slice none 0 0, .int .i64 (e0 : Int)]) ∧ (((chk N E).1 ≠ 0 ∧ e0 = (chk N E).1) ∨ ((chk N E).1 = 0 ∧ okL N.toNat l = false ∧ e0 = 82))) ∨
   ∃ (n : Nat) (F : List (Nat × Nat)) (S : List Nat) (K : Nat) (o1 o2 : Option Addr) (m c1 c2 : Nat), N = (n : Int) ∧ E = zE F ∧ l = S.map (fun x : Nat => (x : Int)) ∧ (chk N E).1 = 0 ∧ (∀ x ∈ S, x < n) ∧ (lyr (ndF n F) S K).1 = [] ∧ m = (eaL (ndF n F) S K).length ∧
    e = .returned (.tuple #[.slice o1 m c1, .slice o2 m c2, .int .i64 0]) ∧ w'.ownsRow w.heap.size 3 1 (.slice o1 m c1) m (ik ((eaL (ndF n F) S K).map Prod.fst)).toList ∧ w'.ownsRow w.heap.size 3 1 (.slice o2 m c2) m (ik ((eaL (ndF n F) S K).map Prod.snd)).toList)
end Go.Proofs.Ytgedmfcfhdfoeaa

/- Graphs searched by the document: Listed from region 20 on, from region 14 on. -/
namespace Go.Proofs.Ytgedmfcfhdfoeaa
open Go.RowKit GM
namespace Gux
def headR : Code → Option Nat
  | .region id _ _ => some id
  | .seq a _ => headR a
  | .scope c => headR c
  | .block _ c => headR c
  | .loop c => headR c
  | _ => none
def fromR (n : Nat) : Code → Option (Bool × Code)
  | .seq a b => if headR a = some n then some (false, .seq a b) else match fromR n a with
    | some (false, c) => some (false, .seq c b)
    | some (true, c) => some (true, c)
    | none => fromR n b
  | .scope c => fromR n c
  | .block _ c => (fromR n c).map fun p => (true, p.2)
  | .loop c => (fromR n c).map fun p => (true, p.2)
  | .cond _ a b => match fromR n a with
    | some p => some (true, p.2)
    | none => (fromR n b).map fun p => (true, p.2)
  | _ => none
noncomputable def tlF (f : Func) (k : Nat) : Code := (((f.body.bind (fromR k)).map (·.2)).getD .skip)

end Gux
open Gux
set_option maxRecDepth 20000
def paL (F : Nat → List Nat) (S : List Nat) (k i : Nat) : List (Nat × Nat) := eaL F S k ++ ((srt (lyr F S k).1).take i).map fun v => (v, k)
theorem paL_zero (F : Nat → List Nat) (S : List Nat) (k : Nat) : paL F S k 0 = eaL F S k := by simp [paL]
theorem paL_end (F : Nat → List Nat) (S : List Nat) (k : Nat) : paL F S k (srt (lyr F S k).1).length = eaL F S (k + 1) := by
  unfold paL
  rw [List.take_length, eaL_succ]
theorem paL_succ {F : Nat → List Nat} {S : List Nat} {k i x : Nat} (hi : i < (srt (lyr F S k).1).length) (hx : (srt (lyr F S k).1).getD i 0 = x) : paL F S k (i + 1) = paL F S k i ++ [(x, k)] := by
  unfold paL
  rw [take_snocN hi, hx]
  simp
theorem paL_len {F : Nat → List Nat} {S : List Nat} {k i N : Nat} (h : ∀ d, (eaL F S d).length ≤ N) : (paL F S k i).length ≤ N := by
  have h1 := h (k + 1)
  rw [← paL_end] at h1
  unfold paL at h1 ⊢
  rw [List.length_append, List.length_map] at h1 ⊢
  rw [List.length_take] at h1 ⊢
  omega
theorem leZ {k K : Nat} {z : Int} (hz : z + 1 = (K : Int)) (h : k < K) : (k : Int) ≤ z := by omega
theorem nleZ {k K : Nat} {z : Int} (hz : z + 1 = (K : Int)) (h : ¬ k < K) : ¬ (k : Int) ≤ z := by omega
/-- The two lists while they are laid. -/
def T2 (X : World) (P : List (Nat × Nat)) (v u : Value) (wr : World) : Prop := Tl X (P.map Prod.fst) (P.map Prod.snd) v u wr
theorem T2.push {X wr : World} {P : List (Nat × Nat)} {v u : Value} (h : T2 X P v u wr) (x k : Nat) (hl : P.length ≤ 10000) :
    ∃ o1 c1 w1, (apI 32 #[v, .slice (some ⟨wr.heap.size, 0, none⟩) 1 1]).run Try.prog (wr.alloc (.cells #[.int .i64 (x : Int)] 3)) = .ok (.slice o1 (P.length + 1) c1) w1 ∧ Below X.heap.size wr w1 ∧ ∃ o2 c2 w2, (apI 32 #[u, .slice (some ⟨w1.heap.size, 0, none⟩) 1 1]).run Try.prog (w1.alloc (.cells #[.int .i64 (k : Int)] 3)) = .ok (.slice o2 (P.length + 1) c2) w2 ∧ T2 X (P ++ [(x, k)]) (.slice o1 (P.length + 1) c1) (.slice o2 (P.length + 1) c2) w2 := by
  obtain ⟨o1, c1, w1, r1, r2, r3⟩ := Tl.add1 h x (by rw [List.length_map]; omega)
  obtain ⟨o2, c2, w2, s1, s2, s3⟩ := r2.add2 k (by rw [List.length_map]; omega)
  rw [List.length_map] at r1 r2 s1 s2
  rw [List.length_map] at s2
  refine ⟨o1, c1, w1, r1, r3, o2, c2, w2, s1, ?_⟩
  unfold T2
  rw [List.map_append, List.map_append]
  exact s2
attribute [local go_sem ↓] toApI toMkV toMkW
set_option maxRecDepth 100000 in
set_option maxHeartbeats 6400000 in
theorem lt20 (X : World) {gB K : Nat} {F : Nat → List Nat} {S : List Nat} {V : Nat → Value} {z : Int} {Q : Ending → World → Prop} (R : Rws gB K (fun k => srt (lyr F S k).1) V X) (hK : K ≤ 10000) (hlen : ∀ k, (eaL F S k).length ≤ 10000) (hz : z + 1 = (K : Int)) (hQ : ∀ (o1 o2 : Option Addr) (m c1 c2 : Nat) (wr : World), m = (eaL F S K).length → Tl X ((eaL F S K).map Prod.fst) ((eaL F S K).map Prod.snd) (.slice o1 m c1) (.slice o2 m c2) wr → Q (.returned (.tuple #[.slice o1 m c1, .slice o2 m c2, .int .i64 0])) wr) {v0 v1 v2 v3 v4 v5 v6 v7 v8 v9 v10 v12 v14 v15 v16 v17 v18 v19 v20 v21 v22 v23 v24 v25 v26 v27 v28 v29 v30 v31 v32 v33 v34 v35 v36 v37 v38 v39 v40 v41 v42 v43 v44 v45 v46 v47 v48 v49 v50 v51 v52 v53 v54 v55 v56 v57 v58 v59 v60 v61 v62 v63 v64 v65 v66 v67 v68 v69 v70 v71 v72 v73 v74 v75 v76 v77 v78 v79 v80 v81 v82 v83 v84 v85 v86 v87 v88 v89 v90 v91 v92 v93 v94 v95 v96 v97 v98 v99 v100 v101 v102 v103 v104 v105 v106 v107 v108 v109 v110 v111 : Value} :
    Code.wp Try.prog (tlF Try.f16 20) (bodyPost Try.prog Try.f16 Q) ⟨#[v0, v1, v2, v3, v4, v5, v6, v7, v8, v9, v10, .int .i64 z, v12, .slice (some ⟨gB, 0, none⟩) K K, v14, v15, v16, v17, v18, v19, v20, v21, v22, v23, v24, v25, v26, v27, v28, v29, v30, v31, v32, v33, v34, v35, v36, v37, v38, v39, v40, v41, v42, v43, v44, v45, v46, v47, v48, v49, v50, v51, v52, v53, v54, v55, v56, v57, v58, v59, v60, v61, v62, v63, v64, v65, v66, v67, v68, v69, v70, v71, v72, v73, v74, v75, v76, v77, v78, v79, v80, v81, v82, v83, v84, v85, v86, v87, v88, v89, v90, v91, v92, v93, v94, v95, v96, v97, v98, v99, v100, v101, v102, v103, v104, v105, v106, v107, v108, v109, v110, v111], []⟩ X := by
  have HQ := mkHid (And.intro R (And.intro hK (And.intro hlen (And.intro hz hQ))))
  have H0 : Hid (T2 X (eaL F S 0) (.slice none 0 0) (.slice none 0 0) X) := by
    show T2 X (eaL F S 0) _ _ _
    have : eaL F S 0 = [] := rfl
    rw [this]
    exact tl_nil X
  clear R hK hlen hz hQ
  conv => arg 2; whnf
  go_wp2_with fail
  go_loopw [17, 15, 16] (fun kv nv dv wr => ∃ (k m c1 c2 : Nat) (o1 o2 : Option Addr), kv = .int .i64 (k : Int) ∧ nv = .slice o1 m c1 ∧ dv = .slice o2 m c2 ∧ k ≤ K ∧ Hid (m = (eaL F S k).length ∧ T2 X (eaL F S k) (.slice o1 m c1) (.slice o2 m c2) wr)) (fun kv _ _ _ => K - (intOf kv).toNat)
  case atStart => exact ⟨0, 0, 0, 0, _, _, rfl, rfl, rfl, Nat.zero_le _, rfl, H0⟩
  case round =>
    clear H0
    obtain ⟨k, m, c1, c2, o1, o2, rfl, rfl, rfl, hk, HI⟩ := hrel
    by_cases hlt : k < K
    · have hle := leZ HQ.out.2.2.2.1 hlt
      have wk := wrapI k (by have := HQ.out.2.1; omega)
      obtain ⟨ln, hln⟩ : ∃ n, (srt (lyr F S k).1).length = n := ⟨_, rfl⟩
      have HK := mkHid (And.intro hln hlt)
      have HJ0 : Hid (m = (paL F S k 0).length ∧ T2 X (paL F S k 0) (.slice o1 m c1) (.slice o2 m c2) wr) := by rw [paL_zero]; exact HI.out
      clear hlt hk HI hln
      go_wp2_with fail
      go_loopw [18, 15, 16] (fun iv nv dv wr => ∃ (i m c1 c2 : Nat) (o1 o2 : Option Addr), iv = .int .i64 (i : Int) ∧ nv = .slice o1 m c1 ∧ dv = .slice o2 m c2 ∧ i ≤ ln ∧ Hid (m = (paL F S k i).length ∧ T2 X (paL F S k i) (.slice o1 m c1) (.slice o2 m c2) wr)) (fun iv _ _ _ => ln - (intOf iv).toNat)
      case atStart => exact ⟨0, m, c1, c2, _, _, rfl, rfl, rfl, Nat.zero_le _, HJ0.out⟩
      case round =>
        clear HJ0
        obtain ⟨i, m, c1, c2, o1, o2, rfl, rfl, rfl, hi, HJ⟩ := hrel
        obtain ⟨R, hK, hlen, hz, -⟩ := HQ.out
        obtain ⟨hln, hkK⟩ := HK.out
        have bJ := HJ.out.2.bel
        have cV := (R.below bJ).cell k hkK |>.1
        obtain ⟨-, oV, cV', eV, hVc⟩ := own_get (R.own k hkK)
        rw [eV, hln] at cV
        have k0 := geI k
        have k1 := ltI hkK
        by_cases hlt : i < ln
        · have hiL : i < (srt (lyr F S k).1).length := by rw [hln]; exact hlt
          obtain ⟨bV, rfl, hbV, hbg, hcV⟩ := hVc (Nat.lt_of_le_of_lt (Nat.zero_le _) hiL)
          have cx := cell_belowX bJ (hcV i hiL)
          obtain ⟨x, hx⟩ : ∃ x, (srt (lyr F S k).1).getD i 0 = x := ⟨_, rfl⟩
          rw [hx] at cx
          have hpl := paL_len (F := F) (S := S) (k := k) (i := i) hlen
          have hps := paL_succ hiL hx
          obtain ⟨o1', d1, w1, r1, r2, o2', d2, w2, r3, r4⟩ := HJ.out.2.push x k hpl
          rw [← HJ.out.1] at r1 r3 r4
          have i0 := geI i
          have i1 := ltI hlt
          have hll : ln ≤ 10000 := by
            have := hlen (k + 1)
            rw [eaL_len, hln] at this
            omega
          have wi := wrapI i (by omega)
          have HN : Hid (m + 1 = (paL F S k (i + 1)).length ∧ T2 X (paL F S k (i + 1)) (.slice o1' (m + 1) d1) (.slice o2' (m + 1) d2) w2) := by
            rw [hps]
            exact ⟨by rw [List.length_append, HJ.out.1]; rfl, r4⟩
          have HL := mkHid hlt
          clear R hK hlen hz hln hkK bJ eV hVc hiL hcV hx hpl hps r2 r4 hll hlt hi HJ hbV hbg
          go_wp2_with fail
          exact ⟨⟨i + 1, m + 1, d1, d2, o1', o2', by first | (rw [wi]; rfl) | rfl, rfl, rfl, HL.out, HN.out⟩, by first | (rw [wi]; exact measI _ _ HL.out) | exact measI _ _ HL.out⟩
        · have i1 := nltI hlt
          have HN : Hid (m = (eaL F S (k + 1)).length ∧ T2 X (eaL F S (k + 1)) (.slice o1 m c1) (.slice o2 m c2) wr) := by
            have h := HJ.out
            rw [eqI hi hlt, ← hln, paL_end] at h
            exact h
          have HL := mkHid hkK
          clear R hK hlen hz hln hkK bJ eV hVc hlt hi HJ
          go_wp2_with fail
          exact ⟨⟨k + 1, m, c1, c2, o1, o2, by first | (rw [wk]; rfl) | rfl, rfl, rfl, HL.out, HN.out⟩, by first | (rw [wk]; exact measI _ _ HL.out) | exact measI _ _ HL.out⟩
    · have hle := nleZ HQ.out.2.2.2.1 hlt
      have HN : Hid (Q (.returned (.tuple #[.slice o1 m c1, .slice o2 m c2, .int .i64 0])) wr) := by
        have h := HI.out
        rw [eqI hk hlt] at h
        exact HQ.out.2.2.2.2 o1 o2 m c1 c2 wr h.1 h.2
      clear hlt hk HI
      go_wp2_with fail
      exact HN.out
end Go.Proofs.Ytgedmfcfhdfoeaa
