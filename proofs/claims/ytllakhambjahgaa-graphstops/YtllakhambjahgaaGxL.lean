/- GraphStops: the law, from its second loop on. -/
import Derived.Test.YtllakhambjahgaaGxK
namespace Go.Proofs.Ytllakhambjahgaa
open Go.RowKit GM Gx
theorem fl_get : ∀ (L : List (Nat × Nat)) (q : Nat) (p : Nat × Nat), L[q]? = some p → (fl L).getD (2 * q) 0 = p.1 ∧ (fl L).getD (2 * q + 1) 0 = p.2
  | [], q, p, h => by simp at h
  | y :: r, 0, p, h => by
    have e : y = p := by simpa using h
    subst e
    exact ⟨rfl, rfl⟩
  | y :: r, q + 1, p, h => by
    have h1 := fl_get r q p (by simpa using h)
    have e : fl (y :: r) = y.1 :: y.2 :: fl r := rfl
    rw [e, show 2 * (q + 1) = 2 * q + 1 + 1 by omega]
    exact h1
section
variable {B kc n c : Nat} {L : List (Nat × Nat)} {o : Option Addr} {X : Nat → Prop} {w : World}
/-- A pair is read. -/
theorem Col.read (h : Col B kc L L.length o n c X w) {q : Nat} {p : Nat × Nat} (hp : L[q]? = some p) : ∃ ga off : Nat, o = some ⟨ga, off, none⟩ ∧ w.cell? ⟨ga, off + 2 * q, none⟩ = some (.int .i64 (p.1 : Int)) ∧ w.cell? ⟨ga, off + (2 * q + 1), none⟩ = some (.int .i64 (p.2 : Int)) ∧ 2 * q + 1 < n := by
  have hq := (List.getElem?_eq_some_iff.1 hp).1
  have ho := h.own
  rw [List.take_length] at ho
  obtain ⟨ga, ⟨o2, c2, e, h1⟩, -⟩ := own_il ho
  injection e with e
  subst e
  have hl := fl_len L
  obtain ⟨off, e1, -, e2⟩ := h1 (by omega)
  obtain ⟨g1, g2⟩ := fl_get L q p hp
  have r1 := e2 (2 * q) (by omega)
  have r2 := e2 (2 * q + 1) (by omega)
  rw [g1] at r1
  rw [g2] at r2
  exact ⟨ga, off, e1, r1, r2, by have := h.len; omega⟩
end
theorem wrap2 (t : Nat) (h : t ≤ 1000000) : wrap64 (2 * (t : Int)) = ((2 * t : Nat) : Int) := by unfold wrap64; omega
theorem eqT {n i t : Nat} (h : n = 2 * i) (e : i + 1 = t) : ((n + 2 : Nat) : Int) = ((2 * t : Nat) : Int) := by omega
theorem neT {n i t : Nat} (h : n = 2 * i) (e : ¬ i + 1 = t) : ¬ ((n + 2 : Nat) : Int) = ((2 * t : Nat) : Int) := by omega
theorem nx6 {q j x : Nat} (h : 2 * q = j) (e : j + 2 = x) : x = 2 * (q + 1) := by omega
theorem no6 {q j x : Nat} (h : 2 * q = j) (e : j + 2 = x) (h2 : q + 1 < 3) : ¬ (x : Int) = 6 := by omega
theorem is6 {q j x : Nat} (h : 2 * q = j) (e : j + 2 = x) (h2 : ¬ q + 1 < 3) (h3 : q < 3) : (x : Int) = 6 := by omega
theorem wrapJ (j : Nat) (h : j < 10000000) : wrap64 ((j : Int) + 2) = ((j + 2 : Nat) : Int) := by unfold wrap64; omega
theorem frm_agr {B X : Nat → Prop} {A U V : World} (h : Rm.Frm B A U) (hg : Rm.Agr (fun k => k < A.heap.size ∨ X k) U V) : Rm.Frm B A V :=
  ⟨hg.os.trans h.os, hg.tape.trans h.tape, hg.output.trans h.output, Nat.le_trans h.size hg.size, fun k hk hx => (hg.blk k (Nat.lt_of_lt_of_le hk h.size) (.inl hk)).trans (h.blk k hk hx)⟩
attribute [local go_sem] Oper.semAt_some
attribute [local go_sem ↓] toApI
set_option maxRecDepth 100000 in
set_option maxHeartbeats 6400000 in
/-- From region 20 on: the second loop, with the third in it. What comes behind is taken for granted (HT). -/
theorem gs20 (W X : World) {mE m0 kS kR kE a b g N gs K : Nat} {gv : Nat → Nat} {F : Nat → List Nat} {V : Nat → Value} {sv : Value} {S : List Nat} {kA kD t n c : Nat} {o : Option Addr} {XA : Nat → Prop} (hw : Gw W mE m0 kS kR kE a b g N gs K gv F V sv S (t : Int) X) (hq : Gq N K F S)
    (hc : Col (kA + 1) kA (eaL F S K) (eaL F S K).length o n c XA X) (hkD : X.heap[kD]? = some (.deferred (some []))) (ht1 : 1 ≤ t) (ht2 : t ≤ (eaL F S K).length)
    (HT : ∀ (U : World) (kB kF n2 c2 : Nat) (o2 : Option Addr) (X' : Nat → Prop) {v0 v1 v2 v3 v4 v5 v6 v9 v10 v11 v14 v15 v17 v18 v19 v20 v21 v22 v23 v24 v25 v26 v27 v28 v29 v30 v31 v32 v33 v34 v35 v36 v37 v38 v39 v40 v41 v42 v43 v44 v45 v46 v47 v48 v49 v50 v51 v52 v53 v54 v55 v56 v57 v58 v59 v60 v61 v62 v63 v64 v65 v66 v67 v68 v69 v70 v71 v72 v73 v74 v75 v76 v77 v78 v79 v80 v81 v82 v83 v84 v85 v86 v87 v88 v89 v90 v91 v92 v93 v94 v95 v96 v97 v98 v99 v100 v101 v102 v103 v104 v105 v106 v107 v108 v109 v110 v111 v112 v113 v114 v115 v116 v117 v118 v119 v120 v121 v122 v123 v124 v125 v126 v127 v128 v129 v130 v131 v132 v133 v134 v135 v136 : Value}, Below X.heap.size X U → Gw W mE m0 kS kR kE a b g N gs K gv F V sv S (t : Int) U → Col (kB + 1) kB (eaL F S K) t o2 n2 c2 X' U → U.heap[kF]? = some (.deferred (some [])) → X.heap.size ≤ kF → X.heap.size ≤ kB → Code.wp Try.prog (tlF Try.f3 34) (bodyPostM Fence.wide 9 Try.prog Try.f3 (fun e w' => e = .returned (.bool true) ∧ Below W.heap.size W w')) ⟨#[v0, v1, v2, v3, v4, v5, v6, .pointer (some ⟨kS, 0, none⟩), .pointer (some ⟨kR, 0, none⟩), v9, v10, v11, .pointer (some ⟨kE, 0, none⟩), .pointer (some ⟨kA, 0, none⟩), v14, v15, .pointer (some ⟨kB, 0, none⟩), v17, v18, v19, v20, v21, v22, v23, v24, v25, v26, v27, v28, v29, v30, v31, v32, v33, v34, v35, v36, v37, v38, v39, v40, v41, v42, v43, v44, v45, v46, v47, v48, v49, v50, v51, v52, v53, v54, v55, v56, v57, v58, v59, v60, v61, v62, v63, v64, v65, v66, v67, v68, v69, v70, v71, v72, v73, v74, v75, v76, v77, v78, v79, v80, v81, v82, v83, v84, v85, v86, v87, v88, v89, v90, v91, v92, v93, v94, v95, v96, v97, v98, v99, v100, v101, v102, v103, v104, v105, v106, v107, v108, v109, v110, v111, v112, v113, v114, v115, v116, v117, v118, v119, v120, v121, v122, v123, v124, v125, v126, v127, v128, v129, v130, v131, v132, v133, v134, v135, v136], [{ target := .collected kF, args := #[] }, { target := .collected kD, args := #[] }]⟩ U) {v0 v1 v2 v3 v4 v5 v6 v9 v10 v11 v14 v15 v16 v17 v18 v19 v20 v21 v22 v23 v24 v25 v26 v27 v28 v29 v30 v31 v32 v33 v34 v35 v36 v37 v38 v39 v40 v41 v42 v43 v44 v45 v46 v47 v48 v49 v50 v51 v52 v53 v54 v55 v56 v57 v58 v59 v60 v61 v62 v63 v64 v65 v66 v67 v68 v69 v70 v71 v72 v73 v74 v75 v76 v77 v78 v79 v80 v81 v82 v83 v84 v85 v86 v87 v88 v89 v90 v91 v92 v93 v94 v95 v96 v97 v98 v99 v100 v101 v102 v103 v104 v105 v106 v107 v108 v109 v110 v111 v112 v113 v114 v115 v116 v117 v118 v119 v120 v121 v122 v123 v124 v125 v126 v127 v128 v129 v130 v131 v132 v133 v134 v135 v136 : Value} :
    Code.wp Try.prog (tlF Try.f3 20) (bodyPostM Fence.wide 9 Try.prog Try.f3 (fun e w' => e = .returned (.bool true) ∧ Below W.heap.size W w')) ⟨#[v0, v1, v2, v3, v4, v5, v6, .pointer (some ⟨kS, 0, none⟩), .pointer (some ⟨kR, 0, none⟩), v9, v10, v11, .pointer (some ⟨kE, 0, none⟩), .pointer (some ⟨kA, 0, none⟩), v14, v15, v16, v17, v18, v19, v20, v21, v22, v23, v24, v25, v26, v27, v28, v29, v30, v31, v32, v33, v34, v35, v36, v37, v38, v39, v40, v41, v42, v43, v44, v45, v46, v47, v48, v49, v50, v51, v52, v53, v54, v55, v56, v57, v58, v59, v60, v61, v62, v63, v64, v65, v66, v67, v68, v69, v70, v71, v72, v73, v74, v75, v76, v77, v78, v79, v80, v81, v82, v83, v84, v85, v86, v87, v88, v89, v90, v91, v92, v93, v94, v95, v96, v97, v98, v99, v100, v101, v102, v103, v104, v105, v106, v107, v108, v109, v110, v111, v112, v113, v114, v115, v116, v117, v118, v119, v120, v121, v122, v123, v124, v125, v126, v127, v128, v129, v130, v131, v132, v133, v134, v135, v136], [{ target := .collected kD, args := #[] }]⟩ X := by
  obtain ⟨A, hA⟩ : ∃ A, X.alloc (.cells #[.slice none 0 0] 23) = A := ⟨_, rfl⟩
  obtain ⟨kB, hkB⟩ : ∃ k, X.heap.size = k := ⟨_, rfl⟩
  have bA : Below X.heap.size X A := by rw [← hA]; exact (Below.refl _ X).alloc (Nat.le_refl _) _
  have rA : A.heap[kB]? = some (.cells #[.slice none 0 0] 23 (0, 0)) := by rw [← hA, ← hkB]; exact heap_alloc_new _ _
  have sA : A.heap.size = kB + 1 := by rw [← hA, ← hkB]; simp
  have cE : X.cell? ⟨kE, 0, none⟩ = some (.func (.func 11) #[] #[.pointer (some ⟨a, 0, none⟩), .pointer (some ⟨b, 0, none⟩)]) := (cell_of_row _ _ _ _ _ _ hw.e).trans rfl
  have cEA := cell_belowX bA cE
  have cEr := cEA
  rw [← hA] at cEr
  have HA := mkHid (And.intro bA (And.intro rA (And.intro sA (And.intro hw (And.intro hq (And.intro hc (And.intro hkD (And.intro ht1 (And.intro ht2 hkB)))))))))
  replace hA := mkHid hA
  clear bA rA sA hq hw hc hkD ht1 ht2
  conv => arg 2; whnf
  go_upto_region 20 with fail
  rename_i K2 hk2
  have HK2 := mkHid hk2
  clear hk2
  go_wp2_with fail
  try rw [hkB]
  try rw [hA.out]
  refine HK2.out _ _ ?_
  refine wp_seq_k ?_
  intro K3 hK3
  have HK3 := mkHid hK3
  clear hK3 HK2
  go_wp2_with fail
  have bAh := HA.out.1
  have hit := (HA.out.2.2.2.1.below bAh).iter HA.out.2.2.2.2.1 8 (by decide)
  have hwX := HA.out.2.2.2.1
  have hkB := HA.out.2.2.2.2.2.2.2.2.2
  refine wpIn_wide.1 (Rm.loop_out (F := Fence.wide) (n := 9) rfl (by decide) (gf := 11) (lb := #[.pointer (some ⟨a, 0, none⟩), .pointer (some ⟨b, 0, none⟩)]) rfl trivial (enters_of Try.func11 (by kernel_rfl) rfl) hit (fun _ hk => Nat.lt_of_lt_of_le hk.2 (HA.out.2.2.2.1.below HA.out.1).m0) (Below.refl _ _) (fun i x W l o o' h _ _ => h) (fun i x W l o o' h _ _ => trivial) (fun i x W h => by obtain ⟨_, _, rfl⟩ := h; rfl)
    (fun i X' U => i < t ∧ Rm.Frm (fun k => k = kB) A U ∧ ∃ (o : Option Addr) (n c : Nat), Col (kB + 1) kB (eaL F S K) i o n c X' U) (fun c X' U => c = Code.exit 4 ∧ Rm.Frm (fun k => k = kB) A U ∧ ∃ (o : Option Addr) (n c : Nat), Col (kB + 1) kB (eaL F S K) t o n c X' U) (fun k => k = kB) ?hI ?hIx ⟨HA.out.2.2.2.2.2.2.2.1, Rm.Frm.refl _ _, none, 0, 0, rfl, HA.out.2.1, by simpa [fl, ik] using World.ownsRow_nil A (kB + 1) 3 1, fun k => ⟨.inl, fun q => q.elim id (fun q => by cases q)⟩, Nat.lt_succ_self _⟩ ?hX0 ?hX1 ?round ?done ?stop)
  case hI =>
    rintro i X' U U2 ⟨hi, hf, o, n, c, hc⟩ hg
    exact ⟨hi, frm_agr hf hg, o, n, c, hc.keep fun k hk hx => hg.blk k hk (.inr hx)⟩
  case hIx =>
    rintro c X' U U2 ⟨e, hf, o, n, c2, hc⟩ hg
    exact ⟨e, frm_agr hf hg, o, n, c2, hc.keep fun k hk hx => hg.blk k hk (.inr hx)⟩
  case hX0 => rintro k rfl; have := HA.out.2.2.1; omega
  case hX1 =>
    rintro k rfl hk
    have := HA.out.2.2.2.1.m0
    omega
  case done =>
    rintro X' U ⟨hi, -⟩ - - -
    have := HA.out.2.2.2.2.2.2.2.2.1
    omega
  case stop =>
    rintro e X' U ⟨rfl, hf, o2, n2, c2, hc⟩ hF hG hK
    have bU : Below X.heap.size X U := HA.out.1.trans (hf.below HA.out.1.size (fun k hk => by omega))
    have hwU := HA.out.2.2.2.1.below bU
    have HU := mkHid (And.intro bU (And.intro hwU (And.intro hc hK)))
    clear hf hF hG hK hc bU hwU hit bAh
    gi_wp2
    have hsA := HA.out.2.2.1
    exact HK3.out _ _ (HT U kB A.heap.size n2 c2 o2 X' HU.out.1 HU.out.2.1 HU.out.2.2.1 HU.out.2.2.2 (by omega) (by omega))
  case round =>
    rintro l i x X' U hi ⟨p, hp, rfl⟩
    gi_wp2
    refine ⟨trivial, fun U2 hl hlw hlz hI hv2 hH hXl => ?_⟩
    obtain ⟨hit2, hf, o1, n1, c1, hc1⟩ := hI
    have h2i := hc1.len
    have hL := HA.out.2.2.2.2.1.hL
    have hsA := HA.out.2.2.1
    have ht2 := HA.out.2.2.2.2.2.2.2.2.1
    obtain ⟨o', c', w2, r1, rk, X2, f2, g2, hc2⟩ := hc1.step hp (by omega) (by omega)
    have e1 : U2.cell? ⟨kB, 0, none⟩ = some (.slice o1 n1 c1) := (cell_of_row _ _ _ _ _ _ hc1.row).trans rfl
    have e1n := (World.cell?_of_block (w := U2) (a := ⟨kB, 0, none⟩) (heap_alloc_old U2 (.cells #[.int .i64 (p.1 : Int), .int .i64 (p.2 : Int)] 3) (h := (Array.getElem?_eq_some_iff.1 hc1.row).1))).trans e1
    have e2 : w2.cell? ⟨kB, 0, none⟩ = some (.slice o1 n1 c1) := (cell_of_row _ _ _ _ _ _ rk).trans rfl
    have e2f : w2.frozen? ⟨kB, 0, none⟩ = false := frozen_of_row _ _ _ _ _ rk
    obtain ⟨Z, hZ⟩ : ∃ Z, w2.setCell ⟨kB, 0, none⟩ (.slice o' (n1 + 2) c') = Z := ⟨_, rfl⟩
    rw [hZ] at f2 g2 hc2
    have hxk : X' kB := (hc1.xs kB).2 (.inl rfl)
    have fZ : Rm.Frm (fun k => k = kB) A Z := ⟨f2.os.trans hf.os, f2.tape.trans hf.tape, f2.output.trans hf.output, Nat.le_trans hf.size f2.size, fun k hk hx => (f2.blk k (Nat.lt_of_lt_of_le hk hf.size) (fun q => by
      rcases (hc1.xs k).1 q with q | q
      · exact hx q
      · have := (hc1.blkB q).1
        omega)).trans (hf.blk k hk hx)⟩
    have bZ : Below X.heap.size X Z := HA.out.1.trans (fZ.below HA.out.1.size (fun k hk => by omega))
    have hwZ := HA.out.2.2.2.1.below bZ
    have z1 : Z.cell? ⟨kB, 0, none⟩ = some (.slice o' (n1 + 2) c') := (cell_of_row _ _ _ _ _ _ hc2.row).trans rfl
    have z2 : Z.cell? ⟨kS, 0, none⟩ = some (.int .i64 (t : Int)) := (cell_of_row _ _ _ _ _ _ hwZ.s).trans rfl
    have q1 := wrap2 t (Nat.le_trans ht2 hL)
    have HR := mkHid (And.intro f2 (And.intro g2 (And.intro hc2 (And.intro fZ (And.intro bZ (And.intro hwZ (And.intro hl (And.intro hlw hlz))))))))
    by_cases hit : i + 1 = t
    · have q2 : ((n1 + 2 : Nat) : Int) = ((2 * t : Nat) : Int) := eqT h2i hit
      have hcx : Col (kB + 1) kB (eaL F S K) t o' (n1 + 2) c' X2 Z := by rw [← hit]; exact hc2
      have HX := mkHid hcx
      clear f2 g2 hc2 fZ bZ hwZ hl hlw hlz hc1 hf h2i hL hsA ht2 rk hH hXl hv2 hxk hcx
      gi_wp2
      try rw [hZ]
      gi_wp2
      exact ⟨X2, HR.out.1.wide (fun _ _ h => .inl h), HR.out.2.1, rfl, HR.out.2.2.2.1, o', _, c', HX.out⟩
    · have q2 : ¬ ((n1 + 2 : Nat) : Int) = ((2 * t : Nat) : Int) := neT h2i hit
      have hfin : ∀ V, Below Z.heap.size Z V → ∃ X4 : Nat → Prop, Rm.Frm (fun k => X' k ∨ False) U2 V ∧ (∀ k, X4 k → (X' k ∨ U2.heap.size ≤ k) ∧ k < V.heap.size) ∧ (i + 1 < t ∧ Rm.Frm (fun k => k = kB) A V ∧ ∃ (o : Option Addr) (n c : Nat), Col (kB + 1) kB (eaL F S K) (i + 1) o n c X4 V) ∧ True := fun V hV => by
        have s1 := f2.size
        have s2 := fZ.size
        refine ⟨X2, ⟨hV.os.trans f2.os, hV.tape.trans f2.tape, hV.output.trans f2.output, Nat.le_trans s1 hV.size, fun k hk hx => (hV.block k (by omega)).trans (f2.blk k hk (fun q => hx (.inl q)))⟩, fun k hk => ⟨(g2 k hk).1, Nat.lt_of_lt_of_le (g2 k hk).2 hV.size⟩, ⟨by omega, ⟨hV.os.trans fZ.os, hV.tape.trans fZ.tape, hV.output.trans fZ.output, Nat.le_trans s2 hV.size, fun k hk hx => (hV.block k (by omega)).trans (fZ.blk k hk hx)⟩, o', _, c', hc2.keep fun k hk _ => hV.block k hk⟩, trivial⟩
      have z3 : Z.cell? ⟨kE, 0, none⟩ = some (.func (.func 11) #[] #[.pointer (some ⟨a, 0, none⟩), .pointer (some ⟨b, 0, none⟩)]) := (cell_of_row _ _ _ _ _ _ hwZ.e).trans rfl
      obtain ⟨Y, hY⟩ : ∃ Y, Z.alloc (.cells #[.int .i64 0] 3) = Y := ⟨_, rfl⟩
      obtain ⟨kK, hkK⟩ : ∃ k, Z.heap.size = k := ⟨_, rfl⟩
      have bY : Below Z.heap.size Z Y := by rw [← hY]; exact (Below.refl _ Z).alloc (Nat.le_refl _) _
      have rK : Y.heap[kK]? = some (.cells #[.int .i64 0] 3 (0, 0)) := by rw [← hY, ← hkK]; exact heap_alloc_new _ _
      have sY : Y.heap.size = kK + 1 := by rw [← hY, ← hkK]; simp
      have z3Y := cell_belowX bY z3
      have z3r := z3Y
      rw [← hY] at z3r
      obtain ⟨lr, hl2⟩ := hl
      have hl4 : Y.heap[l]? = some (.loop lr) := by
        have hlX : ¬ X' l := fun q => by rcases hXl l q with q | q <;> omega
        have s1 := f2.size
        exact (bY.block l (by omega)).trans ((f2.blk l hlz hlX).trans hl2)
      have hXZ := bZ.size
      have hfinH := mkHid hfin
      have HY := mkHid (And.intro bY (And.intro rK (And.intro sY (And.intro (bZ.trans (bY.mono bZ.size)) (And.intro hl4 (And.intro hkK hXZ))))))
      replace hY := mkHid hY
      clear f2 g2 hc2 fZ bZ hwZ hlw hlz hc1 hf h2i hL hsA ht2 rk hH hXl hv2 hxk HR hfin bY rK sY hl2 hl4 hXZ
      gi_wp2
      try rw [hZ]
      gi_wp2
      try rw [hkK]
      try rw [hY.out]
      have hwY := HA.out.2.2.2.1.below HY.out.2.2.2.1
      have hit3 : Rm.Iter (Fence.wide.inRound l) (7 - 1) Try.prog 11 #[.pointer (some ⟨a, 0, none⟩), .pointer (some ⟨b, 0, none⟩)] (eaL F S K).length (EaV F S K) (fun _ _ => False) (fun _ _ _ => True) Y (fun k => mE ≤ k ∧ k < m0) := hwY.iter HA.out.2.2.2.2.1 6 (by decide)
      have hm0Y := hwY.m0
      clear hwY
      refine Rm.loop_in (F := Fence.wide.inRound l) (n := 7) rfl HY.out.2.2.2.2.1 (by decide) (gf := 11) (lb := #[.pointer (some ⟨a, 0, none⟩), .pointer (some ⟨b, 0, none⟩)]) rfl trivial (enters_of Try.func11 (by kernel_rfl) rfl) hit3 (fun _ hk => Nat.lt_of_lt_of_le hk.2 hm0Y) (Below.refl _ _) (fun i x W l o o' h _ _ => h) (fun i x W l o o' h _ _ => trivial) (fun i x W h => by obtain ⟨_, _, rfl⟩ := h; rfl)
        (fun q X3 V => q < 3 ∧ Rm.Frm (fun k => k = kK) Y V ∧ (∀ k, X3 k ↔ k = kK) ∧ V.heap[kK]? = some (.cells #[.int .i64 ((2 * q : Nat) : Int)] 3 (0, 0))) (fun c X3 V => c = Code.exit 6 ∧ Rm.Frm (fun k => k = kK) Y V) (fun k => k = kK) ?hI3 ?hIx3 ⟨by decide, Rm.Frm.refl _ _, fun _ => Iff.rfl, HY.out.2.1⟩ ?hX03 ?hX13 ?round3 ?done3 ?stop3
      case hI3 =>
        rintro q X3 V V2 ⟨h1, h2, h3, h4⟩ hg
        exact ⟨h1, frm_agr h2 hg, h3, (hg.blk kK (Array.getElem?_eq_some_iff.1 h4).1 (.inr ((h3 kK).2 rfl))).trans h4⟩
      case hIx3 =>
        rintro e X3 V V2 ⟨h1, h2⟩ hg
        exact ⟨h1, frm_agr h2 hg⟩
      case hX03 => rintro k rfl; have := HY.out.2.2.1; omega
      case hX13 =>
        rintro k rfl hk
        have h1 := HA.out.2.2.2.1.m0
        have h2 := HY.out.2.2.2.2.2.2
        have h3 := HY.out.2.2.2.2.2.1
        omega
      case done3 =>
        rintro X3 V ⟨-, hf3, -⟩ hF hG
        have HE := mkHid (hfinH.out V (HY.out.1.trans (hf3.below HY.out.1.size (fun k hk => by have := HY.out.2.2.2.2.2.1; omega))))
        clear hf3 hF hG
        gi_wp2
        exact HE.out
      case stop3 =>
        rintro e X3 V ⟨rfl, hf3⟩ hF hG
        have HE := mkHid (hfinH.out V (HY.out.1.trans (hf3.below HY.out.1.size (fun k hk => by have := HY.out.2.2.2.2.2.1; omega))))
        clear hf3 hF hG
        gi_wp2
        exact HE.out
      case round3 =>
        rintro l3 q x X3 V hq ⟨p3, hp3, rfl⟩
        gi_wp2
        refine ⟨trivial, fun V2 hl3 hlw3 hlz3 hI3 hv3 hH3 hXl3 => ?_⟩
        obtain ⟨hq3, hf3, hx3, hr3⟩ := hI3
        have bV : Below X.heap.size X V2 := HY.out.2.2.2.1.trans (hf3.below HY.out.2.2.2.1.size (fun k hk => by have := HY.out.2.2.2.2.2.1; have := HY.out.2.2.2.2.2.2; omega))
        have hcA := HA.out.2.2.2.2.2.1.keep (w' := V2) (fun k hk _ => bV.block k hk)
        obtain ⟨ga, off, eo, y1, y2, y3⟩ := hcA.read hp3
        have yA : V2.cell? ⟨kA, 0, none⟩ = some (.slice o n c) := (cell_of_row _ _ _ _ _ _ hcA.row).trans rfl
        rw [eo] at yA
        obtain ⟨j, hj⟩ : ∃ j, 2 * q = j := ⟨_, rfl⟩
        rw [hj] at hr3 y1 y2 y3
        have yK : V2.cell? ⟨kK, 0, none⟩ = some (.int .i64 (j : Int)) := (cell_of_row _ _ _ _ _ _ hr3).trans rfl
        have yKf : V2.frozen? ⟨kK, 0, none⟩ = false := frozen_of_row _ _ _ _ _ hr3
        have j0 := geI j
        have hnL : n ≤ 2000000 := by have := hcA.len; have := HA.out.2.2.2.2.1.hL; omega
        have j1 : (j : Int) < (n : Int) := by omega
        have j2 : ¬ (n : Int) ≤ (j : Int) + 1 := by omega
        have j3 : (j : Int) + 1 < (n : Int) := by omega
        have j4 := wrapI j (by omega)
        have j5 : (0 : Int) ≤ (j : Int) + 1 := by omega
        have j6 : ((j : Int) + 1).toNat = j + 1 := by omega
        have j7 := wrapJ j (by omega)
        obtain ⟨J2, hJ2⟩ : ∃ x, j + 2 = x := ⟨_, rfl⟩
        rw [hJ2] at j7
        obtain ⟨V3, hV3⟩ : ∃ V3, V2.setCell ⟨kK, 0, none⟩ (.int .i64 (J2 : Int)) = V3 := ⟨_, rfl⟩
        have rV3 : V3.heap[kK]? = some (.cells #[.int .i64 (J2 : Int)] 3 (0, 0)) := by
          rw [← hV3, setCell_eq_setRow V2 kK 0 _ _ _ _ hr3]
          exact setRow_heap _ _ _ _ _ _ hr3
        have fV3 : Rm.Frm (fun k => X3 k ∨ False) V2 V3 := by
          have e := setCell_eq_setRow V2 kK 0 _ _ _ (.int .i64 (J2 : Int)) hr3
          refine ⟨by rw [← hV3, e]; rfl, by rw [← hV3, e]; rfl, by rw [← hV3, e]; rfl, by rw [← hV3]; simp, fun k _ hx => ?_⟩
          rw [← hV3]
          exact heap_setCell_other V2 ⟨kK, 0, none⟩ k _ (fun q => hx (.inl ((hx3 k).2 q)))
        have fY3 : Rm.Frm (fun k => k = kK) Y V3 := hf3.trans (fV3.wide fun k _ h => (hx3 k).1 (h.elim id (fun f => f.elim)))
        have gV3 : ∀ k, X3 k → (X3 k ∨ V2.heap.size ≤ k) ∧ k < V3.heap.size := fun k hk => ⟨.inl hk, by rw [(hx3 k).1 hk]; exact (Array.getElem?_eq_some_iff.1 rV3).1⟩
        have HR3 := mkHid (And.intro hq3 (And.intro fV3 (And.intro gV3 (And.intro fY3 (And.intro hx3 (And.intro rV3 (And.intro hj hJ2)))))))
        have yK3 : V3.cell? ⟨kK, 0, none⟩ = some (.int .i64 (J2 : Int)) := (cell_of_row _ _ _ _ _ _ rV3).trans rfl
        clear rV3 fV3 gV3 fY3
        clear hf3 hx3 hr3 bV hcA hnL y3 hl3 hlw3 hlz3 hv3 hH3 hXl3 eo
        by_cases h6 : q + 1 < 3
        · have j8 : ¬ (J2 : Int) = 6 := no6 hj hJ2 h6
          have j8n : ¬ J2 = 6 := fun e => j8 (by rw [e]; rfl)
          have H6 := mkHid h6
          clear hj hq3 h6 hJ2
          gi_wp2
          obtain ⟨t1, t2, t3, t4, t5, t6, t7, t8⟩ := HR3.out
          have t9 : V3.heap[kK]? = some (.cells #[.int .i64 ((2 * (q + 1) : Nat) : Int)] 3 (0, 0)) := by rw [t6, nx6 t7 t8]
          exact ⟨X3, t2, t3, ⟨H6.out, t4, t5, by simpa using t9⟩, trivial⟩
        · have j8 : (J2 : Int) = 6 := is6 hj hJ2 h6 hq3
          have j8n : J2 = 6 := Int.ofNat.inj j8
          subst j8n
          clear hj hq3 h6 hJ2 j8
          gi_wp2
          obtain ⟨t1, t2, t3, t4, t5, t6, t7, t8⟩ := HR3.out
          subst hV3
          exact ⟨X3, t2, t3, rfl, t4⟩
end Go.Proofs.Ytllakhambjahgaa
