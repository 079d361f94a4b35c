/- GraphStops: the law, from its first loop on. -/
import Derived.Test.YtllakhambjahgaaGxJ
import Derived.Deep.Cut
import Derived.Handy
namespace Go.Proofs.Ytllakhambjahgaa
open Go.RowKit GM
namespace Gx
def headR : Code → Option Nat
  | .region id _ _ => some id
  | .seq a _ => headR a
  | .scope c => headR c
  | .block _ c => headR c
  | .loop c => headR c
  | _ => none
def fromR (n : Nat) : Code → Option (Bool × Code)
  | .seq a b => if headR a = some n then some (false, .seq a b) else match fromR n a with
    | some (false, c) => some (false, .seq c b)
    | some (true, c) => some (true, c)
    | none => fromR n b
  | .scope c => fromR n c
  | .block _ c => (fromR n c).map fun p => (true, p.2)
  | .loop c => (fromR n c).map fun p => (true, p.2)
  | .cond _ a b => match fromR n a with
    | some p => some (true, p.2)
    | none => (fromR n b).map fun p => (true, p.2)
  | _ => none
noncomputable def tlF (f : Func) (k : Nat) : Code := (((f.body.bind (fromR k)).map (·.2)).getD .skip)
end Gx
open Gx
/-- What lies at the law's first loop. -/
structure Gw (W : World) (mE m0 kS kR kE a b g N gs K : Nat) (gv : Nat → Nat) (F : Nat → List Nat) (V : Nat → Value) (sv : Value) (S : List Nat) (st : Int) (X : World) : Prop where
  bel : Below W.heap.size W X
  s : X.heap[kS]? = some (.cells #[.int .i64 st] 3 (0, 0))
  r : X.heap[kR]? = some (.cells #[.bool false] 4 (0, 0))
  e : X.heap[kE]? = some (.cells #[.func (.func 11) #[] #[.pointer (some ⟨a, 0, none⟩), .pointer (some ⟨b, 0, none⟩)]] 28 (0, 0))
  eas : Eas (fun k => mE ≤ k ∧ k < m0) a b g N gs gv F V sv S X
  m0 : m0 ≤ X.heap.size
  hS0 : W.heap.size ≤ kS
  hR0 : W.heap.size ≤ kR
  ne : kS ≠ kR
  sE : kS < mE
/-- The mathematics of the graph at hand. -/
structure Gq (N K : Nat) (F : Nat → List Nat) (S : List Nat) : Prop where
  hN : N ≤ 10000000
  hS : ∀ x ∈ S, x < N
  hF : ∀ v, v < N → ∀ x ∈ F v, x < N
  hSl : S.length < 10000000
  hFl : ∀ v, v < N → (F v).length < 10000000
  hK : (lyr F S K).1 = []
  hK' : ∀ i, i < K → (lyr F S i).1 ≠ []
  hKb : K ≤ 10000000
  hL : (eaL F S K).length ≤ 1000000
  hp : 0 < (eaL F S K).length
section
variable {W X X1 : World} {mE m0 kS kR kE a b g N gs K : Nat} {gv : Nat → Nat} {F : Nat → List Nat} {V : Nat → Value} {sv : Value} {S : List Nat} {st : Int}
theorem Gw.below (h : Gw W mE m0 kS kR kE a b g N gs K gv F V sv S st X) (hb : Below X.heap.size X X1) : Gw W mE m0 kS kR kE a b g N gs K gv F V sv S st X1 :=
  ⟨h.bel.trans (hb.mono h.bel.size), (hb.block _ (Array.getElem?_eq_some_iff.1 h.s).1).trans h.s, (hb.block _ (Array.getElem?_eq_some_iff.1 h.r).1).trans h.r, (hb.block _ (Array.getElem?_eq_some_iff.1 h.e).1).trans h.e, h.eas.keep hb.size (fun k hk => hb.block k (Nat.lt_of_lt_of_le hk.2 h.m0)), Nat.le_trans h.m0 hb.size, h.hS0, h.hR0, h.ne, h.sE⟩
theorem Gw.iter (h : Gw W mE m0 kS kR kE a b g N gs K gv F V sv S st X) (q : Gq N K F S) (n : Nat) (hn : 1 ≤ n) : Rm.Iter Fence.wide n Try.prog 11 #[.pointer (some ⟨a, 0, none⟩), .pointer (some ⟨b, 0, none⟩)] (eaL F S K).length (EaV F S K) (fun _ _ => False) (fun _ _ _ => True) X (fun k => mE ≤ k ∧ k < m0) :=
  each_iter n hn h.eas (fun _ hk => Nat.lt_of_lt_of_le hk.2 h.m0) q.hN q.hS q.hF q.hSl q.hFl q.hK q.hK' q.hKb
end
theorem wrapD (n M : Nat) (h : n = 2 * M) (hM : M ≤ 1000000) : wrap64 ((n : Int) / 2) = (M : Int) := by
  have e : (n : Int) / 2 = (M : Int) := by omega
  rw [e]
  unfold wrap64
  omega
theorem wrapT (n M : Nat) (h : n = 2 * M) (hM : M ≤ 1000000) : wrap64 ((n : Int).tdiv 2) = (M : Int) := by
  rw [Int.tdiv_eq_ediv_of_nonneg (Int.natCast_nonneg n)]
  exact wrapD n M h hM
theorem tzM {z t M : Nat} (h : 1 + z = t) (h2 : z < M) : 1 ≤ t ∧ t ≤ M := by omega
theorem wrap1 (z : Nat) (h : z < 1000000) : wrap64 (1 + (z : Int)) = ((1 + z : Nat) : Int) := by unfold wrap64; omega
attribute [local go_sem] Oper.semAt_some
attribute [local go_sem ↓] toApI
set_option maxRecDepth 100000 in
set_option maxHeartbeats 6400000 in
/-- From region 12 on: the first loop. What comes behind region 19 is taken for granted (HT). -/
theorem gs12 (W X : World) {mE m0 kS kR kE a b g N gs K : Nat} {gv : Nat → Nat} {F : Nat → List Nat} {V : Nat → Value} {sv : Value} {S : List Nat} {st : Int} (hw : Gw W mE m0 kS kR kE a b g N gs K gv F V sv S st X) (hq : Gq N K F S)
    (HT : ∀ (U : World) (kA kD t n c : Nat) (o : Option Addr) (X' : Nat → Prop) {v0 v1 v2 v3 v4 v5 v6 v9 v10 v11 v14 v15 v16 v17 v18 v19 v20 v21 v22 v23 v24 v25 v26 v27 v28 v29 v30 v31 v32 v33 v34 v35 v36 v37 v38 v39 v40 v41 v42 v43 v44 v45 v46 v47 v48 v49 v50 v51 v52 v53 v54 v55 v56 v57 v58 v59 v60 v61 v62 v63 v64 v65 v66 v67 v68 v69 v70 v71 v72 v73 v74 v75 v76 v77 v78 v79 v80 v81 v82 v83 v84 v85 v86 v87 v88 v89 v90 v91 v92 v93 v94 v95 v96 v97 v98 v99 v100 v101 v102 v103 v104 v105 v106 v107 v108 v109 v110 v111 v112 v113 v114 v115 v116 v117 v118 v119 v120 v121 v122 v123 v124 v125 v126 v127 v128 v129 v130 v131 v132 v133 v134 v135 v136 : Value}, Gw W mE m0 kS kR kE a b g N gs K gv F V sv S (t : Int) U → Col (kA + 1) kA (eaL F S K) (eaL F S K).length o n c X' U → U.heap[kD]? = some (.deferred (some [])) → W.heap.size ≤ kD → kS < kA → kR < kA → kE < kA → m0 ≤ kA → 1 ≤ t → t ≤ (eaL F S K).length → Code.wp Try.prog (tlF Try.f3 20) (bodyPostM Fence.wide 9 Try.prog Try.f3 (fun e w' => e = .returned (.bool true) ∧ Below W.heap.size W w')) ⟨#[v0, v1, v2, v3, v4, v5, v6, .pointer (some ⟨kS, 0, none⟩), .pointer (some ⟨kR, 0, none⟩), v9, v10, v11, .pointer (some ⟨kE, 0, none⟩), .pointer (some ⟨kA, 0, none⟩), v14, v15, v16, v17, v18, v19, v20, v21, v22, v23, v24, v25, v26, v27, v28, v29, v30, v31, v32, v33, v34, v35, v36, v37, v38, v39, v40, v41, v42, v43, v44, v45, v46, v47, v48, v49, v50, v51, v52, v53, v54, v55, v56, v57, v58, v59, v60, v61, v62, v63, v64, v65, v66, v67, v68, v69, v70, v71, v72, v73, v74, v75, v76, v77, v78, v79, v80, v81, v82, v83, v84, v85, v86, v87, v88, v89, v90, v91, v92, v93, v94, v95, v96, v97, v98, v99, v100, v101, v102, v103, v104, v105, v106, v107, v108, v109, v110, v111, v112, v113, v114, v115, v116, v117, v118, v119, v120, v121, v122, v123, v124, v125, v126, v127, v128, v129, v130, v131, v132, v133, v134, v135, v136], [{ target := .collected kD, args := #[] }]⟩ U) {v0 v1 v2 v3 v4 v5 v6 v9 v10 v11 v13 v14 v15 v16 v17 v18 v19 v20 v21 v22 v23 v24 v25 v26 v27 v28 v29 v30 v31 v32 v33 v34 v35 v36 v37 v38 v39 v40 v41 v42 v43 v44 v45 v46 v47 v48 v49 v50 v51 v52 v53 v54 v55 v56 v57 v58 v59 v60 v61 v62 v63 v64 v65 v66 v67 v68 v69 v70 v71 v72 v73 v74 v75 v76 v77 v78 v79 v80 v81 v82 v83 v84 v85 v86 v87 v88 v89 v90 v91 v92 v93 v94 v95 v96 v97 v98 v99 v100 v101 v102 v103 v104 v105 v106 v107 v108 v109 v110 v111 v112 v113 v114 v115 v116 v117 v118 v119 v120 v121 v122 v123 v124 v125 v126 v127 v128 v129 v130 v131 v132 v133 v134 v135 v136 : Value} :
    Code.wp Try.prog (tlF Try.f3 12) (bodyPostM Fence.wide 9 Try.prog Try.f3 (fun e w' => e = .returned (.bool true) ∧ Below W.heap.size W w')) ⟨#[v0, v1, v2, v3, v4, v5, v6, .pointer (some ⟨kS, 0, none⟩), .pointer (some ⟨kR, 0, none⟩), v9, v10, v11, .pointer (some ⟨kE, 0, none⟩), v13, v14, v15, v16, v17, v18, v19, v20, v21, v22, v23, v24, v25, v26, v27, v28, v29, v30, v31, v32, v33, v34, v35, v36, v37, v38, v39, v40, v41, v42, v43, v44, v45, v46, v47, v48, v49, v50, v51, v52, v53, v54, v55, v56, v57, v58, v59, v60, v61, v62, v63, v64, v65, v66, v67, v68, v69, v70, v71, v72, v73, v74, v75, v76, v77, v78, v79, v80, v81, v82, v83, v84, v85, v86, v87, v88, v89, v90, v91, v92, v93, v94, v95, v96, v97, v98, v99, v100, v101, v102, v103, v104, v105, v106, v107, v108, v109, v110, v111, v112, v113, v114, v115, v116, v117, v118, v119, v120, v121, v122, v123, v124, v125, v126, v127, v128, v129, v130, v131, v132, v133, v134, v135, v136], []⟩ X := by
  obtain ⟨A, hA⟩ : ∃ A, X.alloc (.cells #[.slice none 0 0] 23) = A := ⟨_, rfl⟩
  obtain ⟨kA, hkA⟩ : ∃ k, X.heap.size = k := ⟨_, rfl⟩
  have bA : Below X.heap.size X A := by rw [← hA]; exact (Below.refl _ X).alloc (Nat.le_refl _) _
  have rA : A.heap[kA]? = some (.cells #[.slice none 0 0] 23 (0, 0)) := by rw [← hA, ← hkA]; exact heap_alloc_new _ _
  have sA : A.heap.size = kA + 1 := by rw [← hA, ← hkA]; simp
  have hwA := hw.below bA
  have cE : X.cell? ⟨kE, 0, none⟩ = some (.func (.func 11) #[] #[.pointer (some ⟨a, 0, none⟩), .pointer (some ⟨b, 0, none⟩)]) := (cell_of_row _ _ _ _ _ _ hw.e).trans rfl
  have cEA := cell_belowX bA cE
  have cEr := cEA
  rw [← hA] at cEr
  have HA := mkHid (And.intro bA (And.intro rA (And.intro sA (And.intro hwA (And.intro hq (And.intro hw hkA))))))
  replace hA := mkHid hA
  clear bA rA sA hwA hq hw
  conv => arg 2; whnf
  go_wp2_with fail
  try rw [hkA]
  try rw [hA.out]
  have hit := HA.out.2.2.2.2.2.1.iter HA.out.2.2.2.2.1 8 (by decide)
  refine wpIn_wide.1 (Rm.loop_out (F := Fence.wide) (n := 9) rfl (by decide) (gf := 11) (lb := #[.pointer (some ⟨a, 0, none⟩), .pointer (some ⟨b, 0, none⟩)]) rfl trivial (enters_of Try.func11 (by kernel_rfl) rfl) hit (fun _ hk => Nat.lt_of_lt_of_le hk.2 HA.out.2.2.2.2.2.1.m0) HA.out.1 (fun i x W l o o' h _ _ => h) (fun i x W l o o' h _ _ => trivial) (fun i x W h => by obtain ⟨_, _, rfl⟩ := h; rfl)
    (fun i X' U => ∃ (o : Option Addr) (n c : Nat), Col (kA + 1) kA (eaL F S K) i o n c X' U) (fun _ _ _ => False) (fun k => k = kA) ?hI ?hIx ⟨none, 0, 0, rfl, HA.out.2.1, by simpa [fl, ik] using World.ownsRow_nil A (kA + 1) 3 1, fun k => ⟨.inl, fun q => q.elim id (fun q => by cases q)⟩, Nat.lt_succ_self _⟩ ?hX0 ?hX1 ?round ?done ?stop)
  case hI =>
    rintro i X' U U2 ⟨o, n, c, hc⟩ hg
    exact ⟨o, n, c, hc.keep fun k hk hx => hg.blk k hk (.inr hx)⟩
  case hIx => exact fun _ _ _ _ h _ => h
  case hX0 => rintro k rfl; have := HA.out.2.2.1; omega
  case hX1 =>
    rintro k rfl hk
    have := HA.out.2.2.2.2.2.1.m0
    have := HA.out.2.2.2.2.2.2
    omega
  case stop => exact fun _ _ _ h => h.elim
  case round =>
    rintro l i x X' U hi ⟨p, hp, rfl⟩
    gi_wp2
    refine ⟨trivial, fun U2 hl hlw hlz hI hv2 hH hXl => ?_⟩
    obtain ⟨o, n, c, hc⟩ := hI
    have h2i := hc.len
    have hL := HA.out.2.2.2.2.1.hL
    have hsA := HA.out.2.2.1
    obtain ⟨o', c', w2, r1, rk, X2, f2, g2, hc2⟩ := hc.step hp (by omega) (by omega)
    have c1 : U2.cell? ⟨kA, 0, none⟩ = some (.slice o n c) := (cell_of_row _ _ _ _ _ _ hc.row).trans rfl
    have c1n := (World.cell?_of_block (w := U2) (a := ⟨kA, 0, none⟩) (heap_alloc_old U2 (.cells #[.int .i64 (p.1 : Int), .int .i64 (p.2 : Int)] 3) (h := (Array.getElem?_eq_some_iff.1 hc.row).1))).trans c1
    have c2 : w2.cell? ⟨kA, 0, none⟩ = some (.slice o n c) := (cell_of_row _ _ _ _ _ _ rk).trans rfl
    have f2f : w2.frozen? ⟨kA, 0, none⟩ = false := frozen_of_row _ _ _ _ _ rk
    have HR := mkHid (And.intro f2 (And.intro g2 hc2))
    clear f2 g2 hc2 hc h2i hL hsA rk hlw hlz hH hXl hv2 hl
    gi_wp2
    obtain ⟨q1, q2, q3⟩ := HR.out
    exact ⟨X2, q1.wide (fun _ _ h => .inl h), q2, ⟨o', _, c', q3⟩, trivial⟩
  case done =>
    rintro X' U ⟨o, n, c, hc⟩ hF hG hK
    have bXU : Below X.heap.size X U := by
      have h1 := hF.below (b := X.heap.size) HA.out.1.size (fun k hk => by have := HA.out.2.2.2.2.2.2; omega)
      exact HA.out.1.trans h1
    have hwU := HA.out.2.2.2.2.2.1.below bXU
    have c1 : U.cell? ⟨kA, 0, none⟩ = some (.slice o n c) := (cell_of_row _ _ _ _ _ _ hc.row).trans rfl
    have cS : U.cell? ⟨kS, 0, none⟩ = some (.int .i64 st) := (cell_of_row _ _ _ _ _ _ hwU.s).trans rfl
    have fS : U.frozen? ⟨kS, 0, none⟩ = false := frozen_of_row _ _ _ _ _ hwU.s
    obtain ⟨r, hr, hr2⟩ := and_ex65535 st
    have hn := hc.len
    have hp := HA.out.2.2.2.2.1.hp
    have hL := HA.out.2.2.2.2.1.hL
    obtain ⟨M, hM⟩ : ∃ M, (eaL F S K).length = M := ⟨_, rfl⟩
    rw [hM] at hn hp hL hc
    have n2 : ¬ (n : Int) < 2 := by omega
    have n2' : ¬ n < 2 := by omega
    have q1 : wrap64 ((n : Int).tdiv 2) = (M : Int) := wrapT n M hn hL
    have q1e : wrap64 ((n : Int) / 2) = (M : Int) := wrapD n M hn hL
    obtain ⟨z, hz⟩ : ∃ z, r % M = z := ⟨_, rfl⟩
    have hzM : z < M := by rw [← hz]; exact Nat.mod_lt r hp
    have q2 := tmod_n r M hr2
    rw [hz] at q2
    have q2e : (r : Int) % (M : Int) = (z : Int) := by rw [← hz]; simp
    have q3 : ¬ ((M : Int) = 0) := by omega
    have q4 : wrap64 (1 + (z : Int)) = ((1 + z : Nat) : Int) := wrap1 z (Nat.lt_of_lt_of_le hzM hL)
    obtain ⟨t, ht⟩ : ∃ t, 1 + z = t := ⟨_, rfl⟩
    rw [ht] at q4
    have ht2 : 1 ≤ t ∧ t ≤ M := tzM ht hzM
    obtain ⟨Y, hY⟩ : ∃ Y, U.setCell ⟨kS, 0, none⟩ (.int .i64 (t : Int)) = Y := ⟨_, rfl⟩
    have oth : ∀ k, k ≠ kS → Y.heap[k]? = U.heap[k]? := fun k hk => by rw [← hY]; exact heap_setCell_other U ⟨kS, 0, none⟩ k _ hk
    have eY := setCell_eq_setRow U kS 0 _ _ _ (.int .i64 (t : Int)) hwU.s
    have sY : Y.heap.size = U.heap.size := by rw [← hY]; simp
    have lS : kS < X.heap.size := (Array.getElem?_eq_some_iff.1 HA.out.2.2.2.2.2.1.s).1
    have lR : kR < X.heap.size := (Array.getElem?_eq_some_iff.1 HA.out.2.2.2.2.2.1.r).1
    have lE : kE < X.heap.size := (Array.getElem?_eq_some_iff.1 HA.out.2.2.2.2.2.1.e).1
    have hXA := HA.out.2.2.2.2.2.2
    have hm0 := HA.out.2.2.2.2.2.1.m0
    have hneE : kE ≠ kS := fun e => by
      have h1 := hwU.e
      rw [e, hwU.s] at h1
      cases h1
    have HT2 : Hid (Gw W mE m0 kS kR kE a b g N gs K gv F V sv S (t : Int) Y ∧ Col (kA + 1) kA (eaL F S K) (eaL F S K).length o n c X' Y ∧ Y.heap[A.heap.size]? = some (.deferred (some [])) ∧ W.heap.size ≤ A.heap.size ∧ 1 ≤ t ∧ t ≤ (eaL F S K).length) := by
      have hsA := HA.out.2.2.1
      have hbX := HA.out.2.2.2.2.2.1.bel.size
      refine ⟨⟨?_, ?_, (oth kR hwU.ne.symm).trans hwU.r, (oth kE hneE).trans hwU.e, ?_, ?_, hwU.hS0, hwU.hR0, hwU.ne, hwU.sE⟩, ?_, ?_, ?_, ht2.1, by rw [hM]; exact ht2.2⟩
      · rw [← hY]
        exact hwU.bel.setCell (p := ⟨kS, 0, none⟩) (by show W.heap.size ≤ kS; exact hwU.hS0) _
      · rw [← hY, eY, setRow_heap _ _ _ _ _ _ hwU.s]
        rfl
      · exact hwU.eas.keep (by rw [sY]; exact Nat.le_refl _) (fun k hk => oth k (fun e => by have := hwU.sE; omega))
      · rw [sY]; exact hwU.m0
      · rw [hM]
        refine hc.keep fun k hk hx => oth k fun e => ?_
        rcases (hc.xs k).1 hx with q | q
        · omega
        · have := (hc.blkB q).1
          omega
      · rw [oth _ (by omega)]
        exact hK
      · omega
    clear hc hwU hK bXU hM hn hp hL hr2 hF hG hz hzM ht ht2 oth eY sY
    go_upto_region 19 with fail
    rename_i K2 hk2
    have HK2 := mkHid hk2
    clear hk2
    have lt3 : kS < kA ∧ kR < kA ∧ kE < kA ∧ m0 ≤ kA := by rw [← hXA]; exact ⟨lS, lR, lE, hm0⟩
    clear lS lR lE hm0
    go_wp2_with fail
    exact HK2.out _ _ (HT Y kA A.heap.size t n c o X' HT2.out.1 HT2.out.2.1 HT2.out.2.2.1 HT2.out.2.2.2.1 lt3.1 lt3.2.1 lt3.2.2.1 lt3.2.2.2 HT2.out.2.2.2.2.1 HT2.out.2.2.2.2.2)
end Go.Proofs.Ytllakhambjahgaa
