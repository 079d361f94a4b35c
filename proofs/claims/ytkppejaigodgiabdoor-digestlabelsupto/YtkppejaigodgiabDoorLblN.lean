/- DigestLabels' walk: from the sum on. -/
import Derived.Test.YtkppejaigodgiabDoorLblS
import Derived.Deep.DeepCutAuto
namespace Go.Proofs.YtkppejaigodgiabDoor.Lbl
open Go.RowKit
open Go.Proofs.YtkppejaigodgiabDoor.Sha (fromR headR below_setRow Tb Took sha roundN startN mixOK startN_wrd sum_took of_tb sha_len sha_byt)
open Go.Proofs.YtkppejaigodgiabDoor.Big (fold foldC_any foldk_len foldk_byt bytes_any size51)
theorem b32L_byt' (s : List Nat) : ∀ c ∈ b32L s, c < 256 := fun c hc => by
  have hD32 : ∀ x ∈ D32, x < 256 := by decide
  obtain ⟨j, _, rfl⟩ := List.mem_map.1 hc
  exact mem_idx hD32 (by rw [kv_g32 ⟨_, v32_lt s _⟩]; exact v32_lt s _)
theorem un32_f (d : List Nat) (hb : Byt d) (hl : d.length = 20) (w : World) (ht : Tx w) : Calls Tryd.prog 21 #[.string (str (b32L d))] w (RdP d (0, 0) w) := by
  have := un32_any (str (b32L d)) (by rw [str_size, b32L_len, hl]; decide) w ht
  rw [byt_str _ (b32L_byt' d), (b32_back d hb).1, (b32_back d hb).2] at this
  exact this
def st51 (p v : Value) : Sem Unit := Instr.storeAt 51 p v
theorem to51 (p v : Value) : Instr.storeAt 51 p v = st51 p v := rfl
theorem run_st51 (w : World) (g : Nat) (cs : Array Value) (l : List Nat) (hg : w.heap[g]? = some (.cells cs 51 (0, 0))) (h1 : cs.size = 20) (h2 : l.length = 20) : (st51 (.pointer (some ⟨g, 0, none⟩)) (.agg (bs l))).run Tryd.prog w = .ok () (w.setRow g (bs l)) := by
  unfold st51
  simp only [Instr.storeAt, Instr.sureAddr, Sem.run_bind, Sem.run_pure, Result.andThen_ok, run_storeVar_row w g 51 51 cs (bs l) hg (by rw [size51, bs_size, h2]) (by rw [bs_size, h1, h2]) (bs_one _)]
theorem at_dst {ops : Array Oper} {j d : Nat} (h : (ops[j]?).bind (·.dst) = some d) : ∃ o, ops[j]? = some o ∧ o.dst = some d := by
  cases hc : ops[j]? with
  | none => rw [hc] at h; cases h
  | some o => rw [hc] at h; exact ⟨o, rfl, h⟩
/-- What holds from the sums on. -/
structure Iv (m S F : List Nat) (av bv : Value) (A B : Nat) (W0 W : World) : Prop where
  bel : Below W0.heap.size W0 W
  tx : Tx W
  tb : Tb W
  a : W.heap[A]? = some (.cells (bs S) 24 (0, 0))
  b : W.heap[B]? = some (.cells (bs F) 51 (0, 0))
  yv : YtkppejaigodgiabDoor.Byl av m W
  yb : YtkppejaigodgiabDoor.Byl bv F W
theorem Iv.below {m S F : List Nat} {av bv : Value} {A B : Nat} {W0 W W' : World} (h : Iv m S F av bv A B W0 W) (b : Below W.heap.size W W') : Iv m S F av bv A B W0 W' :=
  ⟨h.bel.trans (b.mono h.bel.size), h.tx.below b h.tx.sz, h.tb.below b h.tb.sz, (b.block A (Array.getElem?_eq_some_iff.1 h.a).1).trans h.a, (b.block B (Array.getElem?_eq_some_iff.1 h.b).1).trans h.b, h.yv.below b, h.yb.below b⟩
noncomputable def tail8 : Code := ((Tryd.f7.body.bind (fromR 8)).getD .skip)
attribute [local go_sem ↓] toLd toSt to51
set_option maxRecDepth 100000 in
set_option maxHeartbeats 3200000 in
theorem tailN (m : List Nat) (hmb : Byt m) (hml : m.length ≤ 1048576) (f a : Int) (dg : Nat) (hdg : dg < 256) (gh G : Nat) (av : Value) (v0 v4 v5 v6 v7 v8 v11 v12 v13 v14 v15 v16 v17 v18 v19 v20 v21 v22 v23 v24 v25 v26 v27 v28 v29 v30 v31 v32 v33 v34 v35 v36 v37 v38 v39 v40 v41 v42 v43 v44 v45 v46 v47 v48 v49 v50 v51 v52 v53 v54 v55 v56 v57 v58 v59 v60 v61 v62 v63 v64 v65 v66 v67 v68 v69 v70 v71 v72 v73 v74 v75 v76 v77 v78 v79 v80 v81 v82 v83 v84 v85 v86 v87 v88 v89 v90 v91 v92 v93 v94 v95 v96 v97 v98 v99 v100 v101 v102 v103 v104 v105 v106 v107 v108 v109 v110 v111 v112 v113 v114 v115 v116 v117 v118 v119 v120 v121 v122 v123 v124 v125 v126 v127 v128 v129 v130 v131 v132 v133 v134 v135 v136 v137 v138 v139 v140 v141 : Value) (W : World) (hG : G ≤ W.heap.size) (tb : Hid (Tb W)) (tx : Hid (Tx W)) (tk : Hid (Took roundN startN m gh W)) (yv : Hid (YtkppejaigodgiabDoor.Byl av m W))
    (R : Ending → World → Prop) (hR : Hid (∀ w', Below G W w' → R (.returned (.bool true)) w')) :
    Code.wp Tryd.prog tail8 (bodyPost Tryd.prog Tryd.f7 R) ⟨#[v0, .int .i64 f, .int .i64 a, .int .u8 (dg : Int), v4, v5, v6, v7, v8, .pointer (some ⟨gh, 0, none⟩), av, v11, v12, v13, v14, v15, v16, v17, v18, v19, v20, v21, v22, v23, v24, v25, v26, v27, v28, v29, v30, v31, v32, v33, v34, v35, v36, v37, v38, v39, v40, v41, v42, v43, v44, v45, v46, v47, v48, v49, v50, v51, v52, v53, v54, v55, v56, v57, v58, v59, v60, v61, v62, v63, v64, v65, v66, v67, v68, v69, v70, v71, v72, v73, v74, v75, v76, v77, v78, v79, v80, v81, v82, v83, v84, v85, v86, v87, v88, v89, v90, v91, v92, v93, v94, v95, v96, v97, v98, v99, v100, v101, v102, v103, v104, v105, v106, v107, v108, v109, v110, v111, v112, v113, v114, v115, v116, v117, v118, v119, v120, v121, v122, v123, v124, v125, v126, v127, v128, v129, v130, v131, v132, v133, v134, v135, v136, v137, v138, v139, v140, v141], []⟩ W := by
  obtain ⟨S, hS⟩ : ∃ S, S = sha m := ⟨_, rfl⟩
  have hSl : S.length = 32 := by rw [hS]; exact sha_len m
  have hSb : Byt S := by rw [hS]; exact sha_byt m
  have C1 : Hid (Calls Tryd.prog 30 #[.pointer (some ⟨gh, 0, none⟩)] W fun e w' => e = .returned (.agg (bs S)) ∧ Below W.heap.size W w') := by
    rw [hS]
    exact sum_took roundN startN mixOK rfl startN_wrd gh m (by omega) W tb.out.sz tb.out.s tb.out.k tk.out
  obtain ⟨F, hF⟩ : ∃ F, F = fold S := ⟨_, rfl⟩
  have hFl : F.length = 20 := by rw [hF]; exact foldk_len _ _
  have hFb : Byt F := by rw [hF]; exact foldk_byt _ hSb _
  have C2 : Hid (∀ W, Calls Tryd.prog 31 #[.agg (bs S)] W fun e w' => e = .returned (.agg (bs F)) ∧ Below W.heap.size W w') := fun W => by rw [hF]; exact foldC_any S hSl hSb W
  have HS : Hid (S = sha m) := hS
  clear hF hS
  conv => arg 2; whnf
  go_wp2_with fail
  refine C1.out.mono ?_
  rintro e W1 ⟨rfl, b1⟩
  have tx1 := tx.out.below b1 tx.out.sz
  have tb1 := tb.out.below b1 tb.out.sz
  have yv1 := yv.out.below b1
  have hst : (stR (.pointer (some ⟨W1.heap.size, 0, none⟩)) (.agg (bs S))).run Tryd.prog (W1.alloc (.cells #[Value.int IntKind.u8 0, Value.int IntKind.u8 0, Value.int IntKind.u8 0, Value.int IntKind.u8 0, Value.int IntKind.u8 0, Value.int IntKind.u8 0, Value.int IntKind.u8 0, Value.int IntKind.u8 0, Value.int IntKind.u8 0, Value.int IntKind.u8 0, Value.int IntKind.u8 0, Value.int IntKind.u8 0, Value.int IntKind.u8 0, Value.int IntKind.u8 0, Value.int IntKind.u8 0, Value.int IntKind.u8 0, Value.int IntKind.u8 0, Value.int IntKind.u8 0, Value.int IntKind.u8 0, Value.int IntKind.u8 0, Value.int IntKind.u8 0, Value.int IntKind.u8 0, Value.int IntKind.u8 0, Value.int IntKind.u8 0, Value.int IntKind.u8 0, Value.int IntKind.u8 0, Value.int IntKind.u8 0, Value.int IntKind.u8 0, Value.int IntKind.u8 0, Value.int IntKind.u8 0, Value.int IntKind.u8 0, Value.int IntKind.u8 0] 24)) = .ok () ((W1.alloc (.cells #[Value.int IntKind.u8 0, Value.int IntKind.u8 0, Value.int IntKind.u8 0, Value.int IntKind.u8 0, Value.int IntKind.u8 0, Value.int IntKind.u8 0, Value.int IntKind.u8 0, Value.int IntKind.u8 0, Value.int IntKind.u8 0, Value.int IntKind.u8 0, Value.int IntKind.u8 0, Value.int IntKind.u8 0, Value.int IntKind.u8 0, Value.int IntKind.u8 0, Value.int IntKind.u8 0, Value.int IntKind.u8 0, Value.int IntKind.u8 0, Value.int IntKind.u8 0, Value.int IntKind.u8 0, Value.int IntKind.u8 0, Value.int IntKind.u8 0, Value.int IntKind.u8 0, Value.int IntKind.u8 0, Value.int IntKind.u8 0, Value.int IntKind.u8 0, Value.int IntKind.u8 0, Value.int IntKind.u8 0, Value.int IntKind.u8 0, Value.int IntKind.u8 0, Value.int IntKind.u8 0, Value.int IntKind.u8 0, Value.int IntKind.u8 0] 24)).setRow W1.heap.size (bs S)) := run_st' _ _ _ S (heap_alloc_new _ _) rfl hSl
  have r2 : ((W1.alloc (.cells #[Value.int IntKind.u8 0, Value.int IntKind.u8 0, Value.int IntKind.u8 0, Value.int IntKind.u8 0, Value.int IntKind.u8 0, Value.int IntKind.u8 0, Value.int IntKind.u8 0, Value.int IntKind.u8 0, Value.int IntKind.u8 0, Value.int IntKind.u8 0, Value.int IntKind.u8 0, Value.int IntKind.u8 0, Value.int IntKind.u8 0, Value.int IntKind.u8 0, Value.int IntKind.u8 0, Value.int IntKind.u8 0, Value.int IntKind.u8 0, Value.int IntKind.u8 0, Value.int IntKind.u8 0, Value.int IntKind.u8 0, Value.int IntKind.u8 0, Value.int IntKind.u8 0, Value.int IntKind.u8 0, Value.int IntKind.u8 0, Value.int IntKind.u8 0, Value.int IntKind.u8 0, Value.int IntKind.u8 0, Value.int IntKind.u8 0, Value.int IntKind.u8 0, Value.int IntKind.u8 0, Value.int IntKind.u8 0, Value.int IntKind.u8 0] 24)).setRow W1.heap.size (bs S)).heap[W1.heap.size]? = some (.cells (bs S) 24 (0, 0)) := setRow_heap _ _ _ _ _ _ (heap_alloc_new _ _)
  have b2 : Below W1.heap.size W1 ((W1.alloc (.cells #[Value.int IntKind.u8 0, Value.int IntKind.u8 0, Value.int IntKind.u8 0, Value.int IntKind.u8 0, Value.int IntKind.u8 0, Value.int IntKind.u8 0, Value.int IntKind.u8 0, Value.int IntKind.u8 0, Value.int IntKind.u8 0, Value.int IntKind.u8 0, Value.int IntKind.u8 0, Value.int IntKind.u8 0, Value.int IntKind.u8 0, Value.int IntKind.u8 0, Value.int IntKind.u8 0, Value.int IntKind.u8 0, Value.int IntKind.u8 0, Value.int IntKind.u8 0, Value.int IntKind.u8 0, Value.int IntKind.u8 0, Value.int IntKind.u8 0, Value.int IntKind.u8 0, Value.int IntKind.u8 0, Value.int IntKind.u8 0, Value.int IntKind.u8 0, Value.int IntKind.u8 0, Value.int IntKind.u8 0, Value.int IntKind.u8 0, Value.int IntKind.u8 0, Value.int IntKind.u8 0, Value.int IntKind.u8 0, Value.int IntKind.u8 0] 24)).setRow W1.heap.size (bs S)) := below_setRow ((Below.refl _ W1).alloc (Nat.le_refl _) _) (Nat.le_refl _) _
  generalize hW2 : (W1.alloc (.cells #[Value.int IntKind.u8 0, Value.int IntKind.u8 0, Value.int IntKind.u8 0, Value.int IntKind.u8 0, Value.int IntKind.u8 0, Value.int IntKind.u8 0, Value.int IntKind.u8 0, Value.int IntKind.u8 0, Value.int IntKind.u8 0, Value.int IntKind.u8 0, Value.int IntKind.u8 0, Value.int IntKind.u8 0, Value.int IntKind.u8 0, Value.int IntKind.u8 0, Value.int IntKind.u8 0, Value.int IntKind.u8 0, Value.int IntKind.u8 0, Value.int IntKind.u8 0, Value.int IntKind.u8 0, Value.int IntKind.u8 0, Value.int IntKind.u8 0, Value.int IntKind.u8 0, Value.int IntKind.u8 0, Value.int IntKind.u8 0, Value.int IntKind.u8 0, Value.int IntKind.u8 0, Value.int IntKind.u8 0, Value.int IntKind.u8 0, Value.int IntKind.u8 0, Value.int IntKind.u8 0, Value.int IntKind.u8 0, Value.int IntKind.u8 0] 24)).setRow W1.heap.size (bs S) = W2 at hst r2 b2
  clear hW2
  obtain ⟨A, hA⟩ : ∃ A, A = W1.heap.size := ⟨_, rfl⟩
  have hA0 : Hid (W.heap.size ≤ A) := by rw [hA]; exact b1.size
  have hst' : (stR (.pointer (some ⟨A, 0, none⟩)) (.agg (bs S))).run Tryd.prog (W1.alloc (.cells #[Value.int IntKind.u8 0, Value.int IntKind.u8 0, Value.int IntKind.u8 0, Value.int IntKind.u8 0, Value.int IntKind.u8 0, Value.int IntKind.u8 0, Value.int IntKind.u8 0, Value.int IntKind.u8 0, Value.int IntKind.u8 0, Value.int IntKind.u8 0, Value.int IntKind.u8 0, Value.int IntKind.u8 0, Value.int IntKind.u8 0, Value.int IntKind.u8 0, Value.int IntKind.u8 0, Value.int IntKind.u8 0, Value.int IntKind.u8 0, Value.int IntKind.u8 0, Value.int IntKind.u8 0, Value.int IntKind.u8 0, Value.int IntKind.u8 0, Value.int IntKind.u8 0, Value.int IntKind.u8 0, Value.int IntKind.u8 0, Value.int IntKind.u8 0, Value.int IntKind.u8 0, Value.int IntKind.u8 0, Value.int IntKind.u8 0, Value.int IntKind.u8 0, Value.int IntKind.u8 0, Value.int IntKind.u8 0, Value.int IntKind.u8 0] 24)) = .ok () W2 := by rw [hA]; exact hst
  have r2' : Hid (W2.heap[A]? = some (.cells (bs S) 24 (0, 0))) := by rw [hA]; exact r2
  have hld2 := run_ld W2 A S r2'.out hSl
  have tx2 := tx1.below b2 tx1.sz
  have tb2 := tb1.below b2 tb1.sz
  have yv2 := yv1.below b2
  have bb2 := b1.trans (b2.mono b1.size)
  rw [hA] at hld2
  have TX2 : Hid (Tx W2) := tx2
  have TB2 : Hid (Tb W2) := tb2
  have YV2 : Hid (YtkppejaigodgiabDoor.Byl av m W2) := yv2
  have BB2 : Hid (Below W.heap.size W W2) := bb2
  clear tx1 tb1 yv1 b2 r2 hst' tx2 tb2 yv2 bb2 b1
  go_wp2_with fail
  rw [← hA] at hld2
  refine (C2.out W2).mono ?_
  rintro e W3 ⟨rfl, b3⟩
  have rA3 : Hid (W3.heap[A]? = some (.cells (bs S) 24 (0, 0))) := (b3.block A (Array.getElem?_eq_some_iff.1 r2'.out).1).trans r2'.out
  have tx3 := TX2.out.below b3 TX2.out.sz
  have tb3 := TB2.out.below b3 TB2.out.sz
  have yv3 := YV2.out.below b3
  have bb3 := BB2.out.trans (b3.mono BB2.out.size)
  have hst3 : (st51 (.pointer (some ⟨W3.heap.size, 0, none⟩)) (.agg (bs F))).run Tryd.prog (W3.alloc (.cells #[Value.int IntKind.u8 0, Value.int IntKind.u8 0, Value.int IntKind.u8 0, Value.int IntKind.u8 0, Value.int IntKind.u8 0, Value.int IntKind.u8 0, Value.int IntKind.u8 0, Value.int IntKind.u8 0, Value.int IntKind.u8 0, Value.int IntKind.u8 0, Value.int IntKind.u8 0, Value.int IntKind.u8 0, Value.int IntKind.u8 0, Value.int IntKind.u8 0, Value.int IntKind.u8 0, Value.int IntKind.u8 0, Value.int IntKind.u8 0, Value.int IntKind.u8 0, Value.int IntKind.u8 0, Value.int IntKind.u8 0] 51)) = .ok () ((W3.alloc (.cells #[Value.int IntKind.u8 0, Value.int IntKind.u8 0, Value.int IntKind.u8 0, Value.int IntKind.u8 0, Value.int IntKind.u8 0, Value.int IntKind.u8 0, Value.int IntKind.u8 0, Value.int IntKind.u8 0, Value.int IntKind.u8 0, Value.int IntKind.u8 0, Value.int IntKind.u8 0, Value.int IntKind.u8 0, Value.int IntKind.u8 0, Value.int IntKind.u8 0, Value.int IntKind.u8 0, Value.int IntKind.u8 0, Value.int IntKind.u8 0, Value.int IntKind.u8 0, Value.int IntKind.u8 0, Value.int IntKind.u8 0] 51)).setRow W3.heap.size (bs F)) := run_st51 _ _ _ F (heap_alloc_new _ _) rfl hFl
  have r4 : ((W3.alloc (.cells #[Value.int IntKind.u8 0, Value.int IntKind.u8 0, Value.int IntKind.u8 0, Value.int IntKind.u8 0, Value.int IntKind.u8 0, Value.int IntKind.u8 0, Value.int IntKind.u8 0, Value.int IntKind.u8 0, Value.int IntKind.u8 0, Value.int IntKind.u8 0, Value.int IntKind.u8 0, Value.int IntKind.u8 0, Value.int IntKind.u8 0, Value.int IntKind.u8 0, Value.int IntKind.u8 0, Value.int IntKind.u8 0, Value.int IntKind.u8 0, Value.int IntKind.u8 0, Value.int IntKind.u8 0, Value.int IntKind.u8 0] 51)).setRow W3.heap.size (bs F)).heap[W3.heap.size]? = some (.cells (bs F) 51 (0, 0)) := setRow_heap _ _ _ _ _ _ (heap_alloc_new _ _)
  have b4 : Below W3.heap.size W3 ((W3.alloc (.cells #[Value.int IntKind.u8 0, Value.int IntKind.u8 0, Value.int IntKind.u8 0, Value.int IntKind.u8 0, Value.int IntKind.u8 0, Value.int IntKind.u8 0, Value.int IntKind.u8 0, Value.int IntKind.u8 0, Value.int IntKind.u8 0, Value.int IntKind.u8 0, Value.int IntKind.u8 0, Value.int IntKind.u8 0, Value.int IntKind.u8 0, Value.int IntKind.u8 0, Value.int IntKind.u8 0, Value.int IntKind.u8 0, Value.int IntKind.u8 0, Value.int IntKind.u8 0, Value.int IntKind.u8 0, Value.int IntKind.u8 0] 51)).setRow W3.heap.size (bs F)) := below_setRow ((Below.refl _ W3).alloc (Nat.le_refl _) _) (Nat.le_refl _) _
  generalize hW4 : (W3.alloc (.cells #[Value.int IntKind.u8 0, Value.int IntKind.u8 0, Value.int IntKind.u8 0, Value.int IntKind.u8 0, Value.int IntKind.u8 0, Value.int IntKind.u8 0, Value.int IntKind.u8 0, Value.int IntKind.u8 0, Value.int IntKind.u8 0, Value.int IntKind.u8 0, Value.int IntKind.u8 0, Value.int IntKind.u8 0, Value.int IntKind.u8 0, Value.int IntKind.u8 0, Value.int IntKind.u8 0, Value.int IntKind.u8 0, Value.int IntKind.u8 0, Value.int IntKind.u8 0, Value.int IntKind.u8 0, Value.int IntKind.u8 0] 51)).setRow W3.heap.size (bs F) = W4 at hst3 r4 b4
  clear hW4
  have tx4 := tx3.below b4 tx3.sz
  have tb4 := tb3.below b4 tb3.sz
  have yv4 := yv3.below b4
  have bb4 := bb3.trans (b4.mono bb3.size)
  have rA4 : W4.heap[A]? = some (.cells (bs S) 24 (0, 0)) := (b4.block A (Array.getElem?_eq_some_iff.1 rA3.out).1).trans rA3.out
  have yF : YtkppejaigodgiabDoor.Byl (.slice (some ⟨W3.heap.size, 0, none⟩) 20 20) F W4 := by
    have := byl_row (l := F) r4 (by rw [hFl]; decide)
    rw [hFl] at this
    exact this
  obtain ⟨P, hP⟩ : ∃ P, P = str (b32L F) := ⟨_, rfl⟩
  have hPs : P.size = 32 := by rw [hP, str_size, b32L_len, hFl]; decide
  have C3 : Hid (Calls Tryd.prog 12 #[.slice (some ⟨W3.heap.size, 0, none⟩) 20 20] W4 fun e w' => e = .returned (.string P) ∧ Below W4.heap.size W4 w') := by
    rw [hP]; exact b32C_any F hFb (by omega) _ W4 yF tx4
  have C4 : Hid (∀ W, Tx W → Calls Tryd.prog 21 #[.string P] W (RdP F (0, 0) W)) := fun W h => by rw [hP]; exact un32_f F hFb hFl W h
  obtain ⟨B, hB⟩ : ∃ B, B = W3.heap.size := ⟨_, rfl⟩
  have R4 : Hid (W4.heap[B]? = some (.cells (bs F) 51 (0, 0))) := by rw [hB]; exact r4
  have J4 : Hid (Iv m S F av (.slice none 0 0) A B W W4 ∨ True) := .inr trivial
  have TX4 : Hid (Tx W4) := tx4
  have TB4 : Hid (Tb W4) := tb4
  have YV4 : Hid (YtkppejaigodgiabDoor.Byl av m W4) := yv4
  have BB4 : Hid (Below W.heap.size W W4) := bb4
  have RA4 : Hid (W4.heap[A]? = some (.cells (bs S) 24 (0, 0))) := rA4
  clear hP r4 b3 tx3 tb3 yv3 bb3 tx4 tb4 yv4 bb4 rA4 yF b4 rA3 C1 C2 TX2 TB2 YV2 BB2 r2' J4
  go_wp2_with fail
  refine C3.out.mono ?_
  rintro e W5 ⟨rfl, b5⟩
  have tx5 := TX4.out.below b5 TX4.out.sz
  go_wp2_with fail
  refine (C4.out W5 tx5).mono ?_
  rintro e W6 ⟨b6, bv, rfl, hown⟩
  rw [if_pos rfl] at hown
  have J6 : Iv m S F av bv A B W W6 := by
    have b56 := b5.trans (b6.mono b5.size)
    exact ⟨BB4.out.trans (b56.mono BB4.out.size), tx5.below b6 tx5.sz, TB4.out.below b56 TB4.out.sz, (b56.block A (Array.getElem?_eq_some_iff.1 RA4.out).1).trans RA4.out, (b56.block B (Array.getElem?_eq_some_iff.1 R4.out).1).trans R4.out, YV4.out.below b56, (byl_own hown).1⟩
  have HJ6 : Hid (Iv m S F av bv A B W W6) := J6
  clear C3 C4 TX4 TB4 YV4 BB4 RA4 R4 tx5 b5 b6 hown J6
  subst hA
  subst hB
  go_wp2_with fail
  have hqS : ∀ W, (Op.equalIn 10000 24 (.agg (bs S)) (.agg (bs S))).run Tryd.prog W = .ok true W := fun W => by have := eq24 W S S hSl hSl; simpa using this
  refine wp_region_rel (ops := reg12) (V := V12 S av bv P W3.heap.size) (S := Iv m S F av bv W1.heap.size W3.heap.size W) (T := fun u u' => Below u.heap.size u u') (by kernel_rfl) (V12_stab S av bv P _) (fun i o ho => (okR_at okR12 ho).1) (fun i j o oj e ho hj q1 q2 => (okR_at okR12 ho).2.2 j oj e hj q1 q2) (fun i o e ho q => (okR_at okR12 ho).2.1 e q)
    (step12 _ S av bv P _ _ _ _ rfl rfl rfl rfl rfl rfl hPs (fun W W' h hb => h.below hb) (fun W h => run_ld W _ S h.a hSl) hqS
      (fun W h => by rw [HS.out]; exact of_tb m av (by omega) hmb W h.tb h.yv)
      (fun W h => (bytes_any F F (by omega) bv _ W h.yb (by have := byl_row (l := F) h.b (by rw [hFl]; decide); rw [hFl] at this; exact this)).mono fun e w' ⟨h1, h2⟩ => ⟨by rw [h1]; simp, h2⟩)) (HJ6.out.below (Below.refl _ W6).drew) ?_
  intro X W7 J7 hX
  obtain ⟨o18, ho18, hd18⟩ := at_dst (ops := reg12) (j := 18) (d := 71) (by kernel_rfl)
  have e18 : X 18 = .bool false := hX 18 o18 71 ho18 hd18
  rw [put12, e18]
  have T7 : Hid (Tx W7) := J7.tx
  have A7 : Hid (W7.heap[W1.heap.size]? = some (.cells (bs S) 24 (0, 0))) := J7.a
  have B7 : Below W.heap.size W W7 := J7.bel
  clear hX e18 HJ6 hqS J7 hst3 hld2 hst ho18 hd18
  have hG7 : W.heap.size ≤ W1.heap.size := hA0.out
  have hb1 : f.tmod 3 < 3 := Int.tmod_lt_of_pos f (by decide)
  have hb2 : -3 < f.tmod 3 := Int.lt_tmod_of_pos f (by decide)
  obtain ⟨φ, hφ, hform⟩ : ∃ φ : Nat, φ < 3 ∧ (f.tmod 3 = (φ : Int) ∨ (f.tmod 3 < 0 ∧ f.tmod 3 + 3 = (φ : Int))) := by
    by_cases h0 : f.tmod 3 < 0
    · exact ⟨(f.tmod 3 + 3).toNat, by omega, .inr ⟨h0, by omega⟩⟩
    · exact ⟨(f.tmod 3).toNat, by omega, .inl (by omega)⟩
  obtain ⟨q, hq⟩ : ∃ q, f.tmod 3 = q := ⟨_, rfl⟩
  rw [hq] at hform hb1 hb2
  have hR7 : Hid (∀ w', Below W.heap.size W7 w' → R (.returned (.bool true)) w') := fun w' h => hR.out w' ((B7.trans h).mono hG)
  rcases hform with hf | ⟨hneg, hf⟩
  · have hq0 : ¬ q < 0 := by omega
    subst hf
    go_upto_if 75 with fail
    rename_i K hKK
    have HT : Hid (∀ a w, Code.wp Tryd.prog tail7 (bodyPost Tryd.prog Tryd.f7 R) a w → K a w) := hKK
    clear hKK
    go_wp2_with fail
    refine HT.out _ _ ?_
    exact tailL S hSl hSb φ hφ a dg hdg W1.heap.size W.heap.size hG7 _ _ _ _ _ _ _ _ _ _ _ _ _ _ _ _ _ _ _ _ _ _ _ _ _ _ _ _ _ _ _ _ _ _ _ _ _ _ _ _ _ _ _ _ _ _ _ _ _ _ _ _ _ _ _ _ _ _ _ _ _ _ _ _ _ _ _ _ _ _ _ _ _ _ _ _ _ _ _ _ _ _ _ _ _ _ _ _ _ _ _ _ _ _ _ _ _ _ _ _ _ _ _ _ _ _ _ _ _ _ _ _ _ _ _ _ _ _ _ _ _ _ _ _ _ _ _ _ _ _ _ _ _ _ _ _ _ _ W7 T7 A7 R hR7
  · have hw : IntKind.i64.wrap (q + 3) = (φ : Int) := by rw [hf, IntKind.wrap_i64]; omega
    go_upto_if 75 with fail
    rename_i K hKK
    have HT : Hid (∀ a w, Code.wp Tryd.prog tail7 (bodyPost Tryd.prog Tryd.f7 R) a w → K a w) := hKK
    clear hKK
    go_wp2_with fail
    refine HT.out _ _ ?_
    exact tailL S hSl hSb φ hφ a dg hdg W1.heap.size W.heap.size hG7 _ _ _ _ _ _ _ _ _ _ _ _ _ _ _ _ _ _ _ _ _ _ _ _ _ _ _ _ _ _ _ _ _ _ _ _ _ _ _ _ _ _ _ _ _ _ _ _ _ _ _ _ _ _ _ _ _ _ _ _ _ _ _ _ _ _ _ _ _ _ _ _ _ _ _ _ _ _ _ _ _ _ _ _ _ _ _ _ _ _ _ _ _ _ _ _ _ _ _ _ _ _ _ _ _ _ _ _ _ _ _ _ _ _ _ _ _ _ _ _ _ _ _ _ _ _ _ _ _ _ _ _ _ _ _ _ _ _ W7 T7 A7 R hR7
end Go.Proofs.YtkppejaigodgiabDoor.Lbl
