/- DigestLabels' walk: its last part, the text read, turned at one place and read again. -/
import Derived.Test.YtkppejaigodgiabDoorRd
import Derived.Test.YtkppejaigodgiabDoorShTc
import Derived.Lib.ConvBytes
namespace Go.Proofs.YtkppejaigodgiabDoor.Lbl
open Go.RowKit
open Go.Proofs.YtkppejaigodgiabDoor.Sha (fromR headR below_setRow)
theorem str_app (a b : List Nat) : str (a ++ b) = str a ++ str b := by
  apply ByteArray.ext
  rw [ByteArray.data_append]
  simp [str, strOfNums]
theorem str_colon : str colonL = colon := by decide +kernel
theorem str_dash : str dashL = dash := by decide +kernel
theorem showV_shw (s : List Nat) (f : Nat) (hf : f < 4) : showV s (f : Int) = .string (str (shwL s f)) := by
  have : f = 0 ∨ f = 1 ∨ f = 2 ∨ f = 3 := by omega
  rcases this with rfl | rfl | rfl | rfl
  · show Value.string (colon ++ str (hexL s)) = .string (str (colonL ++ hexL s))
    rw [str_app, str_colon]
  · show Value.string (colon ++ str (b32L s)) = .string (str (colonL ++ b32L s))
    rw [str_app, str_colon]
  · show Value.string (dash ++ str (b64L s)) = .string (str (dashL ++ b64L s))
    rw [str_app, str_dash]
  · rfl
theorem mem_idx {D : List Nat} {c : Nat} (hD : ∀ x ∈ D, x < 256) (h : D.idxOf c < D.length) : c < 256 := by
  have e : D[D.idxOf c]'h = c := List.getElem_idxOf h
  rw [← e]
  exact hD _ (List.getElem_mem h)
theorem shw_byt (s : List Nat) (hb : ∀ x ∈ s, x < 256) (f : Nat) : ∀ c ∈ shwL s f, c < 256 := by
  have hD16 : ∀ x ∈ D16, x < 256 := by decide
  have hD32 : ∀ x ∈ D32, x < 256 := by decide
  have hD64 : ∀ x ∈ D64, x < 256 := by decide
  have hc : ∀ x ∈ colonL, x < 256 := by decide
  have hd : ∀ x ∈ dashL, x < 256 := by decide
  have k16 := hexL_known s hb
  have k32 : ∀ c ∈ b32L s, c < 256 := fun c hc => by
    obtain ⟨j, _, rfl⟩ := List.mem_map.1 hc
    exact mem_idx hD32 (by rw [kv_g32 ⟨_, v32_lt s _⟩]; exact v32_lt s _)
  have k64 : ∀ c ∈ b64L s, c < 256 := fun c hc => by
    obtain ⟨i1, ⟨f, hf, i2⟩, i3⟩ := dg_all _ s (Nat.le_refl _) hb
    rw [i2] at hc
    rcases List.mem_append.1 hc with h | h
    · exact mem_idx hD64 (i1 c h).1
    · have := (List.mem_replicate.1 h).2; omega
  intro c h
  unfold shwL at h
  split at h
  · rcases List.mem_append.1 h with h | h
    · exact hc c h
    · exact mem_idx hD16 (k16 c h)
  split at h
  · rcases List.mem_append.1 h with h | h
    · exact hc c h
    · exact k32 c h
  split at h
  · rcases List.mem_append.1 h with h | h
    · exact hd c h
    · exact k64 c h
  · cases h
theorem shw_len (s : List Nat) (hl : s.length = 32) (f : Nat) : (shwL s f).length ≤ 71 := by
  unfold shwL
  split
  · rw [List.length_append, hexL_len, hl]; decide
  split
  · rw [List.length_append, b32L_len, hl]; decide
  split
  · rw [List.length_append, b64L_len _ s (Nat.le_refl _), hl]; decide
  · decide
theorem rd_nil : rdV [] = (z32, 0, 12, 0) := by decide +kernel
theorem eq24 (w : World) (a b : List Nat) (ha : a.length = 32) (hb : b.length = 32) : (Op.equalIn 10000 24 (.agg (bs a)) (.agg (bs b))).run Tryd.prog w = .ok (decide (a = b)) w :=
  run_equalIn_bs w 9998 Tryd.underlying24 Tryd.underlying5 size5 a b ha hb
theorem shw_lens (s : List Nat) (hl : s.length = 32) (f : Nat) (hf : f < 3) : (shwL s f).length = if f = 0 then 71 else if f = 1 then 59 else 51 := by
  unfold shwL
  have : f = 0 ∨ f = 1 ∨ f = 2 := by omega
  rcases this with rfl | rfl | rfl
  · simp only [if_true]
    rw [List.length_append, hexL_len, hl]; rfl
  · simp only [if_true, if_false, Nat.one_ne_zero]
    rw [List.length_append, b32L_len, hl]; rfl
  · simp only [if_true, if_false, show (2 : Nat) ≠ 0 by decide, show (2 : Nat) ≠ 1 by decide]
    rw [List.length_append, b64L_len _ s (Nat.le_refl _), hl]; rfl
/-- Whoever turns one byte of a text reads another sum or none. -/
theorem turned_reads (s : List Nat) (hl : s.length = 32) (f : Nat) (hf : f < 3) (p d : Nat) (hp : p < (shwL s f).length) (hne : ¬ (shwL s f).getD p 0 = d) : ¬ (rdV ((shwL s f).set p d)).2.2.1 = 0 ∨ ¬ (rdV ((shwL s f).set p d)).1 = s := by
  by_cases h : (rdV ((shwL s f).set p d)).2.2.1 = 0
  · right
    intro hs
    obtain ⟨h1, h2, h3, h4⟩ := rd_canon h
    rw [hs] at h1
    have hlen := congrArg List.length h1
    rw [List.length_set] at hlen
    have e1 := shw_lens s hl _ h4
    have e2 := shw_lens s hl f hf
    have hff : (rdV ((shwL s f).set p d)).2.1 = f := by
      rw [e1, e2] at hlen
      generalize (rdV ((shwL s f).set p d)).2.1 = f' at *
      have a1 : f' = 0 ∨ f' = 1 ∨ f' = 2 := by omega
      have a2 : f = 0 ∨ f = 1 ∨ f = 2 := by omega
      rcases a1 with rfl | rfl | rfl <;> rcases a2 with rfl | rfl | rfl <;> simp at hlen ⊢
    rw [hff] at h1
    have := congrArg (fun l : List Nat => l.getD p 0) h1
    have h5 : ((shwL s f).set p d).getD p 0 = d := by simp [List.getD, hp]
    exact hne (this.trans h5)
  · exact .inl h
theorem rd_len (t : List Nat) : (rdV t).1.length = 32 := by
  by_cases h : (rdV t).2.2.1 = 0
  · exact (rd_canon h).2.1
  · unfold rdV at h ⊢
    cases hf : fmL t with
    | none => rfl
    | some g =>
      rw [hf] at h
      simp only at h ⊢
      split
      · rfl
      · split
        · rfl
        · rename_i h1 h2
          rw [if_neg h1, if_neg h2] at h
          exact absurd rfl h
/-- A string made bytes, kept shut. -/
def cvR (v : Value) : Sem Value := convert 9 22 v
theorem toCv (v : Value) : convert 9 22 v = cvR v := rfl
theorem run_cv (w : World) (X : ByteArray) : (cvR (.string X)).run Tryd.prog w = .ok (.slice (some ⟨w.heap.size, 0, none⟩) X.size (grownCap w X.size 0 5)) (Lib.bytesWorld w 5 X) := Lib.run_convert_string_bytes w 9 22 5 X Tryd.underlying9 Tryd.underlying22 Tryd.underlying5
theorem setCell_row {W : World} {g i t : Nat} {cur : Array Value} {fr : Nat × Nat} (v : Value) (h : W.heap[g]? = some (.cells cur t fr)) : (W.setCell ⟨g, i, none⟩ v).heap[g]? = some (.cells (cur.setIfInBounds i v) t fr) := by
  have hs := (Array.getElem?_eq_some_iff.1 h).1
  simp [World.setCell, Array.getElem?_modify, h]
/-- Bytes that lie at the beginning of a block, and may be written. -/
def Txw (g : Nat) (l : List Nat) (W : World) : Prop := ∃ cur fr, W.heap[g]? = some (.cells cur 5 fr) ∧ (∀ j, j < l.length → cur[j]? = some (.int .u8 ((l.getD j 0 : Nat) : Int))) ∧ l.length ≤ fr.1
theorem Txw.keep {g : Nat} {l : List Nat} {W W' : World} (h : Txw g l W) (hb : W'.heap[g]? = W.heap[g]?) : Txw g l W' := by
  obtain ⟨cur, fr, h1, h2⟩ := h
  exact ⟨cur, fr, hb.trans h1, h2⟩
theorem Txw.lt {g : Nat} {l : List Nat} {W : World} (h : Txw g l W) : g < W.heap.size := by
  obtain ⟨cur, fr, h1, h2⟩ := h
  exact (Array.getElem?_eq_some_iff.1 h1).1
theorem Txw.cell {g : Nat} {l : List Nat} {W : World} (h : Txw g l W) (j : Nat) (hj : j < l.length) : W.cell? ⟨g, j, none⟩ = some (.int .u8 ((l.getD j 0 : Nat) : Int)) := by
  obtain ⟨cur, fr, h1, h2, _⟩ := h
  rw [cell_of_row W _ _ _ _ _ h1]
  exact h2 j hj
theorem Txw.frz {g : Nat} {l : List Nat} {W : World} (h : Txw g l W) (j : Nat) (hj : j < l.length) : W.frozen? ⟨g, j, none⟩ = false := by
  obtain ⟨cur, fr, h1, h2, h3⟩ := h
  simp [World.frozen?, h1]
  omega
theorem Txw.conv {g c : Nat} {l : List Nat} {W : World} (h : Txw g l W) : (convert 22 9 (.slice (some ⟨g, 0, none⟩) l.length c)).run Tryd.prog W = .ok (.string (str l)) W := by
  refine run_convert_bytes_arg W 22 5 Tryd.underlying22 Tryd.underlying5 g 0 l.length c (l.map (fun (x : Nat) => (x : Int))) (by rw [List.length_map]) (fun i hi => ?_) 9 Tryd.underlying9
  rw [Nat.zero_add, h.cell i hi]
  simp [List.getD, hi]
theorem txw_new (w : World) (l : List Nat) (hb : ∀ x ∈ l, x < 256) : Txw w.heap.size l (Lib.bytesWorld w 5 (str l)) := by
  refine ⟨_, _, Lib.bytesWorld_at_new w 5 (str l), fun j hj => ?_, ?_⟩
  · have h1 := Lib.bytesWorld_cell w 5 (str l) j (by rw [str_size]; exact hj)
    rw [cell_of_row _ _ _ _ _ _ (Lib.bytesWorld_at_new w 5 (str l))] at h1
    rw [h1]
    have h2 : (tl (str l)).getD j 0 = l.getD j 0 := by rw [byt_str l hb]
    rw [tl_get _ _ (by rw [str_size]; exact hj)] at h2
    rw [← h2]
    have hj2 : j < (str l).size := by rw [str_size]; exact hj
    have h3 : (str l).data.toList.getD j 0 = (str l)[j]'hj2 := by rw [List.getD, List.getElem?_eq_getElem (by simpa using hj2)]; rfl
    rw [h3, byt_at]
  · show l.length ≤ (Lib.bytesCells w 5 (str l)).size
    simp [Lib.bytesCells, str_size]
theorem below_bytes (w : World) (X : ByteArray) : Below w.heap.size w (Lib.bytesWorld w 5 X) :=
  ⟨rfl, rfl, rfl, by rw [Lib.bytesWorld_size]; omega, fun j hj => Lib.bytesWorld_at_old w 5 X j hj⟩
theorem run_st' (w : World) (g : Nat) (cs : Array Value) (l : List Nat) (hg : w.heap[g]? = some (.cells cs 24 (0, 0))) (h1 : cs.size = 32) (h2 : l.length = 32) : (stR (.pointer (some ⟨g, 0, none⟩)) (.agg (bs l))).run Tryd.prog w = .ok () (w.setRow g (bs l)) := by
  unfold stR
  simp only [Instr.storeAt, Instr.sureAddr, Sem.run_bind, Sem.run_pure, Result.andThen_ok, run_storeVar_row w g 24 24 cs (bs l) hg (by rw [YtkppejaigodgiabDoor.size24', bs_size, h2]) (by rw [bs_size, h1, h2]) (bs_one _)]
theorem Tx.ofB {w w' : World} (h : Tx w) (hb : Below w.heap.size w w') : Tx w' := h.below hb h.sz
noncomputable def tail7 : Code := ((Tryd.f7.body.bind (fromR 17)).getD .skip)
attribute [local go_sem ↓] toLd toSt toCv
set_option maxRecDepth 100000 in
set_option maxHeartbeats 3200000 in
theorem tailL (S : List Nat) (hSl : S.length = 32) (hSb : Byt S) (φ : Nat) (hφ : φ < 3) (a : Int) (dg : Nat) (hdg : dg < 256) (A G : Nat) (hGA : G ≤ A) (v0 v4 v5 v6 v7 v8 v9 v10 v11 v13 v14 v15 v16 v17 v18 v19 v20 v21 v22 v23 v24 v25 v26 v27 v28 v29 v30 v31 v32 v33 v34 v35 v36 v37 v38 v39 v40 v41 v42 v43 v44 v45 v46 v47 v48 v49 v50 v51 v52 v53 v54 v55 v56 v57 v58 v59 v60 v61 v62 v63 v64 v65 v66 v67 v68 v69 v70 v71 v72 v73 v74 v75 v76 v77 v78 v79 v80 v81 v82 v83 v84 v85 v86 v87 v88 v89 v90 v91 v92 v93 v94 v95 v96 v97 v98 v99 v100 v101 v102 v103 v104 v105 v106 v107 v108 v109 v110 v111 v112 v113 v114 v115 v116 v117 v118 v119 v120 v121 v122 v123 v124 v125 v126 v127 v128 v129 v130 v131 v132 v133 v134 v135 v136 v137 v138 v139 v140 v141 : Value) (W : World) (ht : Hid (Tx W)) (rA : Hid (W.heap[A]? = some (.cells (bs S) 24 (0, 0))))
    (R : Ending → World → Prop) (hR : Hid (∀ w', Below G W w' → R (.returned (.bool true)) w')) :
    Code.wp Tryd.prog tail7 (bodyPost Tryd.prog Tryd.f7 R) ⟨#[v0, .int .i64 (φ : Int), .int .i64 a, .int .u8 (dg : Int), v4, v5, v6, v7, v8, v9, v10, v11, .pointer (some ⟨A, 0, none⟩), v13, v14, v15, v16, v17, v18, v19, v20, v21, v22, v23, v24, v25, v26, v27, v28, v29, v30, v31, v32, v33, v34, v35, v36, v37, v38, v39, v40, v41, v42, v43, v44, v45, v46, v47, v48, v49, v50, v51, v52, v53, v54, v55, v56, v57, v58, v59, v60, v61, v62, v63, v64, v65, v66, v67, v68, v69, v70, v71, v72, v73, v74, v75, v76, v77, v78, v79, v80, v81, v82, v83, v84, v85, v86, v87, v88, v89, v90, v91, v92, v93, v94, v95, v96, v97, v98, v99, v100, v101, v102, v103, v104, v105, v106, v107, v108, v109, v110, v111, v112, v113, v114, v115, v116, v117, v118, v119, v120, v121, v122, v123, v124, v125, v126, v127, v128, v129, v130, v131, v132, v133, v134, v135, v136, v137, v138, v139, v140, v141], []⟩ W := by
  have hlens := shw_lens S hSl φ hφ
  obtain ⟨t, htt⟩ : ∃ t, t = shwL S φ := ⟨_, rfl⟩
  have HTT : Hid (t = shwL S φ) := htt
  have htb : ∀ x ∈ t, x < 256 := by rw [htt]; exact shw_byt S hSb φ
  obtain ⟨L, hL⟩ : ∃ L, L = t.length := ⟨_, rfl⟩
  have hL1 : 51 ≤ L ∧ L ≤ 71 := by
    rw [← htt, ← hL] at hlens
    rw [hlens]
    split
    · omega
    · split <;> omega
  have hXs : (str t).size = L := by rw [str_size, hL]
  have hAs : A < W.heap.size := (Array.getElem?_eq_some_iff.1 rA.out).1
  have hld := run_ld W A S rA.out hSl
  have CS : Hid (Calls Tryd.prog 16 #[.agg (bs S), .int .i64 (φ : Int)] W fun e w' => e = .returned (.string (str t)) ∧ Below W.heap.size W w') := by
    have := showC_any S hSl hSb (φ : Int) W ht.out
    rw [showV_shw S φ (by omega), ← htt] at this
    exact this
  have CR : Hid (∀ W, Tx W → Calls Tryd.prog 24 #[.string (str t)] W fun e w' => e = .returned (four (S, φ, 0, 0)) ∧ Below W.heap.size W w') := fun W h => by
    have := read_any (str t) (by rw [hXs]; omega) W h
    rw [byt_str t htb, htt, rd_back S hSl hSb φ hφ, ← htt] at this
    exact this
  have HL : Hid (L = t.length) := hL
  clear hlens htt hL
  have hqS : ∀ W, (Op.equalIn 10000 24 (.agg (bs S)) (.agg (bs S))).run Tryd.prog W = .ok true W := fun W => by have := eq24 W S S hSl hSl; simpa using this
  obtain ⟨X, hX⟩ : ∃ X, X = str t := ⟨_, rfl⟩
  rw [← hX] at CS CR hXs
  have HX : Hid (X = str t) := hX
  clear hX
  conv => arg 2; whnf
  go_wp2_with fail
  refine CS.out.mono ?_
  rintro e W1 ⟨rfl, b1⟩
  have hcv := run_cv W1 X
  rw [hXs] at hcv
  generalize hcp : grownCap W1 L 0 5 = cp at hcv
  clear hcp
  have b2 : Below W1.heap.size W1 (Lib.bytesWorld W1 5 X) := below_bytes W1 X
  have s2 : (Lib.bytesWorld W1 5 X).heap.size = W1.heap.size + 1 := Lib.bytesWorld_size _ _ _
  have T2 : Hid (Txw W1.heap.size t (Lib.bytesWorld W1 5 X)) := by rw [HX.out]; exact txw_new W1 t htb
  generalize hW2 : Lib.bytesWorld W1 5 X = W2 at hcv b2 s2 T2
  clear hW2
  have t1 := Tx.ofB ht.out b1
  have t2 : Hid (Tx W2) := Tx.ofB t1 b2
  have bb2 : Below W.heap.size W W2 := b1.trans (b2.mono b1.size)
  have r2 : Hid (W2.heap[A]? = some (.cells (bs S) 24 (0, 0))) := (bb2.block A hAs).trans rA.out
  have cvb : (convert 22 9 (.slice (some ⟨W1.heap.size, 0, none⟩) L cp)).run Tryd.prog W2 = .ok (.string X) W2 := by
    have := T2.out.conv (c := cp)
    rw [← HL.out, ← HX.out] at this
    exact this
  obtain ⟨g, hg⟩ : ∃ g, g = W1.heap.size := ⟨_, rfl⟩
  have hgA : Hid (W.heap.size ≤ g) := by rw [hg]; exact b1.size
  rw [← hg] at hcv T2 cvb
  have hcv' : (cvR (.string X)).run Tryd.prog W1 = .ok (.slice (some ⟨g, 0, none⟩) L cp) W2 := hcv
  have hgs : Hid (g < W2.heap.size) := T2.out.lt
  clear hcv hg b1 b2 s2 t1
  go_wp2_with fail
  refine (CR.out W2 t2.out).mono ?_
  rintro e W3 ⟨rfl, b3⟩
  have t3 : Hid (Tx W3) := Tx.ofB t2.out b3
  have T3 : Hid (Txw g t W3) := T2.out.keep (b3.block g hgs.out)
  have r3 : Hid (W3.heap[A]? = some (.cells (bs S) 24 (0, 0))) := (b3.block A (Nat.lt_of_lt_of_le hAs bb2.size)).trans r2.out
  have bb3 : Below W.heap.size W W3 := bb2.trans (b3.mono bb2.size)
  have gs3 : Hid (g < W3.heap.size) := Nat.lt_of_lt_of_le hgs.out b3.size
  clear T2 t2 r2 b3 bb2 hcv' cvb hgs
  have hst : (stR (.pointer (some ⟨W3.heap.size, 0, none⟩)) (.agg (bs S))).run Tryd.prog (W3.alloc (.cells #[Value.int IntKind.u8 0, Value.int IntKind.u8 0, Value.int IntKind.u8 0, Value.int IntKind.u8 0, Value.int IntKind.u8 0, Value.int IntKind.u8 0, Value.int IntKind.u8 0, Value.int IntKind.u8 0, Value.int IntKind.u8 0, Value.int IntKind.u8 0, Value.int IntKind.u8 0, Value.int IntKind.u8 0, Value.int IntKind.u8 0, Value.int IntKind.u8 0, Value.int IntKind.u8 0, Value.int IntKind.u8 0, Value.int IntKind.u8 0, Value.int IntKind.u8 0, Value.int IntKind.u8 0, Value.int IntKind.u8 0, Value.int IntKind.u8 0, Value.int IntKind.u8 0, Value.int IntKind.u8 0, Value.int IntKind.u8 0, Value.int IntKind.u8 0, Value.int IntKind.u8 0, Value.int IntKind.u8 0, Value.int IntKind.u8 0, Value.int IntKind.u8 0, Value.int IntKind.u8 0, Value.int IntKind.u8 0, Value.int IntKind.u8 0] 24)) = .ok () ((W3.alloc (.cells #[Value.int IntKind.u8 0, Value.int IntKind.u8 0, Value.int IntKind.u8 0, Value.int IntKind.u8 0, Value.int IntKind.u8 0, Value.int IntKind.u8 0, Value.int IntKind.u8 0, Value.int IntKind.u8 0, Value.int IntKind.u8 0, Value.int IntKind.u8 0, Value.int IntKind.u8 0, Value.int IntKind.u8 0, Value.int IntKind.u8 0, Value.int IntKind.u8 0, Value.int IntKind.u8 0, Value.int IntKind.u8 0, Value.int IntKind.u8 0, Value.int IntKind.u8 0, Value.int IntKind.u8 0, Value.int IntKind.u8 0, Value.int IntKind.u8 0, Value.int IntKind.u8 0, Value.int IntKind.u8 0, Value.int IntKind.u8 0, Value.int IntKind.u8 0, Value.int IntKind.u8 0, Value.int IntKind.u8 0, Value.int IntKind.u8 0, Value.int IntKind.u8 0, Value.int IntKind.u8 0, Value.int IntKind.u8 0, Value.int IntKind.u8 0] 24)).setRow W3.heap.size (bs S)) := run_st' _ _ _ S (heap_alloc_new _ _) rfl hSl
  have r4 : Hid (((W3.alloc (.cells #[Value.int IntKind.u8 0, Value.int IntKind.u8 0, Value.int IntKind.u8 0, Value.int IntKind.u8 0, Value.int IntKind.u8 0, Value.int IntKind.u8 0, Value.int IntKind.u8 0, Value.int IntKind.u8 0, Value.int IntKind.u8 0, Value.int IntKind.u8 0, Value.int IntKind.u8 0, Value.int IntKind.u8 0, Value.int IntKind.u8 0, Value.int IntKind.u8 0, Value.int IntKind.u8 0, Value.int IntKind.u8 0, Value.int IntKind.u8 0, Value.int IntKind.u8 0, Value.int IntKind.u8 0, Value.int IntKind.u8 0, Value.int IntKind.u8 0, Value.int IntKind.u8 0, Value.int IntKind.u8 0, Value.int IntKind.u8 0, Value.int IntKind.u8 0, Value.int IntKind.u8 0, Value.int IntKind.u8 0, Value.int IntKind.u8 0, Value.int IntKind.u8 0, Value.int IntKind.u8 0, Value.int IntKind.u8 0, Value.int IntKind.u8 0] 24)).setRow W3.heap.size (bs S)).heap[W3.heap.size]? = some (.cells (bs S) 24 (0, 0))) := setRow_heap _ _ _ _ _ _ (heap_alloc_new _ _)
  have b4 : Below W3.heap.size W3 ((W3.alloc (.cells #[Value.int IntKind.u8 0, Value.int IntKind.u8 0, Value.int IntKind.u8 0, Value.int IntKind.u8 0, Value.int IntKind.u8 0, Value.int IntKind.u8 0, Value.int IntKind.u8 0, Value.int IntKind.u8 0, Value.int IntKind.u8 0, Value.int IntKind.u8 0, Value.int IntKind.u8 0, Value.int IntKind.u8 0, Value.int IntKind.u8 0, Value.int IntKind.u8 0, Value.int IntKind.u8 0, Value.int IntKind.u8 0, Value.int IntKind.u8 0, Value.int IntKind.u8 0, Value.int IntKind.u8 0, Value.int IntKind.u8 0, Value.int IntKind.u8 0, Value.int IntKind.u8 0, Value.int IntKind.u8 0, Value.int IntKind.u8 0, Value.int IntKind.u8 0, Value.int IntKind.u8 0, Value.int IntKind.u8 0, Value.int IntKind.u8 0, Value.int IntKind.u8 0, Value.int IntKind.u8 0, Value.int IntKind.u8 0, Value.int IntKind.u8 0] 24)).setRow W3.heap.size (bs S)) := below_setRow ((Below.refl _ W3).alloc (Nat.le_refl _) _) (Nat.le_refl _) _
  generalize hW4 : (W3.alloc (.cells #[Value.int IntKind.u8 0, Value.int IntKind.u8 0, Value.int IntKind.u8 0, Value.int IntKind.u8 0, Value.int IntKind.u8 0, Value.int IntKind.u8 0, Value.int IntKind.u8 0, Value.int IntKind.u8 0, Value.int IntKind.u8 0, Value.int IntKind.u8 0, Value.int IntKind.u8 0, Value.int IntKind.u8 0, Value.int IntKind.u8 0, Value.int IntKind.u8 0, Value.int IntKind.u8 0, Value.int IntKind.u8 0, Value.int IntKind.u8 0, Value.int IntKind.u8 0, Value.int IntKind.u8 0, Value.int IntKind.u8 0, Value.int IntKind.u8 0, Value.int IntKind.u8 0, Value.int IntKind.u8 0, Value.int IntKind.u8 0, Value.int IntKind.u8 0, Value.int IntKind.u8 0, Value.int IntKind.u8 0, Value.int IntKind.u8 0, Value.int IntKind.u8 0, Value.int IntKind.u8 0, Value.int IntKind.u8 0, Value.int IntKind.u8 0] 24)).setRow W3.heap.size (bs S) = W4 at hst r4 b4
  clear hW4
  have bb4 : Below W.heap.size W W4 := bb3.trans (b4.mono bb3.size)
  have t4 : Hid (Tx W4) := Tx.ofB t3.out b4
  have T4 : Hid (Txw g t W4) := T3.out.keep (b4.block g gs3.out)
  have rA4 : Hid (W4.heap[A]? = some (.cells (bs S) 24 (0, 0))) := (b4.block A (Nat.lt_of_lt_of_le hAs bb3.size)).trans r3.out
  obtain ⟨C, hC⟩ : ∃ C, C = W3.heap.size := ⟨_, rfl⟩
  have hCW : Hid (W.heap.size ≤ C) := by rw [hC]; exact bb3.size
  have hgC : Hid (g < C) := by rw [hC]; exact gs3
  rw [← hC] at r4 hst
  have hst' : (stR (.pointer (some ⟨W3.heap.size, 0, none⟩)) (.agg (bs S))).run Tryd.prog (W3.alloc (.cells #[Value.int IntKind.u8 0, Value.int IntKind.u8 0, Value.int IntKind.u8 0, Value.int IntKind.u8 0, Value.int IntKind.u8 0, Value.int IntKind.u8 0, Value.int IntKind.u8 0, Value.int IntKind.u8 0, Value.int IntKind.u8 0, Value.int IntKind.u8 0, Value.int IntKind.u8 0, Value.int IntKind.u8 0, Value.int IntKind.u8 0, Value.int IntKind.u8 0, Value.int IntKind.u8 0, Value.int IntKind.u8 0, Value.int IntKind.u8 0, Value.int IntKind.u8 0, Value.int IntKind.u8 0, Value.int IntKind.u8 0, Value.int IntKind.u8 0, Value.int IntKind.u8 0, Value.int IntKind.u8 0, Value.int IntKind.u8 0, Value.int IntKind.u8 0, Value.int IntKind.u8 0, Value.int IntKind.u8 0, Value.int IntKind.u8 0, Value.int IntKind.u8 0, Value.int IntKind.u8 0, Value.int IntKind.u8 0, Value.int IntKind.u8 0] 24)) = .ok () W4 := by rw [← hC]; exact hst
  have hlA := run_ld W4 A S rA4.out hSl
  have hlC := run_ld W4 C S r4.out hSl
  rw [hC] at hlC
  clear T3 t3 r3 b4 bb3 gs3 hst
  obtain ⟨hL51, hL71⟩ := hL1
  have hLn : ¬ ((L : Int) < 51) := by omega
  have hLp : (0 : Int) < (L : Int) := by omega
  have hLne : ¬ ((L : Int) = 0) := by omega
  have hb1 := Int.tmod_lt_of_pos a hLp
  have hb2 : -(L : Int) < a.tmod (L : Int) := by have := Int.lt_tmod_of_pos a hLp; omega
  obtain ⟨p, hp, hform⟩ : ∃ p : Nat, p < L ∧ (a.tmod (L : Int) = (p : Int) ∨ (a.tmod (L : Int) < 0 ∧ a.tmod (L : Int) + (L : Int) = (p : Int))) := by
    by_cases h0 : a.tmod (L : Int) < 0
    · exact ⟨(a.tmod (L : Int) + L).toNat, by omega, .inr ⟨h0, by omega⟩⟩
    · exact ⟨(a.tmod (L : Int)).toNat, by omega, .inl (by omega)⟩
  obtain ⟨x, hx⟩ : ∃ x, x = t.getD p 0 := ⟨_, rfl⟩
  have hpt : p < t.length := by rw [← HL.out]; exact hp
  have cx : W4.cell? ⟨g, p, none⟩ = some (.int .u8 (x : Int)) := by rw [hx]; exact T4.out.cell p hpt
  have fx : W4.frozen? ⟨g, p, none⟩ = false := T4.out.frz p hpt
  have hp0 : (0 : Int) ≤ (p : Int) := by omega
  have hp1 : (p : Int) < (L : Int) := by omega
  have hR4 : Hid (∀ w', Below W.heap.size W w' → R (.returned (.bool true)) w') := fun w' h => hR.out w' (h.mono (by omega))
  obtain ⟨q, hq⟩ : ∃ q, a.tmod (L : Int) = q := ⟨_, rfl⟩
  rw [hq] at hform hb1 hb2
  have T5 : Hid (Txw g (t.set p dg) (W4.setCell ⟨g, p, none⟩ (.int .u8 (dg : Int)))) := by
    obtain ⟨cur, fr, h1, h2, h3⟩ := T4.out
    refine ⟨_, fr, setCell_row _ h1, fun j hj => ?_, by rw [List.length_set]; exact h3⟩
    rw [List.length_set] at hj
    by_cases he : j = p
    · subst he
      rw [Array.getElem?_setIfInBounds_self_of_lt (Array.getElem?_eq_some_iff.1 (h2 j hj)).1]
      simp [List.getD, hj]
    · rw [Array.getElem?_setIfInBounds_ne (Ne.symm he), h2 j hj]
      simp [List.getD, List.getElem?_set_ne (Ne.symm he)]
  have cv5 : (convert 22 9 (.slice (some ⟨g, 0, none⟩) L cp)).run Tryd.prog (W4.setCell ⟨g, p, none⟩ (.int .u8 (dg : Int))) = .ok (.string (str (t.set p dg))) (W4.setCell ⟨g, p, none⟩ (.int .u8 (dg : Int))) := by
    have := T5.out.conv (c := cp)
    rw [List.length_set, ← HL.out] at this
    exact this
  have t2b : ∀ y ∈ t.set p dg, y < 256 := fun y hy => by
    rcases List.mem_or_eq_of_mem_set hy with h | h
    · exact htb y h
    · omega
  have tx5 : Tx (W4.setCell ⟨g, p, none⟩ (.int .u8 (dg : Int))) := t4.out.keep (by simp [World.setCell]) (fun j hj => heap_setCell_other _ _ _ _ (by have h1 := hgA.out; have h2 := ht.out.sz; show j ≠ g; omega))
  have b5 : Below W.heap.size W (W4.setCell ⟨g, p, none⟩ (.int .u8 (dg : Int))) := bb4.setCell (by exact hgA.out) _
  have rA5 : (W4.setCell ⟨g, p, none⟩ (.int .u8 (dg : Int))).heap[A]? = some (.cells (bs S) 24 (0, 0)) := (heap_setCell_other _ _ _ _ (by have h1 := hgA.out; show A ≠ g; omega)).trans rA4.out
  have rC5 : (W4.setCell ⟨g, p, none⟩ (.int .u8 (dg : Int))).heap[C]? = some (.cells (bs S) 24 (0, 0)) := (heap_setCell_other _ _ _ _ (by have h1 := hgC.out; show C ≠ g; omega)).trans r4.out
  generalize hW5 : W4.setCell ⟨g, p, none⟩ (.int .u8 (dg : Int)) = W5 at T5 cv5 tx5 b5 rA5 rC5
  obtain ⟨s2, f2, e2, p2, hV⟩ : ∃ s2 f2 e2 p2, rdV (t.set p dg) = (s2, f2, e2, p2) := ⟨_, _, _, _, rfl⟩
  have hs2l : s2.length = 32 := by have := rd_len (t.set p dg); rw [hV] at this; exact this
  have CR5 : Hid (Calls Tryd.prog 24 #[.string (str (t.set p dg))] W5 fun e w' => e = .returned (.tuple #[.agg (bs s2), .int .i64 ((f2 : Nat) : Int), .int .i64 ((e2 : Nat) : Int), .int .i64 ((p2 : Nat) : Int)]) ∧ Below W5.heap.size W5 w' ∧ (stR (.pointer (some ⟨C, 0, none⟩)) (.agg (bs s2))).run Tryd.prog w' = .ok () (w'.setRow C (bs s2)) ∧ (ldR (.pointer (some ⟨C, 0, none⟩))).run Tryd.prog (w'.setRow C (bs s2)) = .ok (.agg (bs s2)) (w'.setRow C (bs s2)) ∧ (ldR (.pointer (some ⟨A, 0, none⟩))).run Tryd.prog (w'.setRow C (bs s2)) = .ok (.agg (bs S)) (w'.setRow C (bs s2)) ∧ Below W.heap.size W (w'.setRow C (bs s2))) := by
    have := read_any (str (t.set p dg)) (by rw [str_size, List.length_set, ← HL.out]; omega) W5 tx5
    rw [byt_str _ t2b, hV] at this
    refine this.mono fun e w' ⟨h1, h2⟩ => ?_
    have q1 := (h2.block C (Array.getElem?_eq_some_iff.1 rC5).1).trans rC5
    have q2 := (h2.block A (Array.getElem?_eq_some_iff.1 rA5).1).trans rA5
    have hCA : A ≠ C := by have := hCW.out; omega
    exact ⟨h1, h2, run_st w' C S s2 q1 hSl hs2l, run_ld _ C s2 (setRow_heap _ _ _ _ _ _ q1) hs2l, run_ld _ A S ((setRow_other _ _ _ _ hCA).trans q2) hSl, below_setRow (b5.trans (h2.mono b5.size)) hCW.out _⟩
  have htr : ¬ x = dg → ¬ e2 = 0 ∨ ¬ s2 = S := fun hne => by
    have := turned_reads S hSl φ hφ p dg (by rw [← HTT.out]; exact hpt) (by rw [← HTT.out, ← hx]; exact hne)
    rw [← HTT.out, hV] at this
    exact this
  have heq2 := fun W => eq24 W s2 S hs2l hSl
  clear T4 T5 t4 rA4 r4 rA5 rC5 tx5 t2b hV hx hgA hgC hpt HL HTT HX
  rw [hC] at CR5
  unfold four
  have hwq : q + (L : Int) = (p : Int) → IntKind.i64.wrap (q + (L : Int)) = (p : Int) := fun h => by rw [h, IntKind.wrap_i64]; omega
  by_cases hxd : x = dg
  · have hxd' : (x : Int) = (dg : Int) := by omega
    rcases hform with hf | ⟨hneg, hf⟩
    · have hqp : ¬ q < 0 := by omega
      subst hf
      go_wp2_with fail
      exact hR4.out _ bb4
    · have hw := hwq hf
      go_wp2_with fail
      exact hR4.out _ bb4
  · have hxd' : ¬ (x : Int) = (dg : Int) := by omega
    have htr2 := htr hxd
    rcases hform with hf | ⟨hneg, hf⟩
    · have hqp : ¬ q < 0 := by omega
      subst hf
      go_wp2_with fail
      refine CR5.out.mono ?_
      rintro e W6 ⟨rfl, b6, hst6, hlC6, hlA6, bb6⟩
      by_cases he : e2 = 0
      · have hs : ¬ s2 = S := by
          rcases htr2 with h | h
          · exact absurd he h
          · exact h
        have heq3 := fun W => (heq2 W).trans (by rw [decide_eq_false hs])
        subst he
        clear heq2 htr2
        go_wp2_with fail
        exact hR4.out _ bb6
      · have he' : ¬ ((e2 : Int) = 0) := by omega
        clear heq2 htr2
        go_wp2_with fail
        exact hR4.out _ bb6
    · have hw := hwq hf
      go_wp2_with fail
      refine CR5.out.mono ?_
      rintro e W6 ⟨rfl, b6, hst6, hlC6, hlA6, bb6⟩
      by_cases he : e2 = 0
      · have hs : ¬ s2 = S := by
          rcases htr2 with h | h
          · exact absurd he h
          · exact h
        have heq3 := fun W => (heq2 W).trans (by rw [decide_eq_false hs])
        subst he
        clear heq2 htr2
        go_wp2_with fail
        exact hR4.out _ bb6
      · have he' : ¬ ((e2 : Int) = 0) := by omega
        clear heq2 htr2
        go_wp2_with fail
        exact hR4.out _ bb6
end Go.Proofs.YtkppejaigodgiabDoor.Lbl
