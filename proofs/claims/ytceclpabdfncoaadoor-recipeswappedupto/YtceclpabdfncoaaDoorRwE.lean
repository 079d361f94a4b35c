/- The laws' outs. -/
import Derived.Test.YtceclpabdfncoaaDoorRwD
import Derived.Test.YtceclpabdfncoaaDoorHex
import Derived.Lib.ConvBytes
namespace Go.Proofs.YtceclpabdfncoaaDoor.Re
open Go.RowKit
/-- What outs leaves. -/
def OuL (B : Nat) (k : Nat) (w : World) (v : Value) : Prop := ∃ O : List Out, Ol B 48 4 w v (O.map oR) ∧ O.length ≤ k ∧ ∀ x ∈ O, x.2.1.size ≤ 300
def OuP (W : World) (e : Ending) (w' : World) : Prop := ∃ a n c, e = .returned (.slice a n c) ∧ OuL W.heap.size 10 w' (.slice a n c) ∧ Below W.heap.size W w'
/-- The box, and what came behind it. -/
structure Bo (W : World) (C : Array Value) (wr : World) : Prop where
  bel : Below (W.heap.size + 1) (W.alloc (.cells C 25)) wr
  box : wr.heap[W.heap.size]? = some (.cells C 25 (0, 0))
theorem Bo.nw (W : World) (C : Array Value) : Bo W C (W.alloc (.cells C 25)) := ⟨Below.refl _ _, heap_alloc_new _ _⟩
theorem Bo.of {W : World} {C : Array Value} {wr : World} (h : Below (W.heap.size + 1) (W.alloc (.cells C 25)) wr) : Bo W C wr := ⟨h, (h.block _ (by simp)).trans (heap_alloc_new _ _)⟩
theorem Bo.below {W : World} {C : Array Value} {wr w' : World} (h : Bo W C wr) (hb : Below wr.heap.size wr w') : Bo W C w' := Bo.of (h.bel.trans (hb.mono (by have := h.bel.size; simpa using this)))
theorem Bo.all {W : World} {C : Array Value} {wr : World} (h : Bo W C wr) : Below W.heap.size W wr := ((Below.refl _ W).alloc (Nat.le_refl _) _).trans (h.bel.mono (by omega))
theorem Bo.cel {W : World} {C : Array Value} {wr : World} (h : Bo W C wr) {k : Nat} {v : Value} (hv : C[k]? = some v) : wr.cell? ⟨W.heap.size, k, none⟩ = some v := c1 h.box hv
/-- A text's bytes, as numbers. -/
def bn (s : S) : List Nat := s.data.toList.map (·.toNat)
theorem bn_len (s : S) : (bn s).length = s.size := by
  unfold bn
  rw [List.length_map, Array.length_toList]
  rfl
theorem bn_byt (s : S) : Byt (bn s) := fun x hx => by
  obtain ⟨c, _, rfl⟩ := List.mem_map.1 hx
  exact c.toNat_lt
theorem run_cvb (w : World) (s : ByteArray) (hs : s.size ≤ 1099511627776) : ∃ c w', (convert 9 23 (.string s)).run Tryd.prog w = .ok (.slice (some ⟨w.heap.size, 0, none⟩) s.size c) w' ∧ YtceclpabdfncoaaDoor.Byl (.slice (some ⟨w.heap.size, 0, none⟩) s.size c) (bn s) w' ∧ Below w.heap.size w w' := by
  refine ⟨_, _, Lib.run_convert_string_bytes (P := Tryd.prog) w 9 23 5 s Tryd.underlying9 Tryd.underlying23 Tryd.underlying5, ?_, ?_⟩
  · refine .inr ⟨w.heap.size, 0, _, by rw [bn_len], by rw [bn_len]; exact grownCap_ge _ _ _ _, grownCap_le_maxLen _ _ _ _ (by unfold maxLen; omega), by rw [Lib.bytesWorld_size]; omega, fun j hj => ?_⟩
    rw [bn_len] at hj
    rw [Nat.zero_add, Lib.bytesWorld_cell w 5 s j hj]
    have : (bn s).getD j 0 = (s.data.toList.getD j 0).toNat := by
      unfold bn
      have h2 : j < s.data.size := hj
      simp only [List.getD, List.getElem?_map, Array.getElem?_toList, Array.getElem?_eq_getElem h2]
      rfl
    rw [this]
  · exact ⟨rfl, rfl, rfl, by rw [Lib.bytesWorld_size]; omega, fun k hk => Lib.bytesWorld_at_old w 5 s k hk⟩
theorem byl_sum {W : World} {g : Nat} {Z : List Nat} (h : W.heap[g]? = some (.cells (bs Z) 57 (0, 0))) (hZ : Z.length = 32) : YtceclpabdfncoaaDoor.Byl (.slice (some ⟨g, 0, none⟩) 32 32) Z W := by
  have : YtceclpabdfncoaaDoor.Byl (.slice (some ⟨g, 0, none⟩) Z.length 32) Z W := .inr ⟨g, 0, 32, rfl, by rw [hZ]; omega, by unfold maxLen; omega, (Array.getElem?_eq_some_iff.1 h).1, fun j hj => by rw [cell_of_row _ _ _ _ _ _ h, Nat.zero_add]; exact bs_get _ _ hj⟩
  rw [hZ] at this
  exact this
theorem OuL.below {B k : Nat} {w w' : World} {v : Value} (h : OuL B k w v) (hb : Below w.heap.size w w') : OuL B k w' v := by
  obtain ⟨O, h1, h2⟩ := h
  exact ⟨O, h1.below hb, h2⟩
theorem OuL.mono {B B' k k' : Nat} {w : World} {v : Value} (h : OuL B k w v) (hB : B' ≤ B) (hk : k ≤ k') : OuL B' k' w v := by
  obtain ⟨O, h1, h2, h3⟩ := h
  exact ⟨O, h1.mono hB, by omega, h3⟩
theorem OuL.add {B k : Nat} {w : World} {v : Value} (h : OuL B k w v) (hB : B ≤ w.heap.size) (hk : k < 10000) (y : Out) (hs : y.2.1.size ≤ 300) :
    ∃ a n c w', (apO 29 #[v, .slice (some ⟨w.heap.size, 0, none⟩) 1 1]).run Tryd.prog (w.alloc (.cells (oR y) 48)) = .ok (.slice a n c) w' ∧ OuL B (k + 1) w' (.slice a n c) ∧ ∀ X, Below B X w → B ≤ X.heap.size → Below B X w' := by
  obtain ⟨O, h1, h2, h3⟩ := h
  have hA : Ol B 48 4 (w.alloc (.cells (oR y) 48)) v (O.map oR) := ⟨h1.1.alloc _, h1.2⟩
  obtain ⟨v2, w2, r2, p2⟩ := run_apO (w.alloc (.cells (oR y) 48)) B v (.slice (some ⟨w.heap.size, 0, none⟩) 1 1) _ [oR y] hA (ls_one w (oR y) 48 4 rfl (by simp [oR, Value.oneCell'])) (by unfold MX; simp; omega) (by simp; omega)
  obtain ⟨a2, c2, e2, -⟩ := p2.1.form
  subst e2
  refine ⟨a2, _, c2, w2, r2, ⟨O ++ [y], ?_, by simp; omega, fun x hx => ?_⟩, fun X hX hB2 => p2.bel hA (hX.alloc (Nat.le_trans hB2 hX.size) _) (Nat.le_refl _) hB2⟩
  · rw [List.map_append]
    exact p2.1
  · rcases List.mem_append.1 hx with q | q
    · exact h3 x q
    · rw [List.mem_singleton.1 q]; exact hs
/-- An output in its variable. -/
structure Oy (wr : World) (y : Out) (V : World) : Prop where
  row : V.heap[wr.heap.size]? = some (.cells (oR y) 48 (0, 0))
  bel : Below wr.heap.size wr V
theorem Oy.below {wr V V' : World} {y : Out} (h : Oy wr y V) (hb : Below V.heap.size V V') : Oy wr y V' := ⟨(hb.block _ (Array.getElem?_eq_some_iff.1 h.row).1).trans h.row, h.bel.trans (hb.mono h.bel.size)⟩
theorem Oy.nw (wr : World) (y : Out) : Oy wr y (wr.alloc (.cells (oR y) 48)) := ⟨heap_alloc_new _ _, (Below.refl _ wr).alloc (Nat.le_refl _) _⟩
theorem Oy.set {wr V : World} {y y' : Out} (h : Oy wr y V) (k : Nat) (s : S) (hy : oR y' = (oR y).setIfInBounds k (.string s)) : V.frozen? ⟨wr.heap.size, k, none⟩ = false ∧ Oy wr y' (V.setCell ⟨wr.heap.size, k, none⟩ (.string s)) :=
  ⟨frozen_of_row _ _ _ _ _ h.row, by rw [hy]; exact heap_setCell_same _ _ _ _ _ _ h.row, h.bel.setCell (Nat.le_refl _) _⟩
theorem Oy.ld {wr V : World} {y : Out} (h : Oy wr y V) : (ldO (.pointer (some ⟨wr.heap.size, 0, none⟩))).run Tryd.prog V = .ok (.agg (oR y)) V := ld_O V _ 0 _ rfl (fun j u hu => by rw [Nat.zero_add, cell_of_row _ _ _ _ _ _ h.row]; simpa using hu)
/-- The round's end. -/
theorem Oy.fin {w wr V : World} {v : Value} {i n : Nat} {y : Out} (h : Oy wr y V) (hi : i < n) (hn : n ≤ 6) (hb : Below w.heap.size w wr) (ho : OuL w.heap.size i wr v) (hy : y.2.1.size ≤ 300) :
    ∃ a' n' c' w', (apO 29 #[v, .slice (some ⟨V.heap.size, 0, none⟩) 1 1]).run Tryd.prog (V.alloc (.cells (oR y) 48)) = .ok (.slice a' n' c') w' ∧ Hid (i + 1 ≤ n ∧ Below w.heap.size w w' ∧ OuL w.heap.size (i + 1) w' (.slice a' n' c')) := by
  obtain ⟨a, n', c, w', r, q, f⟩ := (ho.below h.bel).add (by have := hb.size; have := h.bel.size; omega) (by omega) y hy
  exact ⟨a, n', c, w', r, by omega, f w (hb.trans (h.bel.mono hb.size)) (Nat.le_refl _), q⟩
theorem Oy.endd {w wr V : World} {v : Value} {i n : Nat} {a b c d : S} (h : Oy wr (a, b, c, d) V) (hi : i < n) (hn : n ≤ 6) (hb : Below w.heap.size w wr) (ho : OuL w.heap.size i wr v) (hy : b.size ≤ 300) :
    ∃ a' n' c' w', (ldO (.pointer (some ⟨wr.heap.size, 0, none⟩))).run Tryd.prog V = .ok (.agg #[.string a, .string b, .string c, .string d]) V ∧ (apO 29 #[v, .slice (some ⟨V.heap.size, 0, none⟩) 1 1]).run Tryd.prog (V.alloc (.cells #[.string a, .string b, .string c, .string d] 48)) = .ok (.slice a' n' c') w' ∧ Hid (i + 1 ≤ n ∧ Below w.heap.size w w' ∧ OuL w.heap.size (i + 1) w' (.slice a' n' c')) := by
  obtain ⟨a', n', c', w', r, E⟩ := h.fin hi hn hb ho hy
  exact ⟨a', n', c', w', h.ld, r, E⟩
theorem Oy.sett {wr V : World} {y y' : Out} (h : Oy wr y V) (k : Nat) (s u : S) (hy : oR y' = (oR y).setIfInBounds k (.string s)) (hu : (oR y)[k]? = some (.string u)) : ∃ V', V.cell? ⟨wr.heap.size, k, none⟩ = some (.string u) ∧ V.frozen? ⟨wr.heap.size, k, none⟩ = false ∧ V.setCell ⟨wr.heap.size, k, none⟩ (.string s) = V' ∧ Oy wr y' V' ∧ ∀ j, j ≠ wr.heap.size → V'.heap[j]? = V.heap[j]? := by
  obtain ⟨f, q⟩ := h.set k s hy
  exact ⟨_, c1 h.row hu, f, rfl, q, fun j hj => heap_setCell_other _ _ _ _ hj⟩
def RSHA : S := ⟨#[114, 58, 115, 104, 97, 50, 53, 54]⟩
section
attribute [local go_sem ↓] toApS toApO toSuL toSsm toLdO
set_option maxRecDepth 100000 in
set_option maxHeartbeats 6400000 in
theorem outs14 (W : World) (nv sv iv av kv : Value) (nm : List S) (md : Int) (fl : Bool) (so ip : List Nat) (ar ks : List S) (tx : S) (sd : Nat) (C : Array Value) (h : SpH W nv sv iv av kv ⟨nm, md, fl, so, ip, ar, ks, tx, sd⟩) (hC : C = #[nv, .int .i64 md, .bool fl, sv, iv, av, kv, .string tx, .int .u8 (sd : Int)]) (B : Nat) (w : World) (hb : Bo W C w) (a : Option Addr) (n c : Nat) (ht : TL B 10 6 w (.slice a n c)) {v0 v2 v4 v5 v6 v7 v8 v9 v10 v11 v12 v13 v14 v15 v16 v17 v18 v19 v20 v21 v22 v23 v24 v25 v26 v27 v28 v29 v30 v31 v32 v33 v34 v35 v36 v37 v38 v39 v40 v41 v42 v43 v44 v45 v46 v47 v48 v49 v50 v51 v52 v53 v54 v55 v56 v57 v58 v59 v60 v61 v62 v63 v64 v65 v66 v67 v68 v69 v70 v71 v72 v73 v74 v75 v76 v77 v78 v79 v80 v81 v82 v83 v84 v85 v86 v87 v88 v89 v90 v91 v92 v93 v94 v95 v96 v97 v98 v99 v100 v101 v102 v103 v104 v105 v106 v107 v108 v109 v110 v111 v112 v113 v114 v115 v116 v117 v118 v119 v120 v121 v122 : Value} :
    Code.wp Tryd.prog (tlF Tryd.f7 14) (bodyPost Tryd.prog Tryd.f7 (OuP W)) ⟨#[v0, .pointer (some ⟨W.heap.size, 0, none⟩), v2, .slice a n c, v4, v5, v6, v7, v8, v9, v10, v11, v12, v13, v14, v15, v16, v17, v18, v19, v20, v21, v22, v23, v24, v25, v26, v27, v28, v29, v30, v31, v32, v33, v34, v35, v36, v37, v38, v39, v40, v41, v42, v43, v44, v45, v46, v47, v48, v49, v50, v51, v52, v53, v54, v55, v56, v57, v58, v59, v60, v61, v62, v63, v64, v65, v66, v67, v68, v69, v70, v71, v72, v73, v74, v75, v76, v77, v78, v79, v80, v81, v82, v83, v84, v85, v86, v87, v88, v89, v90, v91, v92, v93, v94, v95, v96, v97, v98, v99, v100, v101, v102, v103, v104, v105, v106, v107, v108, v109, v110, v111, v112, v113, v114, v115, v116, v117, v118, v119, v120, v121, v122], []⟩ w := by
  have HS : Hid (SpH W nv sv iv av kv ⟨nm, md, fl, so, ip, ar, ks, tx, sd⟩) := h
  have HC : Hid (C = #[nv, .int .i64 md, .bool fl, sv, iv, av, kv, .string tx, .int .u8 (sd : Int)]) := hC
  have HT : Hid (TL B 10 6 w (.slice a n c)) := ht
  have HB : Hid (Bo W C w) := hb
  clear h hC ht hb
  conv => arg 2; whnf
  go_wp2_with fail
  go_loopw [7, 8, 9, 10] (fun ov iv _ _ wr => ∃ (a' : Option Addr) (n' c' i : Nat), ov = .slice a' n' c' ∧ iv = .int .i64 (i : Int) ∧ Hid (i ≤ n ∧ Below w.heap.size w wr ∧ OuL w.heap.size i wr (.slice a' n' c'))) (fun _ iv _ _ _ => n + 1 - (intOf iv).toNat)
  case atStart => exact ⟨none, 0, 0, 0, rfl, rfl, Nat.zero_le _, Below.refl _ _, [], ol_nil _ _ _ _, Nat.zero_le _, fun x h => by cases h⟩
  case round =>
    obtain ⟨oa, n', c', i, rfl, rfl, HI⟩ := hrel
    by_cases hi : i < n
    · have hi1 : (i : Int) < (n : Int) := by omega
      have hi0 : (0 : Int) ≤ (i : Int) := by omega
      obtain ⟨g, x, rfl, hx, cx⟩ := HT.out.get hi
      have cx1 := cx wr HI.out.2.1
      have HX : Hid (i < n ∧ x.size ≤ 10) := ⟨hi, hx⟩
      have bo := HB.out.below HI.out.2.1
      have HBo : Hid (∀ V, Below wr.heap.size wr V → V.cell? ⟨W.heap.size, 1, none⟩ = some (.int .i64 md) ∧ V.cell? ⟨W.heap.size, 2, none⟩ = some (.bool fl) ∧ V.cell? ⟨W.heap.size, 7, none⟩ = some (.string tx) ∧ V.cell? ⟨W.heap.size, 8, none⟩ = some (.int .u8 (sd : Int)) ∧ V.cell? ⟨g, i, none⟩ = some (.string x) ∧ Tx V ∧ Sha.Tb V) := fun V hV => ⟨(bo.below hV).cel (by rw [HC.out]; rfl), (bo.below hV).cel (by rw [HC.out]; rfl), (bo.below hV).cel (by rw [HC.out]; rfl), (bo.below hV).cel (by rw [HC.out]; rfl), cx V (HI.out.2.1.trans (hV.mono HI.out.2.1.size)), HS.out.tx.below (bo.below hV).all HS.out.tx.sz, HS.out.tb.below (bo.below hV).all HS.out.tb.sz⟩
      have cm : ∀ X, (wr.alloc X).cell? ⟨W.heap.size, 1, none⟩ = some (.int .i64 md) := fun X => (HBo.out _ ((Below.refl _ wr).alloc (Nat.le_refl _) X)).1
      have cf : ∀ X, (wr.alloc X).cell? ⟨W.heap.size, 2, none⟩ = some (.bool fl) := fun X => (HBo.out _ ((Below.refl _ wr).alloc (Nat.le_refl _) X)).2.1
      have ct : ∀ X, (wr.alloc X).cell? ⟨W.heap.size, 7, none⟩ = some (.string tx) := fun X => (HBo.out _ ((Below.refl _ wr).alloc (Nat.le_refl _) X)).2.2.1
      have cs : ∀ X, (wr.alloc X).drew.cell? ⟨W.heap.size, 8, none⟩ = some (.int .u8 (sd : Int)) := fun X => (HBo.out _ ((Below.refl _ wr).alloc (Nat.le_refl _) X)).2.2.2.1
      have cq : ∀ X, (wr.alloc X).drew.cell? ⟨g, i, none⟩ = some (.string x) := fun X => (HBo.out _ ((Below.refl _ wr).alloc (Nat.le_refl _) X)).2.2.2.2.1
      have wi : IntKind.i64.wrap ((i : Int) + 1) = (i : Int) + 1 := by rw [IntKind.wrap_i64]; have := HT.out.le; omega
      have hn6 := HT.out.le
      have HN : Hid (n ≤ 6) := hn6
      have ws : wrap64 (sd : Int) = (sd : Int) := by have := HS.out.sd; simp at this; unfold wrap64; omega
      have ws2 : IntKind.i64.wrap (sd : Int) = (sd : Int) := by have := HS.out.sd; simp at this; rw [IntKind.wrap_i64]; omega
      have q1 : ¬ (9223372036854775807 < 1 + x.size) := by have := HX.out.2; omega
      have wis : wrap64 ((i : Int) + (sd : Int)) = (i : Int) + (sd : Int) := by have := HS.out.sd; simp at this; unfold wrap64; omega
      have wis2 : IntKind.i64.wrap ((i : Int) + (sd : Int)) = (i : Int) + (sd : Int) := by have := HS.out.sd; simp at this; rw [IntKind.wrap_i64]; omega
      have y0 : Oy wr (x, ⟨#[]⟩, ⟨#[]⟩, ⟨#[]⟩) (wr.alloc (.cells (oR (x, ⟨#[]⟩, ⟨#[]⟩, ⟨#[]⟩)) 48)) := Oy.nw _ _
      have y1 : Oy wr (x, ⟨#[]⟩, RSHA, ⟨#[]⟩) (wr.alloc (.cells (oR (x, ⟨#[]⟩, RSHA, ⟨#[]⟩)) 48)) := Oy.nw _ _
      have l0 := y0.ld
      have l1 := y1.ld
      obtain ⟨a0, n0, c0, w0, p0, E0⟩ := y0.fin HX.out.1 hn6 HI.out.2.1 HI.out.2.2 (by show 0 ≤ 300; omega)
      obtain ⟨a1, n1, c1, w1, p1, E1⟩ := y1.fin HX.out.1 hn6 HI.out.2.1 HI.out.2.2 (by show 0 ≤ 300; omega)
      have HY : Hid (Oy wr (x, ⟨#[]⟩, ⟨#[]⟩, ⟨#[]⟩) (wr.alloc (.cells #[.string x, .string ⟨#[]⟩, .string ⟨#[]⟩, .string ⟨#[]⟩] 48))) := y0
      simp only [oR, RSHA, heap_size_alloc] at l0 l1 p0 p1
      -- the sum's way
      obtain ⟨cb, W2, rcv, by2, b2⟩ := run_cvb (wr.alloc (.cells (oR (x, ⟨#[]⟩, ⟨#[]⟩, ⟨#[]⟩)) 48)) tx (by have := HS.out.tz; simp at this; omega)
      have y2 := y0.below b2
      have H2 : Hid (Oy wr (x, ⟨#[]⟩, ⟨#[]⟩, ⟨#[]⟩) W2 ∧ YtceclpabdfncoaaDoor.Byl (.slice (some ⟨wr.heap.size + 1, 0, none⟩) tx.size cb) (bn tx) W2) := ⟨y2, by rw [heap_size_alloc] at by2; exact by2⟩
      simp only [oR, heap_size_alloc] at rcv
      clear hi hx cx bo y0 y1 y2 by2 b2 hn6
      go_wp2_with fail
      · refine (Sha.of_tb (bn tx) _ (by rw [bn_len]; have := HS.out.tz; simp at this; omega) (bn_byt tx) W2 (HBo.out W2 H2.out.1.bel).2.2.2.2.2.2 H2.out.2).mono ?_
        rintro e W3 ⟨rfl, b3⟩
        obtain ⟨Z, hZ⟩ : ∃ Z, Z = Sha.sha (bn tx) := ⟨_, rfl⟩
        have ZL : Z.length = 32 := by rw [hZ]; exact Sha.sha_len _
        have ZB : Byt Z := by rw [hZ]; exact Sha.sha_byt _
        rw [← hZ]
        have y3 := H2.out.1.below b3
        obtain ⟨W4, st, r4, b4, b34, z4⟩ := st_new wr W3 Z ZL y3.bel
        obtain ⟨W5, g4, f4, h5, y5, o5⟩ := (y3.below b34).sett (y' := (x, ⟨#[]⟩, ⟨#[115, 104, 97, 50, 53, 54]⟩, ⟨#[]⟩)) 2 ⟨#[115, 104, 97, 50, 53, 54]⟩ ⟨#[]⟩ rfl rfl
        have r5 : W5.heap[W3.heap.size]? = some (.cells (bs Z) 57 (0, 0)) := (o5 _ (by have := (Array.getElem?_eq_some_iff.1 y3.row).1; omega)).trans r4
        obtain ⟨H, hH⟩ : ∃ H, txt (hexL Z) = .string H := ⟨_, rfl⟩
        have CH : Hid (Calls Tryd.prog 17 #[.slice (some ⟨W3.heap.size, 0, none⟩) 32 32] W5 fun e w' => e = .returned (.string H) ∧ Below W5.heap.size W5 w') := by
          rw [← hH]
          exact hexC_any Z ZB (by omega) _ W5 (byl_sum r5 ZL) (HBo.out W5 y5.bel).2.2.2.2.2.1
        have HY5 : Hid (Oy wr (x, ⟨#[]⟩, ⟨#[115, 104, 97, 50, 53, 54]⟩, ⟨#[]⟩) W5) := y5
        clear b3 hZ ZL ZB y3 r4 b4 b34 z4 y5 o5 r5 hH H2
        go_wp2_with fail
        refine CH.out.mono ?_
        rintro e W6 ⟨rfl, b6⟩
        obtain ⟨W7, g6, f6, h7, y7, -⟩ := (HY5.out.below b6).sett (y' := (x, ⟨#[]⟩, ⟨#[115, 104, 97, 50, 53, 54]⟩, H)) 3 H ⟨#[]⟩ rfl rfl
        have cf7 := (HBo.out W7 y7.bel).2.1
        clear b6
        cases fl with
        | false =>
          obtain ⟨a7, n7, c7, w7, l7, p7, E7⟩ := y7.endd HX.out.1 HN.out HI.out.2.1 HI.out.2.2 (by show 0 ≤ 300; omega)
          clear y7
          go_wp2_with fail
          exact ⟨⟨_, _, _, i + 1, rfl, by go_num, E7.out⟩, by have := HX.out.1; simp [intOf]; omega⟩
        | true =>
          obtain ⟨W8, g7, f7, h8, y8, -⟩ := y7.sett (y' := (x, ⟨#[]⟩, ⟨#[114, 58, 115, 104, 97, 50, 53, 54]⟩, H)) 2 ⟨#[114, 58, 115, 104, 97, 50, 53, 54]⟩ ⟨#[115, 104, 97, 50, 53, 54]⟩ rfl rfl
          have cs8 := (HBo.out W8 y8.bel).2.2.2.1
          have CM : Hid (Calls Tryd.prog 8 #[.int .i64 (sd : Int), .string ⟨#[]⟩] W8 (TxM 300 W8)) := marked_any _ (by omega) (by have := HS.out.sd; simp at this; omega) _ (by show 0 ≤ 1000; omega) W8 (HBo.out W8 y8.bel).2.2.2.2.2.1 (HBo.out W8 y8.bel).2.2.2.2.2.2
          have HY8 : Hid (Oy wr (x, ⟨#[]⟩, ⟨#[114, 58, 115, 104, 97, 50, 53, 54]⟩, H) W8) := y8
          clear y7 y8
          go_wp2_with fail
          refine CM.out.mono ?_
          rintro e W9 ⟨s, rfl, hs, b9⟩
          obtain ⟨WA, g9, f9, hA, yA, -⟩ := (HY8.out.below b9).sett (y' := (x, s, ⟨#[114, 58, 115, 104, 97, 50, 53, 54]⟩, H)) 1 s ⟨#[]⟩ rfl rfl
          obtain ⟨a7, n7, c7, w7, l7, p7, E7⟩ := yA.endd HX.out.1 HN.out HI.out.2.1 HI.out.2.2 hs
          clear yA b9 hs
          go_wp2_with fail
          exact ⟨⟨_, _, _, i + 1, rfl, by go_num, E7.out⟩, by have := HX.out.1; simp [intOf]; omega⟩
      · refine (Sha.of_tb (bn tx) _ (by rw [bn_len]; have := HS.out.tz; simp at this; omega) (bn_byt tx) W2 (HBo.out W2 H2.out.1.bel).2.2.2.2.2.2 H2.out.2).mono ?_
        rintro e W3 ⟨rfl, b3⟩
        obtain ⟨Z, hZ⟩ : ∃ Z, Z = Sha.sha (bn tx) := ⟨_, rfl⟩
        have ZL : Z.length = 32 := by rw [hZ]; exact Sha.sha_len _
        have ZB : Byt Z := by rw [hZ]; exact Sha.sha_byt _
        rw [← hZ]
        have y3 := H2.out.1.below b3
        obtain ⟨W4, st, r4, b4, b34, z4⟩ := st_new wr W3 Z ZL y3.bel
        obtain ⟨W5, g4, f4, h5, y5, o5⟩ := (y3.below b34).sett (y' := (x, ⟨#[]⟩, ⟨#[115, 104, 97, 50, 53, 54]⟩, ⟨#[]⟩)) 2 ⟨#[115, 104, 97, 50, 53, 54]⟩ ⟨#[]⟩ rfl rfl
        have r5 : W5.heap[W3.heap.size]? = some (.cells (bs Z) 57 (0, 0)) := (o5 _ (by have := (Array.getElem?_eq_some_iff.1 y3.row).1; omega)).trans r4
        obtain ⟨H, hH⟩ : ∃ H, txt (hexL Z) = .string H := ⟨_, rfl⟩
        have CH : Hid (Calls Tryd.prog 17 #[.slice (some ⟨W3.heap.size, 0, none⟩) 32 32] W5 fun e w' => e = .returned (.string H) ∧ Below W5.heap.size W5 w') := by
          rw [← hH]
          exact hexC_any Z ZB (by omega) _ W5 (byl_sum r5 ZL) (HBo.out W5 y5.bel).2.2.2.2.2.1
        have HY5 : Hid (Oy wr (x, ⟨#[]⟩, ⟨#[115, 104, 97, 50, 53, 54]⟩, ⟨#[]⟩) W5) := y5
        clear b3 hZ ZL ZB y3 r4 b4 b34 z4 y5 o5 r5 hH H2
        go_wp2_with fail
        refine CH.out.mono ?_
        rintro e W6 ⟨rfl, b6⟩
        obtain ⟨W7, g6, f6, h7, y7, -⟩ := (HY5.out.below b6).sett (y' := (x, ⟨#[]⟩, ⟨#[115, 104, 97, 50, 53, 54]⟩, H)) 3 H ⟨#[]⟩ rfl rfl
        have cf7 := (HBo.out W7 y7.bel).2.1
        clear b6
        cases fl with
        | false =>
          obtain ⟨a7, n7, c7, w7, l7, p7, E7⟩ := y7.endd HX.out.1 HN.out HI.out.2.1 HI.out.2.2 (by show 0 ≤ 300; omega)
          clear y7
          go_wp2_with fail
          exact ⟨⟨_, _, _, i + 1, rfl, by go_num, E7.out⟩, by have := HX.out.1; simp [intOf]; omega⟩
        | true =>
          obtain ⟨W8, g7, f7, h8, y8, -⟩ := y7.sett (y' := (x, ⟨#[]⟩, ⟨#[114, 58, 115, 104, 97, 50, 53, 54]⟩, H)) 2 ⟨#[114, 58, 115, 104, 97, 50, 53, 54]⟩ ⟨#[115, 104, 97, 50, 53, 54]⟩ rfl rfl
          have cs8 := (HBo.out W8 y8.bel).2.2.2.1
          have CM : Hid (Calls Tryd.prog 8 #[.int .i64 (sd : Int), .string ⟨#[]⟩] W8 (TxM 300 W8)) := marked_any _ (by omega) (by have := HS.out.sd; simp at this; omega) _ (by show 0 ≤ 1000; omega) W8 (HBo.out W8 y8.bel).2.2.2.2.2.1 (HBo.out W8 y8.bel).2.2.2.2.2.2
          have HY8 : Hid (Oy wr (x, ⟨#[]⟩, ⟨#[114, 58, 115, 104, 97, 50, 53, 54]⟩, H) W8) := y8
          clear y7 y8
          go_wp2_with fail
          refine CM.out.mono ?_
          rintro e W9 ⟨s, rfl, hs, b9⟩
          obtain ⟨WA, g9, f9, hA, yA, -⟩ := (HY8.out.below b9).sett (y' := (x, s, ⟨#[114, 58, 115, 104, 97, 50, 53, 54]⟩, H)) 1 s ⟨#[]⟩ rfl rfl
          obtain ⟨a7, n7, c7, w7, l7, p7, E7⟩ := yA.endd HX.out.1 HN.out HI.out.2.1 HI.out.2.2 hs
          clear yA b9 hs
          go_wp2_with fail
          exact ⟨⟨_, _, _, i + 1, rfl, by go_num, E7.out⟩, by have := HX.out.1; simp [intOf]; omega⟩
      · exact ⟨⟨_, _, _, i + 1, rfl, by go_num, E1.out⟩, by have := HX.out.1; simp [intOf]; omega⟩
      · exact ⟨⟨_, _, _, i + 1, rfl, by go_num, E1.out⟩, by have := HX.out.1; simp [intOf]; omega⟩
      · obtain ⟨V0, hV0⟩ : ∃ V, wr.alloc (.cells #[.string x, .string ⟨#[]⟩, .string ⟨#[]⟩, .string ⟨#[]⟩] 48) = V := ⟨_, rfl⟩
        have yV : Oy wr (x, ⟨#[]⟩, ⟨#[]⟩, ⟨#[]⟩) V0 := by rw [← hV0]; exact HY.out
        have bV : Below wr.heap.size wr V0.drew := ⟨yV.bel.os, yV.bel.tape, yV.bel.output, yV.bel.size, yV.bel.block⟩
        have yD : Oy wr (x, ⟨#[]⟩, ⟨#[]⟩, ⟨#[]⟩) V0.drew := ⟨yV.row, bV⟩
        have k1 := (HBo.out V0.drew bV).2.2.2.1
        have k2 := (HBo.out V0.drew bV).2.2.2.2.1
        have CM : Hid (Calls Tryd.prog 8 #[.int .i64 ((i : Int) + (sd : Int)), .string (⟨#[45]⟩ ++ x)] V0.drew (TxM 300 V0.drew)) := marked_any _ (by omega) (by have := HS.out.sd; have := HX.out.1; have := HN.out; simp at *; omega) _ (by rw [ByteArray.size_append]; have := HX.out.2; show 1 + x.size ≤ 1000; omega) _ (HBo.out V0.drew bV).2.2.2.2.2.1 (HBo.out V0.drew bV).2.2.2.2.2.2
        have HA : Hid (∀ Y s, s.size ≤ 300 → Below V0.drew.heap.size V0.drew Y → ∃ Y2 a' b' d' w', Y.cell? ⟨wr.heap.size, 1, none⟩ = some (.string ⟨#[]⟩) ∧ Y.frozen? ⟨wr.heap.size, 1, none⟩ = false ∧ Y.setCell ⟨wr.heap.size, 1, none⟩ (.string s) = Y2 ∧ (ldO (.pointer (some ⟨wr.heap.size, 0, none⟩))).run Tryd.prog Y2 = .ok (.agg #[.string x, .string s, .string ⟨#[]⟩, .string ⟨#[]⟩]) Y2 ∧ (apO 29 #[.slice oa n' c', .slice (some ⟨Y2.heap.size, 0, none⟩) 1 1]).run Tryd.prog (Y2.alloc (.cells #[.string x, .string s, .string ⟨#[]⟩, .string ⟨#[]⟩] 48)) = .ok (.slice a' b' d') w' ∧ Hid (i + 1 ≤ n ∧ Below w.heap.size w w' ∧ OuL w.heap.size (i + 1) w' (.slice a' b' d'))) := by
          intro Y s hs bY
          obtain ⟨WA, g9, f9, hA, yA, -⟩ := (yD.below bY).sett (y' := (x, s, ⟨#[]⟩, ⟨#[]⟩)) 1 s ⟨#[]⟩ rfl rfl
          obtain ⟨a7, n7, c7, w7, l7, p7, E7⟩ := yA.endd HX.out.1 HN.out HI.out.2.1 HI.out.2.2 hs
          exact ⟨WA, a7, n7, c7, w7, g9, f9, hA, l7, p7, E7⟩
        clear yV bV yD l0 l1 p0 p1 cm cf ct cs cq rcv
        simp only [hV0]
        go_region_with (go_at_call 8; refine Calls.mono CM.out ?_; rintro en Y ⟨s, rfl, hs, bY⟩; obtain ⟨Y2, a7, n7, c7, w7, gY, fY, eY, l7, p7, E7⟩ := HA.out Y s hs bY; clear hs bY)
        all_goals go_wp2_with fail
        all_goals first
          | exact ⟨⟨_, _, _, i + 1, rfl, by go_num, E7.out⟩, by have := HX.out.1; simp [intOf]; omega⟩
          | trace_state
      · exact ⟨⟨_, _, _, i + 1, rfl, by go_num, E0.out⟩, by have := HX.out.1; simp [intOf]; omega⟩
    · have hi1 : ¬ ((i : Int) < (n : Int)) := by omega
      have HE : Hid (OuP W (.returned (.slice oa n' c')) wr) := ⟨_, _, _, rfl, HI.out.2.2.mono (by have := HB.out.all.size; omega) (by have := HI.out.1; have := HT.out.le; omega), (HB.out.below HI.out.2.1).all⟩
      clear hi
      go_wp2_with fail
      go_ret
      exact HE.out
end
end Go.Proofs.YtceclpabdfncoaaDoor.Re
