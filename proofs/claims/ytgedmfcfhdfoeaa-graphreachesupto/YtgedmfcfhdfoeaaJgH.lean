/- Several texts in one: GuR, GuS. -/
import Derived.Test.YtgedmfcfhdfoeaaJgG
import Derived.Deep.QuietTactic
import Derived.BigQuiet
import Derived.Test.YtgedmfcfhdfoeaaGuO
/- Graphs searched by the document: Listed from region 14 on. -/
namespace Go.Proofs.Ytgedmfcfhdfoeaa
open Go.RowKit GM Gux
set_option maxRecDepth 20000
theorem own_mono {w : World} {B B' e sz n : Nat} {v : Value} {xs : List Value} (h : w.ownsRow B e sz v n xs) (hb : B' ≤ B) : w.ownsRow B' e sz v n xs := by
  obtain ⟨h1, h2 | ⟨g, cap, cur, h2, h3, h4⟩⟩ := h
  · exact ⟨h1, .inl h2⟩
  · exact ⟨h1, .inr ⟨g, cap, cur, h2, Nat.le_trans hb h3, h4⟩⟩
/-- The distances, as far answered them. -/
def Dcs (gD N : Nat) (f : Nat → Option Nat) (X : World) : Prop := gD < X.heap.size ∧ ∀ v, v < N → X.cell? ⟨gD, v, none⟩ = some (.int .i64 (dV (f v)))
theorem Dcs.below {gD N : Nat} {f : Nat → Option Nat} {X Y : World} (h : Dcs gD N f X) (hb : Below X.heap.size X Y) : Dcs gD N f Y := ⟨Nat.lt_of_lt_of_le h.1 hb.size, fun v hv => cell_belowX hb (h.2 v hv)⟩
theorem wrapZ {z : Int} {K : Nat} (hz : z + 1 = (K : Int)) (hK : K ≤ 8192) : wrap64 (z + 1) = (K : Int) := by unfold wrap64; omega
theorem neg1 : ¬ (0 : Int) ≤ -1 := by decide
theorem flD_none {f : Nat → Option Nat} {i : Nat} (h : f i = none) (k : Nat) : flD f (i + 1) k = flD f i k := by rw [flD_succ, h]; simp
theorem flD_at {f : Nat → Option Nat} {i d : Nat} (h : f i = some d) : flD f (i + 1) d = flD f i d ++ [i] := by rw [flD_succ, h]; simp
theorem flD_off {f : Nat → Option Nat} {i d k : Nat} (h : f i = some d) (hk : k ≠ d) : flD f (i + 1) k = flD f i k := by
  rw [flD_succ, h]
  have : ¬ d = k := fun e => hk e.symm
  simp [this]
theorem flD_len (f : Nat → Option Nat) (i k : Nat) : (flD f i k).length ≤ i := by
  unfold flD
  have := List.length_filter_le (fun v => decide (f v = some k)) (List.range i)
  rw [List.length_range] at this
  exact this
attribute [local go_sem ↓] toApI toMkV toMkW
set_option maxRecDepth 100000 in
set_option maxHeartbeats 6400000 in
theorem lt14 (X : World) {kG gD N K : Nat} {F : Nat → List Nat} {S : List Nat} {f : Nat → Option Nat} {z : Int} {Q : Ending → World → Prop} (c0 : X.cell? ⟨kG, 0, none⟩ = some (.int .i64 (N : Int))) (hG : Dcs gD N f X) (hN : N ≤ 8192) (hK : K ≤ N) (hz : z + 1 = (K : Int)) (hf : ∀ v k, v < N → f v = some k → k < K) (hsrt : ∀ k, flD f N k = srt (lyr F S k).1) (hlen : ∀ k, (eaL F S k).length ≤ 10000) (hQ : ∀ (o1 o2 : Option Addr) (m c1 c2 : Nat) (wr : World), m = (eaL F S K).length → Below X.heap.size X wr → wr.ownsRow X.heap.size 3 1 (.slice o1 m c1) m (ik ((eaL F S K).map Prod.fst)).toList → wr.ownsRow X.heap.size 3 1 (.slice o2 m c2) m (ik ((eaL F S K).map Prod.snd)).toList → Q (.returned (.tuple #[.slice o1 m c1, .slice o2 m c2, .int .i64 0])) wr) {v0 v1 v3 v4 v5 v6 v7 v8 v9 v12 v13 v14 v15 v16 v17 v18 v19 v20 v21 v22 v23 v24 v25 v26 v27 v28 v29 v30 v31 v32 v33 v34 v35 v36 v37 v38 v39 v40 v41 v42 v43 v44 v45 v46 v47 v48 v49 v50 v51 v52 v53 v54 v55 v56 v57 v58 v59 v60 v61 v62 v63 v64 v65 v66 v67 v68 v69 v70 v71 v72 v73 v74 v75 v76 v77 v78 v79 v80 v81 v82 v83 v84 v85 v86 v87 v88 v89 v90 v91 v92 v93 v94 v95 v96 v97 v98 v99 v100 v101 v102 v103 v104 v105 v106 v107 v108 v109 v110 v111 : Value} :
    Code.wp Try.prog (tlF Try.f16 14) (bodyPost Try.prog Try.f16 Q) ⟨#[v0, v1, .pointer (some ⟨kG, 0, none⟩), v3, v4, v5, v6, v7, v8, v9, .slice (some ⟨gD, 0, none⟩) N N, .int .i64 z, v12, v13, v14, v15, v16, v17, v18, v19, v20, v21, v22, v23, v24, v25, v26, v27, v28, v29, v30, v31, v32, v33, v34, v35, v36, v37, v38, v39, v40, v41, v42, v43, v44, v45, v46, v47, v48, v49, v50, v51, v52, v53, v54, v55, v56, v57, v58, v59, v60, v61, v62, v63, v64, v65, v66, v67, v68, v69, v70, v71, v72, v73, v74, v75, v76, v77, v78, v79, v80, v81, v82, v83, v84, v85, v86, v87, v88, v89, v90, v91, v92, v93, v94, v95, v96, v97, v98, v99, v100, v101, v102, v103, v104, v105, v106, v107, v108, v109, v110, v111], []⟩ X := by
  obtain ⟨W2, s2, R2, b2⟩ := run_mkV X K (by omega)
  obtain ⟨gB, hgB⟩ : ∃ k, X.heap.size = k := ⟨_, rfl⟩
  rw [hgB] at s2 R2
  have wz := wrapZ hz (by omega)
  have HI0 : Hid (Rws gB K (fun k => flD f 0 k) (fun _ => .slice none 0 0) W2 ∧ Below X.heap.size X W2) := ⟨R2, b2⟩
  have HQ := mkHid (And.intro c0 (And.intro hG (And.intro hN (And.intro hK (And.intro hz (And.intro hf (And.intro hsrt (And.intro hlen (And.intro hQ hgB)))))))))
  clear c0 hG hN hK hz hf hsrt hlen hQ R2 b2 hgB
  conv => arg 2; whnf
  go_wp2_with fail
  rename_i K1 hk1
  have HK1 := mkHid hk1
  clear hk1
  go_loopw [14] (fun i wr => ∃ (k : Nat) (U : Nat → Value), i = .int .i64 (k : Int) ∧ k ≤ N ∧ Hid (Rws gB K (fun j => flD f k j) U wr ∧ Below X.heap.size X wr)) (fun i _ => N - (intOf i).toNat)
  case atStart => exact ⟨0, _, rfl, Nat.zero_le _, HI0⟩
  case round =>
    clear HI0 s2
    obtain ⟨k, U, rfl, hk, HI⟩ := hrel
    obtain ⟨c0, hG, hN, hK, hz, hf, hsrt, hlen, -, hgB⟩ := HQ.out
    have c0 : wr.cell? ⟨kG, 0, none⟩ = some (.int .i64 (N : Int)) := cell_belowX HI.out.2 c0
    by_cases hlt : k < N
    · have k1 := ltI hlt
      have k0 := geI k
      have wk := wrapI k (by omega)
      have cD := cell_belowX HI.out.2 (hG.2 k hlt)
      have HJ := mkHid hlt
      cases hfk : f k with
      | none =>
        rw [hfk] at cD
        have n1 := neg1
        have cD : wr.cell? ⟨gD, k, none⟩ = some (.int .i64 (-1)) := cD
        have HNEW : Hid (Rws gB K (fun j => flD f (k + 1) j) U wr ∧ Below X.heap.size X wr) := ⟨HI.out.1.congr fun j _ => (flD_none hfk j).symm, HI.out.2⟩
        clear hG hN hK hz hf hsrt hlen hgB hlt hk HI hfk
        go_wp2_with fail
        exact ⟨⟨k + 1, _, by first | rfl | (rw [wk]; rfl), HJ.out, HNEW⟩, by first | exact measI _ _ HJ.out | (rw [wk]; exact measI _ _ HJ.out)⟩
      | some x =>
        have hxK := hf k x hlt hfk
        rw [hfk] at cD
        have cD : wr.cell? ⟨gD, k, none⟩ = some (.int .i64 (x : Int)) := cD
        have d1 : X.cell? ⟨gD, k, none⟩ = some (.int .i64 (x : Int)) := by have := hG.2 k hlt; rw [hfk] at this; exact this
        obtain ⟨D, hD⟩ : ∃ D, wr.drew = D := ⟨_, rfl⟩
        have bD : Below wr.heap.size wr D := by rw [← hD]; exact below_drew _
        have RD : Rws gB K (fun j => flD f k j) U D := HI.out.1.below bD
        obtain ⟨-, o2, cc2, hU, -⟩ := own_get (RD.own x hxK)
        obtain ⟨l, hl⟩ : ∃ l, l = (flD f k x).length := ⟨_, rfl⟩
        rw [← hl] at hU
        have cU := (RD.cell x hxK).1
        rw [hU] at cU
        obtain ⟨v', W3, sA, cA, fA, RA, bA, oA⟩ := RD.add2 x k hxK (by have := flD_len f k x; omega)
        rw [hU] at sA cA
        obtain ⟨o3, c3, rfl⟩ : ∃ o3 c3, v' = .slice o3 (l + 1) c3 := by
          have := RA.own x hxK
          rw [upd_same, upd_same, List.length_append, List.length_singleton, ← hl] at this
          exact own_size this
        have sD : gB ≤ D.heap.size := by have := HI.out.2.size; have := bD.size; omega
        have hoY : ∀ q i u, q < gB → X.cell? ⟨q, i, none⟩ = some u → D.cell? ⟨q, i, none⟩ = some u ∧ (D.alloc (.cells #[.int .i64 (k : Int)] 3)).cell? ⟨q, i, none⟩ = some u ∧ W3.cell? ⟨q, i, none⟩ = some u := fun q i u hq h => by
          have e1 : D.cell? ⟨q, i, none⟩ = some u := cell_belowX bD (cell_belowX HI.out.2 h)
          have hq2 : q < D.heap.size := by omega
          exact ⟨e1, (World.cell?_of_block (w := D) (a := ⟨q, i, none⟩) (heap_alloc_old D _ (h := hq2))).trans e1, (World.cell?_of_block (w := D) (a := ⟨q, i, none⟩) (oA q hq2 (fun e => by have := ((HI.out.1.own x hxK).lt _ e).1; omega))).trans e1⟩
        obtain ⟨e1, e2, e3⟩ := hoY gD k _ (by rw [← hgB]; exact hG.1) d1
        have aU : (D.alloc (.cells #[.int .i64 (k : Int)] 3)).cell? ⟨gB, x, none⟩ = some (.slice o2 l cc2) := (World.cell?_of_block (w := D) (a := ⟨gB, x, none⟩) (heap_alloc_old D _ (h := RD.lt))).trans cU
        have HNEW : Hid (Rws gB K (fun j => flD f (k + 1) j) (upd U x (.slice o3 (l + 1) c3)) (W3.setCell ⟨gB, x, none⟩ (.slice o3 (l + 1) c3)) ∧ Below X.heap.size X (W3.setCell ⟨gB, x, none⟩ (.slice o3 (l + 1) c3))) := by
          have bw := bA gB (Nat.le_refl _)
          refine ⟨RA.congr fun i _ => ?_, ?_⟩
          · by_cases hi : i = x
            · rw [hi, upd_same, flD_at hfk]
            · rw [upd_other _ _ _ _ hi, flD_off hfk hi]
          · rw [hgB]
            have q1 := HI.out.2
            rw [hgB] at q1
            exact q1.trans ((bD.mono (by have := HI.out.2.size; omega)).trans bw)
        have x1 := ltI hxK
        have x0 := geI x
        clear bD RD hU hl RA bA oA hoY d1 sD hG hN hK hz hf hsrt hlen hgB hlt hk hfk hxK HI
        go_wp2_with fail
        go_region
        go_wp2
        exact ⟨⟨k + 1, _, by first | rfl | (rw [wk]; rfl), HJ.out, HNEW⟩, by first | exact measI _ _ HJ.out | (rw [wk]; exact measI _ _ HJ.out)⟩
    · have i1 := nltI hlt
      have e := eqI hk hlt
      have HZ : Hid (Rws gB K (fun k => srt (lyr F S k).1) U wr ∧ Below X.heap.size X wr) := by
        have h1 := HI.out
        rw [e] at h1
        exact ⟨h1.1.congr fun j _ => hsrt j, h1.2⟩
      clear hG hN hK hz hf hsrt hlen hgB hlt hk HI e
      go_wp2_with fail
      refine HK1.out _ _ ?_
      refine lt20 wr HZ.out.1 (by have := HQ.out.2.2.1; have := HQ.out.2.2.2.1; omega) HQ.out.2.2.2.2.2.2.2.1 HQ.out.2.2.2.2.1 fun o1 o2 m c1 c2 wr2 hm T => ?_
      have bz := HZ.out.2
      exact HQ.out.2.2.2.2.2.2.2.2.1 o1 o2 m c1 c2 wr2 hm (bz.trans (T.bel.mono bz.size)) (own_mono (by have := T.o1; rw [List.length_map, ← hm] at this; exact this) bz.size) (own_mono (by have := T.o2; rw [List.length_map, ← hm] at this; exact this) bz.size)
end Go.Proofs.Ytgedmfcfhdfoeaa

/- Graphs searched by the document: Listed. -/
namespace Go.Proofs.Ytgedmfcfhdfoeaa
open Go.RowKit GM Gux
set_option maxRecDepth 20000
theorem mo_none {f : Nat → Option Nat} {i : Nat} {z : Int} (h : f i = none) (hz : z + 1 = (moD f i : Int)) : z + 1 = (moD f (i + 1) : Int) := by
  rw [hz]; simp [moD, h]
theorem mo_more {f : Nat → Option Nat} {i k : Nat} {z : Int} (h : f i = some k) (hz : z + 1 = (moD f i : Int)) (hl : z < (k : Int)) : (k : Int) + 1 = (moD f (i + 1) : Int) := by
  simp only [moD, h]; omega
theorem mo_stay {f : Nat → Option Nat} {i k : Nat} {z : Int} (h : f i = some k) (hz : z + 1 = (moD f i : Int)) (hl : ¬ z < (k : Int)) : z + 1 = (moD f (i + 1) : Int) := by
  simp only [moD, h]; omega
theorem mo_low {f : Nat → Option Nat} {i : Nat} {z : Int} (hz : z + 1 = (moD f i : Int)) : ¬ z < -1 := by omega
theorem ls_no {N : Int} {E : List (Int × Int)} {l : List Int} {w w' : World} {e0 : Nat} (hb : Below w.heap.size w w') (h0 : e0 ≠ 0) (h : ((chk N E).1 ≠ 0 ∧ e0 = (chk N E).1) ∨ ((chk N E).1 = 0 ∧ okL N.toNat l = false ∧ e0 = 82)) : LsP N E l w (.returned (.tuple #[.slice none 0 0, .slice none 0 0, .int .i64 (e0 : Int)])) w' := ⟨hb, .inl ⟨e0, h0, rfl, h⟩⟩
/-- The first loop. -/
def MoI (f : Nat → Option Nat) (X : World) (z : Int) (i : Nat) (wr : World) : Prop := z + 1 = (moD f i : Int) ∧ wr = X
attribute [local go_sem ↓] toApI toMkV toMkW
set_option maxRecDepth 100000 in
set_option maxHeartbeats 6400000 in
theorem listed_any (N : Int) (E : List (Int × Int)) (l : List Int) (v rv : Value) {g0 : Nat} (w : World) (hv : El v E w) (hR : Ia g0 rv l w) (hl0 : l.length < 1000000000) :
    Calls Try.prog 16 #[grV N v, rv] w (LsP N E l w) := by
  obtain ⟨kG, hkG⟩ : ∃ k, w.heap.size = k := ⟨_, rfl⟩
  obtain ⟨W0, hW0⟩ : ∃ W0, w.alloc (.cells #[.int .i64 N, v] 24) = W0 := ⟨_, rfl⟩
  have b0 : Below w.heap.size w W0 := by rw [← hW0]; exact (Below.refl _ w).alloc (Nat.le_refl _) _
  have r0 : W0.heap[kG]? = some (.cells #[.int .i64 N, v] 24 (0, 0)) := by rw [← hW0, ← hkG]; exact heap_alloc_new _ _
  have C1 := checkR_any N E v W0 (hv.below b0)
  have l0 : W0.cell? ⟨kG, 0, none⟩ = some (.int .i64 N) := (cell_of_row _ _ _ _ _ _ r0).trans rfl
  have l1 : W0.cell? ⟨kG, 1, none⟩ = some v := (cell_of_row _ _ _ _ _ _ r0).trans rfl
  obtain ⟨oo, cc, hvv, -, -⟩ := hv.form
  have HV := mkHid (And.intro hv (And.intro b0 (And.intro hR hl0)))
  obtain ⟨e0, he0⟩ : ∃ e, (chk N E).1 = e := ⟨_, rfl⟩
  obtain ⟨e1, he1⟩ : ∃ e, (chk N E).2 = e := ⟨_, rfl⟩
  rw [he0, he1] at C1
  have HE := mkHid he0
  unfold grV at C1 ⊢
  clear hv b0 r0 he0 he1 hvv hR hl0
  go_enter Try.func16, Try.ntmps16
  go_wp2_with fail
  try rw [hkG]
  try rw [hW0]
  refine C1.mono ?_
  rintro e W1 ⟨rfl, b1⟩
  have l2 := cell_belowX b1 l0
  have l3 := cell_belowX b1 l1
  have HB1 := mkHid (HV.out.2.1.trans (b1.mono HV.out.2.1.size))
  clear C1 b1 l0 l1 hW0
  by_cases h0 : e0 = 0
  · subst h0
    obtain ⟨n, F, rfl, hn, rfl, hF, hl⟩ := chk_ok HE.out
    have C2 := vertices_any (v := v) W1 (N := n) hn (HV.out.2.2.1.below HB1.out) HV.out.2.2.2
    obtain ⟨ok, hok⟩ : ∃ o, okL n l = o := ⟨_, rfl⟩
    have HK := mkHid (And.intro hok (And.intro hn (And.intro hF hl)))
    unfold grV at C2
    clear hn hF hl hok
    dsimp only
    go_upto_region 4 with fail
    go_wp2_with fail
    refine C2.mono ?_
    rintro e W3 ⟨rfl, b3⟩
    have l6 := cell_belowX b3 l2
    have l7 := cell_belowX b3 l3
    rw [HK.out.1]
    have b13 : Below w.heap.size w W3 := HB1.out.trans (b3.mono HB1.out.size)
    have HB3 := mkHid b13
    clear C2 b3 b13 l2 l3
    cases ok
    · go_wp2_with fail
      first | exact ls_no HB3.out (by decide) (.inr ⟨HE.out, by rw [Int.toNat_natCast]; exact HK.out.1, rfl⟩) | go_ret3
      exact ls_no HB3.out (by decide) (.inr ⟨HE.out, by rw [Int.toNat_natCast]; exact HK.out.1, rfl⟩)
    · obtain ⟨S, rfl, hS⟩ := okL_nat HK.out.1
      have C4 := needsR_any n HK.out.2.1 F HK.out.2.2.1 HK.out.2.2.2 v W3 (HV.out.1.below HB3.out)
      have HXY := mkHid hS
      unfold grV at C4
      clear hS
      go_wp2_with fail
      refine C4.mono ?_
      rintro e W4 ⟨g4, V4, rfl, R4, b4, -⟩
      have lu6 := cell_belowX b4 l6
      have bw4 := HB3.out.trans (b4.mono HB3.out.size)
      have C5 := far_any W4 (g := g4) (N := n) (g0 := g0) (V := V4) (F := ndF n F) (rv := rv) (S := S) HK.out.2.1 R4 (fun v _ x hx => ndF_lt v x hx) ndF_len (ia_il (HV.out.2.2.1.below bw4)) HXY.out (by have := HV.out.2.2.2; rw [List.length_map] at this; exact this)
      have HB4 := mkHid bw4
      clear C4 R4 b4 l6 l7 bw4
      go_wp2_with fail
      refine C5.mono ?_
      rintro e X ⟨gD, f, dl, rfl, b5, row5, hdl, hdv, hfd, -⟩
      have c0 := cell_belowX b5 lu6
      have HX := mkHid (HB4.out.trans (b5.mono HB4.out.size))
      have hdcs : Dcs gD n f X := ⟨(Array.getElem?_eq_some_iff.1 row5).1, fun v hv => by rw [← hdv v hv]; exact (cell_of_row _ _ _ _ _ _ row5).trans (izU_get _ _ (by omega))⟩
      have hfF : ∀ v, v < n → ∀ x ∈ ndF n F v, x < n := fun v _ x hx => ndF_lt v x hx
      have HD := mkHid (And.intro hdcs (And.intro hfd (And.intro hfF c0)))
      have H0 : Hid (MoI f X (-1) 0 X) := ⟨rfl, rfl⟩
      clear C5 b5 lu6 row5 hdl hdv hfd hdcs hfF c0
      go_wp2_with fail
      rename_i K1 hk1
      have HK1 := mkHid hk1
      clear hk1
      go_loopw [11, 12] (fun zv iv wr => ∃ (i : Nat) (z : Int), zv = .int .i64 z ∧ iv = .int .i64 (i : Int) ∧ i ≤ n ∧ Hid (MoI f X z i wr)) (fun _ iv _ => n - (intOf iv).toNat)
      case atStart => exact ⟨0, -1, rfl, rfl, Nat.zero_le _, H0⟩
      case round =>
        clear H0
        obtain ⟨i, z, rfl, rfl, hi, HI⟩ := hrel
        obtain ⟨hz, rfl⟩ := HI.out
        have c0 := HD.out.2.2.2
        by_cases hlt : i < n
        · have i0 := geI i
          have i1 := ltI hlt
          have wi := wrapI i (by have := HK.out.2.1; omega)
          have cD := HD.out.1.2 i hlt
          have HL := mkHid hlt
          cases hfk : f i with
          | none =>
            rw [hfk] at cD
            replace cD : wr.cell? ⟨gD, i, none⟩ = some (.int .i64 (-1)) := cD
            have n1 := mo_low hz
            have HN : Hid (MoI f wr z (i + 1) wr) := ⟨mo_none hfk hz, rfl⟩
            clear hz hlt hi HI hfk
            go_wp2_with fail
            exact ⟨⟨i + 1, z, rfl, by first | (rw [wi]; rfl) | rfl, HL.out, HN.out⟩, by first | (rw [wi]; exact measI _ _ HL.out) | exact measI _ _ HL.out⟩
          | some k =>
            rw [hfk] at cD
            replace cD : wr.cell? ⟨gD, i, none⟩ = some (.int .i64 (k : Int)) := cD
            by_cases hzk : z < (k : Int)
            · have HN : Hid (MoI f wr (k : Int) (i + 1) wr) := ⟨mo_more hfk hz hzk, rfl⟩
              clear hz hlt hi HI hfk
              go_wp2_with fail
              exact ⟨⟨i + 1, (k : Int), rfl, by first | (rw [wi]; rfl) | rfl, HL.out, HN.out⟩, by first | (rw [wi]; exact measI _ _ HL.out) | exact measI _ _ HL.out⟩
            · have HN : Hid (MoI f wr z (i + 1) wr) := ⟨mo_stay hfk hz hzk, rfl⟩
              clear hz hlt hi HI hfk
              go_wp2_with fail
              exact ⟨⟨i + 1, z, rfl, by first | (rw [wi]; rfl) | rfl, HL.out, HN.out⟩, by first | (rw [wi]; exact measI _ _ HL.out) | exact measI _ _ HL.out⟩
        · have i1 := nltI hlt
          have HZ := mkHid (show z + 1 = (moD f n : Int) by rw [hz, eqI hi hlt])
          clear hlt hi HI hz
          go_wp2_with fail
          refine HK1.out _ _ ?_
          refine lt14 wr HD.out.2.2.2 HD.out.1 HK.out.2.1 (moD_bound (N := n) (fun v k _ hv => dsS_bound HXY.out HD.out.2.2.1 ((HD.out.2.1 v k).1 hv)) n (Nat.le_refl _)) HZ.out (fun v k hv hk => moD_le hk n hv) (fun k => flD_full HXY.out HD.out.2.2.1 HD.out.2.1 k) (fun k => Nat.le_trans (eaL_tot HXY.out HD.out.2.2.1 k) (by have := HK.out.2.1; omega)) fun o1 o2 m c1 c2 w9 hm hb q1 q2 => ?_
          exact ⟨HX.out.trans (hb.mono HX.out.size), .inr ⟨n, F, S, moD f n, o1, o2, m, c1, c2, rfl, rfl, rfl, HE.out, HXY.out, moD_end HXY.out HD.out.2.2.1 HD.out.2.1, hm, rfl, own_mono q1 HX.out.size, own_mono q2 HX.out.size⟩⟩
  · have n0 : ((e0 : Int) == 0) = false := by simpa using h0
    have n1 : ¬ ((e0 : Int) = 0) := by omega
    have HR := mkHid (ls_no (N := N) (E := E) (l := l) HB1.out h0 (.inl ⟨by rw [HE.out]; exact h0, HE.out.symm⟩))
    clear h0
    dsimp only
    go_wp2_with fail
    first | exact HR.out | (go_ret3; exact HR.out)
end Go.Proofs.Ytgedmfcfhdfoeaa
