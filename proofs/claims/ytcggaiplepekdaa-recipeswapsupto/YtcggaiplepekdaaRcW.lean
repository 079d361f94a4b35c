/- Recipes: Put of the document. -/
import Derived.Test.YtcggaiplepekdaaRcU
namespace Go.Proofs.Ytcggaiplepekdaa
open Go.RowKit
section
attribute [local go_sem ↓] toLdR toStR
set_option maxRecDepth 100000 in
set_option maxHeartbeats 3200000 in
theorem putR_ok (W : World) (o n s a e : Value) (R : Rcp) (hs : Sm R) (h : Rc W o n s a e R) (lv : Value) (ls : List S) (hl : Ls W lv 1 (ls.map sR)) (hq : ls.length = R.o.length) : Calls Try.prog 14 #[.agg (rV o n s R.sys R.bld a e), lv] W (GiE W (rel R ls) 0) := by
  obtain ⟨ol, cl, hlv⟩ := hl.form
  obtain ⟨ll, hll2⟩ : ∃ k, ls.length = k := ⟨_, rfl⟩
  rw [List.length_map, hll2] at hlv
  subst hlv
  obtain ⟨yo, do_, fo⟩ := h.o.form
  rw [List.length_map, ← hq, hll2] at fo
  subst fo
  obtain ⟨B0, hB0⟩ : ∃ B0, (W.alloc (.cells (rV (.slice yo ll do_) n s R.sys R.bld a e) 27)).alloc (.cells zR 27) = B0 := ⟨_, rfl⟩
  have x0 : Bx W (rV (.slice yo ll do_) n s R.sys R.bld a e) B0 := hB0 ▸ bx_new W _
  have HC : Hid _ := twin_any B0 (.slice yo ll do_) n s a e R hs (h.below x0.bel)
  have l0 := ld_R B0 W.heap.size _ rfl x0.r0
  have HB : Hid (Bx W (rV (.slice yo ll do_) n s R.sys R.bld a e) B0) := x0
  have HR : Hid (Sm R) := hs
  have HZ0 : Hid (ls.length = R.o.length ∧ ls.length = ll ∧ Ls W (.slice ol ll cl) 1 (ls.map sR)) := ⟨hq, hll2, hl⟩
  have HB0 : Hid (_ = B0) := hB0
  rw [← hB0] at l0
  unfold rV zR at HB0 l0
  unfold rV
  clear h hs x0 hB0 hq hll2 hl
  go_enter Try.func14, Try.ntmps14
  go_wp2_with fail
  rw [HB0.out]
  refine Calls.mono HC.out ?_
  rintro en w1 ⟨o', n', s', a', e', us, rfl, tw, bw⟩
  have bx1 := HB.out.below bw
  have s1 := st_R w1 W.heap.size _ (rV o' n' s' R.sys R.bld a' e') rfl rfl (tw.one _ _) bx1.r0
  obtain ⟨X, hX⟩ : ∃ X, w1.setRow W.heap.size (rV o' n' s' R.sys R.bld a' e') = X := ⟨_, rfl⟩
  have HS : Hid (Rd W (rV o' n' s' R.sys R.bld a' e') o' n' s' a' e' us R X) := by
    rw [← hX]
    exact ⟨⟨below_setRow bx1.bel (Nat.le_refl _) _, setRow_heap _ _ _ _ _ _ bx1.r0, (setRow_other _ _ _ _ (by omega)).trans bx1.r1⟩, (tw.mono HB.out.bel.size).rows (fun g D t hD ht => setRow_other _ _ _ _ (tag_ne hD bx1.r0 ht))⟩
  rw [hX] at s1
  obtain ⟨xo, co, fo, -⟩ := tw.fo.form
  obtain ⟨xe, ce, fe, -⟩ := tw.fe.form
  obtain ⟨lo, hlo⟩ : ∃ k, R.o.length = k := ⟨_, rfl⟩
  obtain ⟨le, hle⟩ : ∃ k, R.e.length = k := ⟨_, rfl⟩
  obtain rfl : ll = lo := by have := HZ0.out; omega
  rw [List.length_map, hlo] at fo
  rw [List.length_map, hle] at fe
  subst fo fe
  have HL : Hid (R.o.length = ll ∧ R.e.length = le) := ⟨hlo, hle⟩
  have HO : Hid ((rV (.slice xo ll co) n' s' R.sys R.bld a' (.slice xe le ce)).all (·.oneCell') = true) := tw.one _ _
  have wl : IntKind.i64.wrap ((ll : Int) - 1) = (ll : Int) - 1 := by rw [IntKind.wrap_i64]; have := HR.out.1; have := HL.out.1; omega
  unfold rV at s1
  unfold rV
  clear tw bw bx1 hX hlo hle HC l0 HB0 HB
  go_wp2_with fail
  clear s1 wl
  obtain ⟨C1, hC1⟩ : ∃ C : Array Value, C = rV (.slice xo ll co) n' s' R.sys R.bld a' (.slice xe le ce) := ⟨_, rfl⟩
  have HCC : Hid (C1 = rV (.slice xo ll co) n' s' R.sys R.bld a' (.slice xe le ce)) := hC1
  rw [← hC1] at HS
  clear hC1
  go_loopw [6, 7] (fun iv _ wr => ∃ (i : Nat) (z : Int) (oi : List Out) (ei : List Pai), iv = .int .i64 z ∧ Hid (z = (i : Int) - 1 ∧ i ≤ ll ∧ Dn R.o ls (fun j => decide (i ≤ j)) oi ∧ De R.e (fun _ p => gP ((R.o.zip ls).drop i) p) ei ∧ Rd W C1 (.slice xo ll co) n' s' a' (.slice xe le ce) us { R with o := oi, e := ei } wr)) (fun iv _ _ => (intOf iv + 1).toNat)
  case atStart => exact ⟨ll, _, R.o, R.e, rfl, rfl, Nat.le_refl _, ⟨rfl, fun j x l q1 q2 => by have := (List.getElem?_eq_some_iff.1 q1).1; have := HL.out.1; rw [q1]; simp [show ¬ ll ≤ j by omega]⟩, (De.start R.e).to (fun j p _ => by rw [List.drop_of_length_le (by rw [List.length_zip]; have := HZ0.out; omega)]; rfl), HS.out⟩
  case round =>
    obtain ⟨i0, z, oi, ei, rfl, HI⟩ := hrel
    by_cases hi : 0 < i0
    · obtain ⟨ez, ile, dn, de, rd⟩ := HI.out
      obtain ⟨i, rfl⟩ : ∃ i, i0 = i + 1 := ⟨i0 - 1, by omega⟩
      obtain rfl : z = (i : Int) := by omega
      have hin : i < R.o.length := by have := HL.out.1; omega
      obtain ⟨x, hx⟩ : ∃ x, R.o[i]? = some x := ⟨_, List.getElem?_eq_getElem hin⟩
      obtain ⟨l, hl⟩ : ∃ l, ls[i]? = some l := ⟨_, List.getElem?_eq_getElem (by have := HZ0.out.1; omega)⟩
      obtain ⟨y, hy, hy1, hy2⟩ := dn.name hx hl
      obtain ⟨g, rfl⟩ := rd.tw.fo.own (by omega)
      have hl2 : (ls.map sR)[i]? = some (sR l) := by rw [List.getElem?_map, hl]; rfl
      obtain ⟨gl, ql, rfl, hgl, rl⟩ := HZ0.out.2.2.at i _ hl2
      have HLL : Hid (∀ Y, Below W.heap.size W Y → Y.cell? ⟨gl, ql + i, none⟩ = some (.string l)) := fun Y hY => by have := range_block rl (hY.block _ hgl) 0 (.string l) rfl; simpa using this
      have cl1 : wr.drew.cell? ⟨gl, ql + i, none⟩ = some (.string l) := HLL.out _ rd.bx.drew.bel
      have k0 : wr.drew.cell? ⟨W.heap.size, 0, none⟩ = some (.slice (some ⟨g, 0, none⟩) ll co) := rd.bx.cel (by rw [HCC.out]; rfl)
      have hy3 : (oi.map oR)[i]? = some (oR y) := by rw [List.getElem?_map, hy]; rfl
      have rdd := rd.below (below_drw wr)
      have fz : wr.drew.frozen? ⟨g, i * 4 + 1, none⟩ = false := rdd.tw.fo.fro _
      have oc : wr.drew.cell? ⟨g, i * 4 + 1, none⟩ = some (.string y.2.1) := rdd.tw.fo.cel i 1 _ _ hy3 rfl
      have rdz := rdd.setO l hy
      have dn' := dn.set (d' := fun j => decide (i ≤ j)) hx hl hy (fun j => by
        by_cases q : j = i
        · simp [q]
        · by_cases q2 : i + 1 ≤ j
          · simp [q2, show i ≤ j by omega]
          · simp [q, q2, show ¬ i ≤ j by omega])
      have zs : (R.o.zip ls).drop i = (x, l) :: (R.o.zip ls).drop (i + 1) := by
        have hz : (R.o.zip ls)[i]? = some (x, l) := by rw [List.getElem?_zip_eq_some]; exact ⟨hx, hl⟩
        obtain ⟨hz1, hz2⟩ := List.getElem?_eq_some_iff.1 hz
        rw [List.drop_eq_getElem_cons hz1, hz2]
      obtain ⟨Z, hZ⟩ : ∃ Z, wr.drew.setCell ⟨g, i * 4 + 1, none⟩ (.string l) = Z := ⟨_, rfl⟩
      rw [hZ] at rdz
      have hz3 : ((oi.set i (y.1, l, y.2.2)).map oR)[i]? = some (oR (y.1, l, y.2.2)) := by rw [List.getElem?_map, List.getElem?_set_self (by rw [dn.1]; exact hin)]; rfl
      obtain ⟨oj, hoj⟩ : ∃ oj, oi.set i (y.1, l, y.2.2) = oj := ⟨_, rfl⟩
      rw [hoj] at rdz dn' hz3
      have HN : Hid (i < ll ∧ (R.o.zip ls).drop i = (x, l) :: (R.o.zip ls).drop (i + 1) ∧ Dn R.o ls (fun j => decide (i ≤ j)) oj ∧ y.1 = x.1 ∧ (oj.map oR)[i]? = some (oR (y.1, l, y.2.2))) := ⟨by omega, zs, dn', hy1, hz3⟩
      have HE : Hid (De R.e (fun _ p => gP ((R.o.zip ls).drop (i + 1)) p) ei ∧ Rd W C1 (.slice (some ⟨g, 0, none⟩) ll co) n' s' a' (.slice xe le ce) us { R with o := oj, e := ei } Z) := ⟨de, rdz⟩
      have hi0 : (0 : Int) ≤ (i : Int) := by omega
      have hi1 : (i : Int) < (ll : Int) := by omega
      have w1' : IntKind.i64.wrap ((i : Int) - 1) = (i : Int) - 1 := by rw [IntKind.wrap_i64]; have := HR.out.1; have := HL.out.1; omega
      obtain ⟨y1, y2, y3, y4⟩ := y
      clear hi ez ile dn de rd hin hx hl hy hy1 hy2 hy3 rdd rdz dn' hz3 hoj zs hl2 hgl rl
      go_wp2_with fail
      go_region
      go_wp2_with fail
      go_loopw [7] (fun jv wr => ∃ (j : Nat) (ej : List Pai), jv = .int .i64 (j : Int) ∧ Hid (j ≤ le ∧ De R.e (fun m p => if m < j then gP ((R.o.zip ls).drop i) p else gP ((R.o.zip ls).drop (i + 1)) p) ej ∧ Rd W C1 (.slice (some ⟨g, 0, none⟩) ll co) n' s' a' (.slice xe le ce) us { R with o := oj, e := ej } wr)) (fun jv _ => le + 1 - (intOf jv).toNat)
      case atStart => exact ⟨0, ei, rfl, Nat.zero_le _, by simpa using HE.out.1, HE.out.2⟩
      case round =>
        obtain ⟨j, ej, rfl, HJ⟩ := hrel
        have k6 : wr.cell? ⟨W.heap.size, 6, none⟩ = some (.slice xe le ce) := HJ.out.2.2.bx.cel (by rw [HCC.out]; rfl)
        by_cases hj : j < le
        · obtain ⟨jle, de, rd⟩ := HJ.out
          have hjn : j < R.e.length := by have := HL.out.2; omega
          obtain ⟨p, hp⟩ : ∃ p, R.e[j]? = some p := ⟨_, List.getElem?_eq_getElem hjn⟩
          obtain ⟨q, hq⟩ : ∃ q, gP ((R.o.zip ls).drop (i + 1)) p = q := ⟨_, rfl⟩
          have hq1 : q.1 = p.1 := by rw [← hq]; exact gP_key _ _
          have hq2 : ej[j]? = some q := by have := de.2 j p hp; simpa [hq] using this
          have hq3 : (ej.map eR)[j]? = some (eR q) := by rw [List.getElem?_map, hq2]; rfl
          obtain ⟨ge, rfl⟩ := rd.tw.fe.own (by omega)
          have kd0 : wr.drew.cell? ⟨W.heap.size, 0, none⟩ = some (.slice (some ⟨g, 0, none⟩) ll co) := rd.bx.cel (by rw [HCC.out]; rfl)
          have kd6 : wr.drew.cell? ⟨W.heap.size, 6, none⟩ = some (.slice (some ⟨ge, 0, none⟩) le ce) := k6
          have n1 : wr.drew.cell? ⟨g, i * 4, none⟩ = some (.string y1) := rd.tw.fo.cel i 0 _ _ HN.out.2.2.2.2 rfl
          have n2 : wr.drew.cell? ⟨ge, j * 2, none⟩ = some (.string q.1) := rd.tw.fe.cel j 0 _ _ hq3 rfl
          have hj0 : (0 : Int) ≤ (j : Int) := by omega
          have hj1 : (j : Int) < (le : Int) := by omega
          have wj : IntKind.i64.wrap ((j : Int) + 1) = (j : Int) + 1 := by rw [IntKind.wrap_i64]; have := HR.out.2.2.2.2.1; have := HL.out.2; omega
          by_cases hk : q.1 = y1
          · have rdd := rd.below (below_drw wr)
            obtain ⟨E2, hE2⟩ : ∃ E, wr.drew = E := ⟨_, rfl⟩
            have rdd2 := rdd.below (below_drw wr.drew)
            have kd6' : wr.drew.drew.cell? ⟨W.heap.size, 6, none⟩ = some (.slice (some ⟨ge, 0, none⟩) le ce) := k6
            have cl2 : wr.drew.drew.cell? ⟨gl, ql + i, none⟩ = some (.string l) := HLL.out _ rdd2.bx.bel
            have fz : wr.drew.drew.frozen? ⟨ge, j * 2 + 1, none⟩ = false := rdd2.tw.fe.fro _
            have oc : wr.drew.drew.cell? ⟨ge, j * 2 + 1, none⟩ = some (.string q.2) := rdd2.tw.fe.cel j 1 _ _ hq3 rfl
            have rdz := rdd2.setE l hq2
            obtain ⟨Z2, hZ2⟩ : ∃ Z, wr.drew.drew.setCell ⟨ge, j * 2 + 1, none⟩ (.string l) = Z := ⟨_, rfl⟩
            rw [hZ2] at rdz
            have eg : gP ((R.o.zip ls).drop i) p = (q.1, l) := by
              rw [HN.out.2.1, hq1]
              exact gP_cons_hit _ _ p (by rw [← hq1, hk]; exact HN.out.2.2.2.1.symm)
            have HF : Hid (j < le ∧ De R.e (fun m p => if m < j + 1 then gP ((R.o.zip ls).drop i) p else gP ((R.o.zip ls).drop (i + 1)) p) (ej.set j (q.1, l)) ∧ Rd W C1 (.slice (some ⟨g, 0, none⟩) ll co) n' s' a' (.slice (some ⟨ge, 0, none⟩) le ce) us { R with o := oj, e := ej.set j (q.1, l) } Z2) := ⟨hj, de.set hp (by simp [eg]) (fun m u hm z => by
              by_cases q2 : m < j
              · simp [q2, show m < j + 1 by omega]
              · simp [q2, show ¬ m < j + 1 by omega]), rdz⟩
            obtain ⟨q1, q2⟩ := q
            clear hj jle de rd hjn hp hq hq1 hq2 hq3 rdd rdd2 rdz eg hE2
            go_wp2_with fail
            go_region
            go_wp2_with fail
            go_region
            go_wp2_with fail
            go_roundw
            case rel => exact ⟨j + 1, _, by go_num, HF.out.1, HF.out.2.1, HF.out.2.2⟩
            case measure => have := HF.out.1; simp [intOf]; omega
          · have eg : gP ((R.o.zip ls).drop i) p = q := by
              rw [HN.out.2.1, ← hq]
              exact gP_cons_miss _ _ p (fun z => hk (by rw [hq1, ← z]; exact HN.out.2.2.2.1.symm))
            have HF : Hid (j < le ∧ De R.e (fun m p => if m < j + 1 then gP ((R.o.zip ls).drop i) p else gP ((R.o.zip ls).drop (i + 1)) p) ej ∧ Rd W C1 (.slice (some ⟨g, 0, none⟩) ll co) n' s' a' (.slice (some ⟨ge, 0, none⟩) le ce) us { R with o := oj, e := ej } wr.drew) := ⟨hj, de.to (fun m u hm => by
              by_cases z : m = j
              · subst z
                obtain rfl : p = u := Option.some.inj (hp.symm.trans hm)
                simp [eg, hq]
              · by_cases q2 : m < j
                · simp [q2, show m < j + 1 by omega]
                · simp [q2, show ¬ m < j + 1 by omega]), rd.below (below_drw wr)⟩
            obtain ⟨q1, q2⟩ := q
            have hk' := tl_ne (s := q1) (t := y1) hk
            clear hj jle de rd hjn hp hq hq1 hq2 hq3 eg hk
            go_wp2_with fail
            go_region
            go_wp2_with fail
            go_roundw
            case rel => exact ⟨j + 1, _, by go_num, HF.out.1, HF.out.2.1, HF.out.2.2⟩
            case measure => have := HF.out.1; simp [intOf]; omega
        · obtain ⟨jle, de, rd⟩ := HJ.out
          have HF : Hid (De R.e (fun _ p => gP ((R.o.zip ls).drop i) p) ej ∧ Rd W C1 (.slice (some ⟨g, 0, none⟩) ll co) n' s' a' (.slice xe le ce) us { R with o := oj, e := ej } wr) := ⟨de.to (fun m u hm => by
            have := (List.getElem?_eq_some_iff.1 hm).1
            have := HL.out.2
            simp [show m < j by omega]), rd⟩
          have hj2 : ¬ ((j : Int) < (le : Int)) := by omega
          clear hj jle de rd
          go_wp2_with fail
          go_roundw
          case rel => exact ⟨i, _, _, _, rfl, rfl, by have := HN.out.1; omega, HN.out.2.2.1, HF.out.1, HF.out.2⟩
          case measure => simp [intOf]
    · obtain ⟨ez, ile, dn, de, rd⟩ := HI.out
      obtain rfl : i0 = 0 := by omega
      have eo := dn.fin (fun j hj => by simp) HZ0.out.1
      have ee := de.fin (g := gP (R.o.zip ls)) (fun j p hj => by rw [List.drop_zero])
      have tw := rd.tw
      rw [ee, eo] at tw
      have bx := rd.bx
      rw [HCC.out] at bx
      have ldR' := ld_R wr W.heap.size _ rfl bx.r0
      obtain ⟨Z, s1, HF⟩ : ∃ Z, (stR (.pointer (some ⟨W.heap.size + 1, 0, none⟩)) (.agg (rV (.slice xo ll co) n' s' R.sys R.bld a' (.slice xe le ce)))).run Try.prog wr = .ok () Z ∧ Hid (Gv W (rel R ls) (.slice xo ll co) n' s' a' (.slice xe le ce) us Z) :=
        ⟨_, st_R wr (W.heap.size + 1) _ _ rfl rfl HO.out bx.r1, tw.rows (fun g C t hC ht => setRow_other _ _ _ _ (tag_ne hC bx.r1 ht)), below_setRow bx.bel (by omega) _, setRow_heap _ _ _ _ _ _ bx.r1⟩
      have hi2 : ¬ ((0 : Int) ≤ z) := by omega
      unfold rV at ldR' s1
      clear hi ez ile dn de rd eo ee tw bx
      go_wp2_with fail
      refine bodyPost_ret (results_R2 rfl _ _ (W.heap.size + 1) _ rfl rfl HF.out.row) rfl ?_
      exact ⟨_, _, _, _, _, us, rfl, HF.out.tw, HF.out.bel⟩
end
end Go.Proofs.Ytcggaiplepekdaa
