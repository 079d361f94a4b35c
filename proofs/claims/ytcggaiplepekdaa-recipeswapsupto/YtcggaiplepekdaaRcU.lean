/- Recipes: Blank and Put of the document. -/
import Derived.Test.YtcggaiplepekdaaRcT
namespace Go.Proofs.Ytcggaiplepekdaa
open Go.RowKit
/-- A recipe of one's own in the box. -/
structure Rd (W : World) (C : Array Value) (o n s a e : Value) (us : List Value) (R : Rcp) (wr : World) : Prop where
  bx : Bx W C wr
  tw : Tw W.heap.size wr o n s a e us R
theorem Rd.below {W : World} {C : Array Value} {o n s a e : Value} {us : List Value} {R : Rcp} {wr w' : World} (h : Rd W C o n s a e us R wr) (hb : Below wr.heap.size wr w') : Rd W C o n s a e us R w' := ⟨h.bx.below hb, h.tw.below hb⟩
theorem Rd.setO {W : World} {C : Array Value} {g m c : Nat} {n s a e : Value} {us : List Value} {R : Rcp} {wr : World} (h : Rd W C (.slice (some ⟨g, 0, none⟩) m c) n s a e us R wr) {i : Nat} {x : Out} (l : S) (hx : R.o[i]? = some x) : Rd W C (.slice (some ⟨g, 0, none⟩) m c) n s a e us { R with o := R.o.set i (x.1, l, x.2.2) } (wr.setCell ⟨g, i * 4 + 1, none⟩ (.string l)) := ⟨h.bx.other h.tw.fo (by decide) (Nat.le_refl _), h.tw.setO l hx⟩
theorem Rd.setE {W : World} {C : Array Value} {g m c : Nat} {o n s a : Value} {us : List Value} {R : Rcp} {wr : World} (h : Rd W C o n s a (.slice (some ⟨g, 0, none⟩) m c) us R wr) {i : Nat} {x : Pai} (l : S) (hx : R.e[i]? = some x) : Rd W C o n s a (.slice (some ⟨g, 0, none⟩) m c) us { R with e := R.e.set i (x.1, l) } (wr.setCell ⟨g, i * 2 + 1, none⟩ (.string l)) := ⟨h.bx.other h.tw.fe (by decide) (Nat.le_refl _), h.tw.setE l hx⟩
theorem lk_app (l : List (Out × S)) (z : Out × S) (k : S) : lk (l ++ [z]) k = (lk l k).or (if z.1.1 = k then some z.2 else none) := by
  unfold lk
  rw [List.find?_append]
  cases h : l.find? (fun z => decide (z.1.1 = k)) with
  | none =>
    by_cases e : z.1.1 = k <;> simp [e]
  | some y => simp
theorem lk_emp {o : List Out} {n i : Nat} {k l : S} (h : lk ((o.zip (List.replicate n EMP)).take i) k = some l) : l = EMP := by
  unfold lk at h
  rw [Option.map_eq_some_iff] at h
  obtain ⟨z, hz, rfl⟩ := h
  have := List.mem_of_mem_take (List.mem_of_find?_eq_some hz)
  have := (List.of_mem_zip (a := z.1) (b := z.2) this).2
  exact (List.mem_replicate.1 this).2
theorem gP_take_hit {o : List Out} {n i : Nat} {x : Out} (hx : o[i]? = some x) (hn : o.length = n) (p : Pai) (h : x.1 = p.1) : gP ((o.zip (List.replicate n EMP)).take (i + 1)) p = (p.1, EMP) := by
  have hi := (List.getElem?_eq_some_iff.1 hx).1
  have hz : (o.zip (List.replicate n EMP))[i]? = some (x, EMP) := by rw [List.getElem?_zip_eq_some]; exact ⟨hx, by rw [List.getElem?_replicate, if_pos (by omega)]⟩
  unfold gP
  rw [List.take_add_one, hz]
  show (match lk (List.take i (o.zip (List.replicate n EMP)) ++ [(x, EMP)]) p.1 with | some l => (p.1, l) | none => p) = _
  rw [lk_app, if_pos h]
  cases hq : lk ((o.zip (List.replicate n EMP)).take i) p.1 with
  | none => rfl
  | some l =>
    obtain rfl := lk_emp hq
    rfl
theorem gP_take_miss {o : List Out} {n i : Nat} {x : Out} (hx : o[i]? = some x) (hn : o.length = n) (p : Pai) (h : x.1 ≠ p.1) : gP ((o.zip (List.replicate n EMP)).take (i + 1)) p = gP ((o.zip (List.replicate n EMP)).take i) p := by
  have hi := (List.getElem?_eq_some_iff.1 hx).1
  have hz : (o.zip (List.replicate n EMP))[i]? = some (x, EMP) := by rw [List.getElem?_zip_eq_some]; exact ⟨hx, by rw [List.getElem?_replicate, if_pos (by omega)]⟩
  unfold gP
  rw [List.take_add_one, hz]
  show (match lk (List.take i (o.zip (List.replicate n EMP)) ++ [(x, EMP)]) p.1 with | some l => (p.1, l) | none => p) = _
  rw [lk_app, if_neg h]
  cases lk ((o.zip (List.replicate n EMP)).take i) p.1 <;> rfl
theorem tl_ne {s t : S} (h : ¬ s = t) : (ByteArray.toList s == ByteArray.toList t) = false := by
  rw [ByteArray.toList_eq, ByteArray.toList_eq]
  simp only [beq_eq_false_iff_ne, ne_eq]
  intro e
  apply h
  cases s; cases t
  simp at e
  rw [e]
section
attribute [local go_sem ↓] toLdR toStR
set_option maxRecDepth 100000 in
set_option maxHeartbeats 3200000 in
theorem blankR_any (W : World) (o n s a e : Value) (R : Rcp) (hs : Sm R) (h : Rc W o n s a e R) : Calls Try.prog 12 #[.agg (rV o n s R.sys R.bld a e)] W (GiR W (rel R (List.replicate R.o.length EMP))) := by
  obtain ⟨B0, hB0⟩ : ∃ B0, (W.alloc (.cells (rV o n s R.sys R.bld a e) 27)).alloc (.cells zR 27) = B0 := ⟨_, rfl⟩
  have x0 : Bx W (rV o n s R.sys R.bld a e) B0 := hB0 ▸ bx_new W _
  have HC : Hid _ := twin_any B0 o n s a e R hs (h.below x0.bel)
  have l0 := ld_R B0 W.heap.size _ rfl x0.r0
  have HB : Hid (Bx W (rV o n s R.sys R.bld a e) B0) := x0
  have HR : Hid (Sm R) := hs
  obtain ⟨ls, hls⟩ : ∃ ls, List.replicate R.o.length EMP = ls := ⟨_, rfl⟩
  have HZ0 : Hid (List.replicate R.o.length EMP = ls) := hls
  rw [hls]
  clear hls
  have HB0 : Hid (_ = B0) := hB0
  rw [← hB0] at l0
  unfold rV zR at HB0 l0
  unfold rV
  clear h hs x0 hB0
  go_enter Try.func12, Try.ntmps12
  go_wp2_with fail
  rw [HB0.out]
  refine Calls.mono HC.out ?_
  rintro en w1 ⟨o', n', s', a', e', us, rfl, tw, bw⟩
  have bx1 := HB.out.below bw
  have s1 := st_R w1 W.heap.size _ (rV o' n' s' R.sys R.bld a' e') rfl rfl (tw.one _ _) bx1.r0
  obtain ⟨X, hX⟩ : ∃ X, w1.setRow W.heap.size (rV o' n' s' R.sys R.bld a' e') = X := ⟨_, rfl⟩
  have HS : Hid (Rd W (rV o' n' s' R.sys R.bld a' e') o' n' s' a' e' us R X) := by
    rw [← hX]
    exact ⟨⟨below_setRow bx1.bel (Nat.le_refl _) _, setRow_heap _ _ _ _ _ _ bx1.r0, (setRow_other _ _ _ _ (by omega)).trans bx1.r1⟩, (tw.mono HB.out.bel.size).rows (fun g D t hD ht => setRow_other _ _ _ _ (tag_ne hD bx1.r0 ht))⟩
  rw [hX] at s1
  obtain ⟨xo, co, fo, -⟩ := tw.fo.form
  obtain ⟨xe, ce, fe, -⟩ := tw.fe.form
  obtain ⟨lo, hlo⟩ : ∃ k, R.o.length = k := ⟨_, rfl⟩
  obtain ⟨le, hle⟩ : ∃ k, R.e.length = k := ⟨_, rfl⟩
  rw [List.length_map, hlo] at fo
  rw [List.length_map, hle] at fe
  subst fo fe
  have HL : Hid (R.o.length = lo ∧ R.e.length = le) := ⟨hlo, hle⟩
  have HO : Hid ((rV (.slice xo lo co) n' s' R.sys R.bld a' (.slice xe le ce)).all (·.oneCell') = true) := tw.one _ _
  have HZ : Hid (List.replicate lo EMP = ls ∧ ls.length = lo) := ⟨by rw [← hlo]; exact HZ0.out, by rw [← HZ0.out, hlo]; simp⟩
  unfold rV at s1
  unfold rV
  clear tw bw bx1 hX hlo hle HC l0 HB0 HB
  go_wp2_with fail
  clear s1
  obtain ⟨C1, hC1⟩ : ∃ C : Array Value, C = rV (.slice xo lo co) n' s' R.sys R.bld a' (.slice xe le ce) := ⟨_, rfl⟩
  have HCC : Hid (C1 = rV (.slice xo lo co) n' s' R.sys R.bld a' (.slice xe le ce)) := hC1
  rw [← hC1] at HS
  clear hC1
  go_loopw [3, 4] (fun iv _ wr => ∃ (i : Nat) (oi : List Out) (ei : List Pai), iv = .int .i64 (i : Int) ∧ Hid (i ≤ lo ∧ Dn R.o ls (fun j => decide (j < i)) oi ∧ De R.e (fun _ p => gP ((R.o.zip ls).take i) p) ei ∧ Rd W C1 (.slice xo lo co) n' s' a' (.slice xe le ce) us { R with o := oi, e := ei } wr)) (fun iv _ _ => lo + 1 - (intOf iv).toNat)
  case atStart => exact ⟨0, R.o, R.e, rfl, Nat.zero_le _, by simpa using Dn.start R.o ls, (De.start R.e).to (fun j p _ => by rw [List.take_zero]; rfl), HS.out⟩
  case round =>
    obtain ⟨i, oi, ei, rfl, HI⟩ := hrel
    have k0 : wr.cell? ⟨W.heap.size, 0, none⟩ = some (.slice xo lo co) := HI.out.2.2.2.bx.cel (by rw [HCC.out]; rfl)
    by_cases hi : i < lo
    · obtain ⟨ile, dn, de, rd⟩ := HI.out
      have hin : i < R.o.length := by have := HL.out.1; omega
      obtain ⟨x, hx⟩ : ∃ x, R.o[i]? = some x := ⟨_, List.getElem?_eq_getElem hin⟩
      have hl : ls[i]? = some EMP := by rw [← HZ.out.1, List.getElem?_replicate, if_pos hi]
      obtain ⟨y, hy, hy1, hy2⟩ := dn.name hx hl
      obtain ⟨g, rfl⟩ := rd.tw.fo.own (by omega)
      have hy3 : (oi.map oR)[i]? = some (oR y) := by rw [List.getElem?_map, hy]; rfl
      have fz : wr.frozen? ⟨g, i * 4 + 1, none⟩ = false := rd.tw.fo.fro _
      have oc : wr.cell? ⟨g, i * 4 + 1, none⟩ = some (.string y.2.1) := rd.tw.fo.cel i 1 _ _ hy3 rfl
      have rdz := rd.setO EMP hy
      have dn' := dn.set (d' := fun j => decide (j < i + 1)) hx hl hy (fun j => by
        by_cases q : j = i
        · simp [q]
        · by_cases q2 : j < i
          · simp [q2, show j < i + 1 by omega]
          · simp [q, q2, show ¬ j < i + 1 by omega])
      obtain ⟨Z, hZ⟩ : ∃ Z, wr.setCell ⟨g, i * 4 + 1, none⟩ (.string EMP) = Z := ⟨_, rfl⟩
      rw [hZ] at rdz
      have hz3 : ((oi.set i (y.1, EMP, y.2.2)).map oR)[i]? = some (oR (y.1, EMP, y.2.2)) := by rw [List.getElem?_map, List.getElem?_set_self (by rw [dn.1]; exact hin)]; rfl
      obtain ⟨oj, hoj⟩ : ∃ oj, oi.set i (y.1, EMP, y.2.2) = oj := ⟨_, rfl⟩
      rw [hoj] at rdz dn' hz3
      have HN : Hid (i < lo ∧ R.o[i]? = some x ∧ Dn R.o ls (fun j => decide (j < i + 1)) oj ∧ y.1 = x.1 ∧ (oj.map oR)[i]? = some (oR (y.1, EMP, y.2.2))) := ⟨hi, hx, dn', hy1, hz3⟩
      have HE : Hid (De R.e (fun _ p => gP ((R.o.zip ls).take i) p) ei ∧ Rd W C1 (.slice (some ⟨g, 0, none⟩) lo co) n' s' a' (.slice xe le ce) us { R with o := oj, e := ei } Z) := ⟨de, rdz⟩
      have hi0 : (0 : Int) ≤ (i : Int) := by omega
      have hi1 : (i : Int) < (lo : Int) := by omega
      have w1' : IntKind.i64.wrap ((i : Int) + 1) = (i : Int) + 1 := by rw [IntKind.wrap_i64]; have := HR.out.1; have := HL.out.1; omega
      obtain ⟨y1, y2, y3, y4⟩ := y
      unfold EMP at hZ
      clear hi ile dn de rd hin hx hl hy hy1 hy2 hy3 rdz dn' hz3 hoj
      go_wp2_with fail
      go_loopw [4] (fun jv wr => ∃ (j : Nat) (ej : List Pai), jv = .int .i64 (j : Int) ∧ Hid (j ≤ le ∧ De R.e (fun m p => if m < j then gP ((R.o.zip ls).take (i + 1)) p else gP ((R.o.zip ls).take i) p) ej ∧ Rd W C1 (.slice (some ⟨g, 0, none⟩) lo co) n' s' a' (.slice xe le ce) us { R with o := oj, e := ej } wr)) (fun jv _ => le + 1 - (intOf jv).toNat)
      case atStart => exact ⟨0, ei, rfl, Nat.zero_le _, by simpa using HE.out.1, HE.out.2⟩
      case round =>
        obtain ⟨j, ej, rfl, HJ⟩ := hrel
        have k6 : wr.cell? ⟨W.heap.size, 6, none⟩ = some (.slice xe le ce) := HJ.out.2.2.bx.cel (by rw [HCC.out]; rfl)
        by_cases hj : j < le
        · obtain ⟨jle, de, rd⟩ := HJ.out
          have hjn : j < R.e.length := by have := HL.out.2; omega
          obtain ⟨p, hp⟩ : ∃ p, R.e[j]? = some p := ⟨_, List.getElem?_eq_getElem hjn⟩
          obtain ⟨q, hq⟩ : ∃ q, gP ((R.o.zip ls).take i) p = q := ⟨_, rfl⟩
          have hq1 : q.1 = p.1 := by rw [← hq]; exact gP_key _ _
          have hq2 : ej[j]? = some q := by have := de.2 j p hp; simpa [hq] using this
          have hq3 : (ej.map eR)[j]? = some (eR q) := by rw [List.getElem?_map, hq2]; rfl
          obtain ⟨ge, rfl⟩ := rd.tw.fe.own (by omega)
          have kd0 : wr.drew.cell? ⟨W.heap.size, 0, none⟩ = some (.slice (some ⟨g, 0, none⟩) lo co) := rd.bx.cel (by rw [HCC.out]; rfl)
          have kd6 : wr.drew.cell? ⟨W.heap.size, 6, none⟩ = some (.slice (some ⟨ge, 0, none⟩) le ce) := k6
          have n1 : wr.drew.cell? ⟨g, i * 4, none⟩ = some (.string y1) := rd.tw.fo.cel i 0 _ _ HN.out.2.2.2.2 rfl
          have n2 : wr.drew.cell? ⟨ge, j * 2, none⟩ = some (.string q.1) := rd.tw.fe.cel j 0 _ _ hq3 rfl
          have hj0 : (0 : Int) ≤ (j : Int) := by omega
          have hj1 : (j : Int) < (le : Int) := by omega
          have wj : IntKind.i64.wrap ((j : Int) + 1) = (j : Int) + 1 := by rw [IntKind.wrap_i64]; have := HR.out.2.2.2.2.1; have := HL.out.2; omega
          by_cases hk : q.1 = y1
          · have rdd := rd.below (below_drw wr)
            have fz : wr.drew.frozen? ⟨ge, j * 2 + 1, none⟩ = false := rdd.tw.fe.fro _
            have oc : wr.drew.cell? ⟨ge, j * 2 + 1, none⟩ = some (.string q.2) := rdd.tw.fe.cel j 1 _ _ hq3 rfl
            have rdz := rdd.setE EMP hq2
            obtain ⟨Z2, hZ2⟩ : ∃ Z, wr.drew.setCell ⟨ge, j * 2 + 1, none⟩ (.string EMP) = Z := ⟨_, rfl⟩
            rw [hZ2] at rdz
            have eg : gP ((R.o.zip ls).take (i + 1)) p = (q.1, EMP) := by
              rw [← HZ.out.1, hq1]
              exact gP_take_hit HN.out.2.1 HL.out.1 p (by rw [← HN.out.2.2.2.1, ← hq1]; exact hk.symm)
            have HF : Hid (j < le ∧ De R.e (fun m p => if m < j + 1 then gP ((R.o.zip ls).take (i + 1)) p else gP ((R.o.zip ls).take i) p) (ej.set j (q.1, EMP)) ∧ Rd W C1 (.slice (some ⟨g, 0, none⟩) lo co) n' s' a' (.slice (some ⟨ge, 0, none⟩) le ce) us { R with o := oj, e := ej.set j (q.1, EMP) } Z2) := ⟨hj, de.set hp (by simp [eg]) (fun m u hm z => by
              by_cases q2 : m < j
              · simp [q2, show m < j + 1 by omega]
              · simp [q2, show ¬ m < j + 1 by omega]), rdz⟩
            obtain ⟨q1, q2⟩ := q
            unfold EMP at hZ2
            clear hj jle de rd hjn hp hq hq1 hq2 hq3 rdd rdz eg
            go_wp2_with fail
            go_region
            go_wp2_with fail
            go_roundw
            case rel => exact ⟨j + 1, _, by go_num, HF.out.1, HF.out.2.1, HF.out.2.2⟩
            case measure => have := HF.out.1; simp [intOf]; omega
          · have eg : gP ((R.o.zip ls).take (i + 1)) p = q := by
              rw [← hq, ← HZ.out.1]
              exact gP_take_miss HN.out.2.1 HL.out.1 p (fun z => hk (by rw [hq1, ← z]; exact HN.out.2.2.2.1.symm))
            have HF : Hid (j < le ∧ De R.e (fun m p => if m < j + 1 then gP ((R.o.zip ls).take (i + 1)) p else gP ((R.o.zip ls).take i) p) ej ∧ Rd W C1 (.slice (some ⟨g, 0, none⟩) lo co) n' s' a' (.slice (some ⟨ge, 0, none⟩) le ce) us { R with o := oj, e := ej } wr.drew) := ⟨hj, de.to (fun m u hm => by
              by_cases z : m = j
              · subst z
                obtain rfl : p = u := Option.some.inj (hp.symm.trans hm)
                simp [eg, hq]
              · by_cases q2 : m < j
                · simp [q2, show m < j + 1 by omega]
                · simp [q2, show ¬ m < j + 1 by omega]), rd.below (below_drw wr)⟩
            obtain ⟨q1, q2⟩ := q
            have hk' := tl_ne (s := q1) (t := y1) hk
            clear hj jle de rd hjn hp hq hq1 hq2 hq3 eg hk
            go_wp2_with fail
            go_region
            go_wp2_with fail
            go_roundw
            case rel => exact ⟨j + 1, _, by go_num, HF.out.1, HF.out.2.1, HF.out.2.2⟩
            case measure => have := HF.out.1; simp [intOf]; omega
        · obtain ⟨jle, de, rd⟩ := HJ.out
          have HF : Hid (De R.e (fun _ p => gP ((R.o.zip ls).take (i + 1)) p) ej ∧ Rd W C1 (.slice (some ⟨g, 0, none⟩) lo co) n' s' a' (.slice xe le ce) us { R with o := oj, e := ej } wr) := ⟨de.to (fun m u hm => by
            have := (List.getElem?_eq_some_iff.1 hm).1
            have := HL.out.2
            simp [show m < j by omega]), rd⟩
          have hj2 : ¬ ((j : Int) < (le : Int)) := by omega
          clear hj jle de rd
          go_wp2_with fail
          go_roundw
          case rel => exact ⟨i + 1, _, _, by go_num, HN.out.1, HN.out.2.2.1, HF.out.1, HF.out.2⟩
          case measure => have := HN.out.1; simp [intOf]; omega
    · obtain ⟨ile, dn, de, rd⟩ := HI.out
      have hin : R.o.length = i := by have := HL.out.1; omega
      have eo := dn.fin (fun j hj => by simp; omega) (by rw [HZ.out.2]; exact HL.out.1.symm)
      have ee := de.fin (g := gP (R.o.zip ls)) (fun j p hj => by rw [List.take_of_length_le (by rw [List.length_zip]; omega)])
      have tw := rd.tw
      rw [ee, eo] at tw
      have bx := rd.bx
      rw [HCC.out] at bx
      have ldR' := ld_R wr W.heap.size _ rfl bx.r0
      obtain ⟨Z, s1, HF⟩ : ∃ Z, (stR (.pointer (some ⟨W.heap.size + 1, 0, none⟩)) (.agg (rV (.slice xo lo co) n' s' R.sys R.bld a' (.slice xe le ce)))).run Try.prog wr = .ok () Z ∧ Hid (Gv W (rel R ls) (.slice xo lo co) n' s' a' (.slice xe le ce) us Z) :=
        ⟨_, st_R wr (W.heap.size + 1) _ _ rfl rfl HO.out bx.r1, tw.rows (fun g C t hC ht => setRow_other _ _ _ _ (tag_ne hC bx.r1 ht)), below_setRow bx.bel (by omega) _, setRow_heap _ _ _ _ _ _ bx.r1⟩
      have hi2 : ¬ ((i : Int) < (lo : Int)) := by omega
      unfold rV at ldR' s1
      clear hi ile dn de rd hin eo ee tw bx
      go_wp2_with fail
      refine bodyPost_ret (results_R rfl _ _ (W.heap.size + 1) _ rfl rfl HF.out.row) rfl ?_
      exact ⟨_, _, _, _, _, us, rfl, HF.out.tw, HF.out.bel⟩
end
end Go.Proofs.Ytcggaiplepekdaa
