/- Graphs reduced: reduced. -/
import Derived.Test.YtagfkgedfjlnkaaGlI
namespace Go.Proofs.Ytagfkgedfjlnkaa
open Go.RowKit GM Gl
theorem lb_of (l : List Nat) (p : Nat → Bool) (k : Nat) {ln : Nat} (h : l.length = ln) (h2 : ln ≤ 1024) : ((l.take k).filter p).length ≤ 1024 := by
  have := List.length_filter_le p (l.take k)
  rw [List.length_take] at this
  omega
section
attribute [local go_sem ↓] toMkW toMkM toLdM toStM toApI toClF
set_option maxRecDepth 100000 in
set_option maxHeartbeats 6400000 in
theorem reduced_any (N : Nat) (hN : N ≤ 1024) (L : Nat → List Nat) (hL : ∀ a b, b ∈ L a → b < a) (hnd : ∀ a, (L a).Nodup) (g : Nat) (V : Nat → Value) (w : World) (hr : Rws g N L V w) (o : List Nat) (ht : Top L N o) (ov : Value) (ho : w.ownsRow 0 3 1 ov N (ik o).toList) : Calls Try.prog 10 #[.slice (some ⟨g, 0, none⟩) N N, ov] w fun e w' => ∃ g' V', e = .returned (.slice (some ⟨g', 0, none⟩) N N) ∧ Rws g' N (red L) V' w' ∧ Below w.heap.size w w' := by
  have ol := ht.len
  obtain ⟨ob, oc, rfl⟩ := own_size ho
  obtain ⟨W1, r1, R1, b1⟩ := run_mkW w N (by omega)
  obtain ⟨gO, hgO⟩ : ∃ k, w.heap.size = k := ⟨_, rfl⟩
  rw [hgO] at r1 R1
  obtain ⟨W2, r2, M2, b2⟩ := run_mkM W1 N (by omega)
  obtain ⟨gB, hgB⟩ : ∃ k, W1.heap.size = k := ⟨_, rfl⟩
  rw [hgB] at r2 M2
  obtain ⟨fF, hfF⟩ : ∃ k, W2.heap.size = k := ⟨_, rfl⟩
  obtain ⟨X0, hX0⟩ : ∃ X, W2.alloc (.cells #[.int .u64 0, .int .u64 0, .int .u64 0, .int .u64 0, .int .u64 0, .int .u64 0, .int .u64 0, .int .u64 0, .int .u64 0, .int .u64 0, .int .u64 0, .int .u64 0, .int .u64 0, .int .u64 0, .int .u64 0, .int .u64 0] 51) = X := ⟨_, rfl⟩
  have HD0 : Hid (Rd w N gO gB fF (fun _ => []) (fun _ => List.replicate 16 0) (List.replicate 16 0) (fun _ => .slice none 0 0) X0) := by
    have bX : Below W2.heap.size W2 X0 := by rw [← hX0]; exact (Below.refl _ W2).alloc (Nat.le_refl _) _
    have rX : X0.heap[fF]? = some (.cells (uw (List.replicate 16 0)) 51 (0, 0)) := by rw [← hX0, ← hfF]; exact heap_alloc_new _ _
    have l1 := R1.lt
    obtain ⟨cu, c1, -⟩ := M2.row
    have l2 := (Array.getElem?_eq_some_iff.1 c1).1
    refine ⟨(b1.trans (b2.mono b1.size)).trans (bX.mono (by have := b1.size; have := b2.size; omega)), (R1.below (by rw [hgB] at b2 ⊢; exact b2)).below bX, M2.keep (bX.block _ l2), rX, by omega, by omega, by omega⟩
  have HL : Hid ((∀ a b, b ∈ L a → b < a) ∧ (∀ a, (L a).Nodup) ∧ N ≤ 1024 ∧ Rws g N L V w ∧ Top L N o ∧ w.ownsRow 0 3 1 (.slice ob N oc) N (ik o).toList ∧ o.length = N) := ⟨hL, hnd, hN, hr, ht, ho, ol⟩
  clear hN hL hnd hr ht ho ol R1 b1 M2 b2
  go_enter Try.func10, Try.ntmps10
  go_wp2_with fail
  clear hgO hgB hfF hX0 r1 r2
  go_loopw [22] (fun iv wr => ∃ (t : Nat), iv = .int .i64 (t : Int) ∧ Hid (t ≤ N ∧ ∃ Lo G A V', (∀ j, j < N → Lo j = if j ∈ o.take t then red L j else []) ∧ (∀ j, j < N → Wb (fun c => decide (j ∈ o.take t) && tgb L j c) (G j)) ∧ A.length = 16 ∧ Rd w N gO gB fF Lo G A V' wr)) (fun iv _ => N + 1 - (intOf iv).toNat)
  case atStart => exact ⟨0, rfl, Nat.zero_le _, _, _, _, _, fun j _ => by simp, fun j _ => wb_zero.congr fun c _ => by simp, by simp, HD0.out⟩
  case round =>
    obtain ⟨t, rfl, HI⟩ := hrel
    obtain ⟨htN, Lo, G, A, V', hLo, hG, hA, rd⟩ := HI.out
    obtain ⟨hL, hnd, hN, hr, tp, ow, ol⟩ := HL.out
    by_cases hi : t < N
    · obtain ⟨a, ha⟩ : ∃ a, o[t]? = some a := ⟨_, List.getElem?_eq_getElem (by omega)⟩
      have haN : a < N := tp.lt a (List.mem_of_getElem? ha)
      have hsp : o = o.take t ++ a :: o.drop (t + 1) := by
        conv => lhs; rw [← List.take_append_drop t o]
        rw [List.drop_eq_getElem_cons (by omega)]
        congr 2
        exact Option.some.inj ((List.getElem?_eq_getElem (by omega)).symm.trans ha)
      have hup := tp.up _ _ _ hsp
      have hna : a ∉ o.take t := fun q => by
        have := tp.nd
        rw [hsp, List.nodup_append] at this
        exact this.2.2 a q a (by simp) rfl
      have htk : o.take (t + 1) = o.take t ++ [a] := by rw [List.take_add_one, ha]; rfl
      obtain ⟨bo, oc', -, eo, bo2, co⟩ := own_at (l := o) (by rw [← ol] at ow; exact ow) (by omega)
      rw [ol] at eo
      injection eo with e1 e2 e3
      subst e1 e3
      have ca : wr.cell? ⟨bo, t, none⟩ = some (.int .i64 (a : Int)) := by
        have := co t (by omega)
        rw [show o.getD t 0 = a by simp [List.getD, ha]] at this
        exact (World.cell?_of_block (w := w) (rd.bel.block bo bo2)).trans this
      obtain ⟨X1, rc, jn⟩ := cl_F wr fF 0 A hA rd.fr
      have rd1 := rd.jn jn
      obtain ⟨-, va, vc, hva, hvc⟩ := own_get (hr.own a haN)
      obtain ⟨ln, hln⟩ : ∃ k, (L a).length = k := ⟨_, rfl⟩
      rw [hln] at hva hvc
      have HV : Hid ((L a).length = ln ∧ ln ≤ 1024 ∧ a < N ∧ t < N ∧ (∀ b ∈ L a, b ∈ o.take t) ∧ a ∉ o.take t ∧ o.take (t + 1) = o.take t ++ [a] ∧ (0 < ln → ∃ b, va = some ⟨b, 0, none⟩ ∧ b < w.heap.size ∧ ∀ j, j < ln → w.cell? ⟨b, j, none⟩ = some (.int .i64 (((L a).getD j 0 : Nat) : Int)))) := by
        refine ⟨hln, ?_, haN, hi, hup, hna, htk, fun q => ?_⟩
        · have := List.Nodup.length_le_of_subset (l₁ := L a) (l₂ := List.range N) (hnd a) (fun v hv => List.mem_range.2 (by have := hL a v hv; omega))
          simp at this
          omega
        · obtain ⟨b, z1, z2, -, z4⟩ := hvc q
          exact ⟨b, z1, z2, z4⟩
      have HG : Hid ((∀ j, j < N → Lo j = if j ∈ o.take t then red L j else []) ∧ (∀ j, j < N → Wb (fun c => decide (j ∈ o.take t) && tgb L j c) (G j))) := ⟨hLo, hG⟩
      have cn1 : X1.cell? ⟨g, a, none⟩ = some (.slice va ln vc) := by
        have := ((hr.below rd1.bel).cell a haN).1
        rw [hva] at this
        exact this
      have HR1 : Hid (∃ A, Wb (fun c => ((L a).take 0).any fun b => tgb L b c) A ∧ Rd w N gO gB fF Lo G A V' X1) := ⟨_, wb_zero.congr fun c _ => by simp, rd1⟩
      have t0 : (0 : Int) ≤ (t : Int) := by omega
      have t1 : (t : Int) < (N : Int) := by omega
      have a0 : (0 : Int) ≤ (a : Int) := by omega
      have a1 : (a : Int) < (N : Int) := by omega
      have wt : wrap64 ((t : Int) + 1) = (t : Int) + 1 := by unfold wrap64; omega
      clear htN hLo hG hA rd hL hnd hN hr tp ow ol hi ha haN hsp hup hna htk e2 bo2 co jn rd1 hva hvc hln HI HD0
      go_wp2_with fail
      go_loopw [32] (fun iv wr => ∃ (i : Nat), iv = .int .i64 (i : Int) ∧ Hid (i ≤ ln ∧ ∃ A, Wb (fun c => ((L a).take i).any fun b => tgb L b c) A ∧ Rd w N gO gB fF Lo G A V' wr)) (fun iv _ => ln + 1 - (intOf iv).toNat)
      case atStart => exact ⟨0, rfl, Nat.zero_le _, HR1.out⟩
      case round =>
        obtain ⟨i, rfl, HI⟩ := hrel
        obtain ⟨hi, A, hA, rd⟩ := HI.out
        by_cases h1 : i < ln
        · obtain ⟨v1, v2, v3, v4, v5, v6, v7, v8⟩ := HV.out
          obtain ⟨b, hb⟩ : ∃ b, (L a)[i]? = some b := ⟨_, List.getElem?_eq_getElem (by omega)⟩
          have hbm := List.mem_of_getElem? hb
          have hbN : b < N := by have := HL.out.1 a b hbm; omega
          obtain ⟨vb, rfl, z2, z3⟩ := v8 (by omega)
          have cb : wr.cell? ⟨vb, i, none⟩ = some (.int .i64 (b : Int)) := by
            have := z3 i h1
            rw [show (L a).getD i 0 = b by simp [List.getD, hb]] at this
            exact (World.cell?_of_block (w := w) (rd.bel.block vb z2)).trans this
          have wG := HG.out.2 b hbN
          have CJ : Hid (Calls Try.prog 16 #[.pointer (some ⟨fF, 0, none⟩), .pointer (some ⟨gB, b * 16, none⟩)] wr fun e w' => e = .returned (.tuple #[]) ∧ Jn fF (List.zipWith (· ||| ·) A (G b)) wr w') := join_any fF gB (b * 16) A (G b) wr hA.len wG.len hA.lt wG.lt rd.fr (by have := rd.g3; omega) (fun k hk => (rd.mks.get b k hbN hk).1)
          have HN : Hid (i < ln ∧ ∀ X', Jn fF (List.zipWith (· ||| ·) A (G b)) wr X' → ∃ A, Wb (fun c => ((L a).take (i + 1)).any fun b => tgb L b c) A ∧ Rd w N gO gB fF Lo G A V' X') := by
            refine ⟨h1, fun X' jn => ⟨_, (hA.or wG).congr fun c _ => ?_, rd.jn jn⟩⟩
            rw [List.take_add_one, hb, List.any_append]
            simp [v5 b hbm]
          have i0 : (0 : Int) ≤ (i : Int) := by omega
          have i1 : (i : Int) < (ln : Int) := by omega
          have b0 : (0 : Int) ≤ (b : Int) := by omega
          have b1 : (b : Int) < (N : Int) := by omega
          have wi : wrap64 ((i : Int) + 1) = (i : Int) + 1 := by unfold wrap64; omega
          clear hi hA rd HI v1 v2 v3 v4 v5 v6 v7 v8 hb hbm hbN z2 z3 wG h1
          go_wp2_with fail
          with_reducible refine Calls.mono CJ.out ?_
          rintro en X2 ⟨rfl, jn⟩
          have HE : Hid (∃ A, Wb (fun c => ((L a).take (i + 1)).any fun b => tgb L b c) A ∧ Rd w N gO gB fF Lo G A V' X2) := HN.out.2 X2 jn
          clear jn
          go_wp2_with fail
          go_roundw
          · exact ⟨i + 1, by go_num, HN.out.1, HE.out⟩
          · first
              | exact measG ln i HN.out.1
              | (rw [wi]; exact measG ln i HN.out.1)
        · have i1 : ¬ ((i : Int) < (ln : Int)) := by omega
          obtain ⟨v1, v2, v3, v4, v5, v6, v7, v8⟩ := HV.out
          have e : (L a).take i = L a := List.take_of_length_le (by omega)
          rw [e] at hA
          have lA := ld_M wr fF A hA.len rd.fr
          have sA := st_M wr gB N a G A hA.len rd.mks v3
          obtain ⟨X3, hX3⟩ : ∃ X, wr.setCells gB (a * 16) (uw A).toList = X := ⟨_, rfl⟩
          rw [hX3] at sA
          have HX3 : Hid (Wb (far L a) A ∧ Rd w N gO gB fF Lo (upd G a A) A V' X3) := by
            refine ⟨hA.congr fun c _ => rfl, ?_⟩
            obtain ⟨q1, q2, q3, q4⟩ := setCells_rest gB (uw A).toList (a * 16) wr
            rw [hX3] at q1 q2 q3 q4
            exact rd.mwrite (by rw [← hX3]; exact rd.mks.lay a A v3 hA.len) (fun k hk hs => by rw [← hX3]; exact World.heap_setCells_other _ _ _ _ hs hk) q1 ⟨q2, q3, q4⟩
          have cn3 : X3.cell? ⟨g, a, none⟩ = some (.slice va ln vc) := by
            have := ((HL.out.2.2.2.1.below HX3.out.2.bel).cell a v3).1
            have h2 := ((HL.out.2.2.2.1.below HR1.out.choose_spec.2.bel).cell a v3).1
            rw [cn1] at h2
            rw [this, ← h2]
          clear hi hA rd HI v1 v2 v3 v4 v5 v6 v7 v8 h1 e
          go_wp2_with fail
          clear lA sA hX3 cn1 cn3
          go_loopw [50] (fun iv wr => ∃ (k : Nat), iv = .int .i64 (k : Int) ∧ Hid (k ≤ ln ∧ ∃ Lo' G' V'', (∀ x, x < N → Lo' x = if x = a then ((L a).take k).filter (fun b => !far L a b) else Lo x) ∧ (∀ x, x < N → x ≠ a → G' x = G x) ∧ Wb (fun c => far L a c || ((L a).take k).contains c) (G' a) ∧ Rd w N gO gB fF Lo' G' A V'' wr)) (fun iv _ => ln + 1 - (intOf iv).toNat)
          case atStart =>
            refine ⟨0, rfl, Nat.zero_le _, Lo, upd G a A, V', fun x hx => ?_, fun x _ hx => upd_other _ _ _ _ hx, ?_, HX3.out.2⟩
            · by_cases e : x = a
              · subst e
                rw [HG.out.1 x hx, if_neg HV.out.2.2.2.2.2.1]
                simp
              · rw [if_neg e]
            · rw [upd_same]
              exact HX3.out.1.congr fun c _ => by simp
          case round =>
            obtain ⟨k, rfl, HI⟩ := hrel
            obtain ⟨hk, Lo', G', V'', hLo, hG', hW, rd⟩ := HI.out
            obtain ⟨v1, v2, v3, v4, v5, v6, v7, v8⟩ := HV.out
            by_cases h1 : k < ln
            · obtain ⟨b, hb⟩ : ∃ b, (L a)[k]? = some b := ⟨_, List.getElem?_eq_getElem (by omega)⟩
              have hbm := List.mem_of_getElem? hb
              have hbN : b < N := by have := HL.out.1 a b hbm; omega
              have hN := HL.out.2.2.1
              obtain ⟨vb, rfl, z2, z3⟩ := v8 (by omega)
              have cb : wr.cell? ⟨vb, k, none⟩ = some (.int .i64 (b : Int)) := by
                have := z3 k h1
                rw [show (L a).getD k 0 = b by simp [List.getD, hb]] at this
                exact (World.cell?_of_block (w := w) (rd.bel.block vb z2)).trans this
              have hb6 : b / 64 < 16 := by omega
              obtain ⟨m1, m2⟩ := rd.mks.get a (b / 64) v3 hb6
              have CP : Hid (Calls Try.prog 17 #[.pointer (some ⟨gB, a * 16, none⟩), .int .i64 (b : Int)] wr fun e w' => e = .returned (.tuple #[]) ∧ w' = (wr.setCell ⟨gB, a * 16 + b / 64, none⟩ (.int .u64 (((G' a).getD (b / 64) 0 ||| 2 ^ (b % 64) : Nat) : Int))).drew) := mput_any gB (a * 16) b _ wr (by omega) (hW.lt _) m1 m2
              obtain ⟨X4, hX4⟩ : ∃ X, (wr.setCell ⟨gB, a * 16 + b / 64, none⟩ (.int .u64 (((G' a).getD (b / 64) 0 ||| 2 ^ (b % 64) : Nat) : Int))).drew = X := ⟨_, rfl⟩
              rw [hX4] at CP
              have rd4 : Rd w N gO gB fF Lo' (upd G' a ((G' a).set (b / 64) ((G' a).getD (b / 64) 0 ||| 2 ^ (b % 64)))) A V'' X4 := by
                rw [← hX4]
                exact (rd.mwrite (rd.mks.put a (b / 64) _ v3 hb6 hW.len) (fun q hq _ => heap_setCell_other _ _ _ _ (by show q ≠ gB; exact hq)) (by simp) ⟨rfl, rfl, rfl⟩).drew
              have cf : X4.cell? ⟨fF, 0 + b / 64, none⟩ = some (.int .u64 ((A.getD (b / 64) 0 : Nat) : Int)) := by
                rw [Nat.zero_add]
                exact (cell_of_row _ _ _ _ _ _ rd4.fr).trans (uw_get A (b / 64) (by rw [HX3.out.1.len]; exact hb6))
              have CH : Hid (Calls Try.prog 18 #[.pointer (some ⟨fF, 0, none⟩), .int .i64 (b : Int)] X4 fun e w' => e = .returned (.bool (far L a b)) ∧ w' = X4) := by
                have := mhas_any fF 0 b _ X4 (by omega) (HX3.out.1.lt _) cf
                rw [HX3.out.1.bit b (by omega)] at this
                exact this
              have tk : (L a).take (k + 1) = (L a).take k ++ [b] := by rw [List.take_add_one, hb]; rfl
              have wP : Wb (fun c => far L a c || ((L a).take (k + 1)).contains c) ((G' a).set (b / 64) ((G' a).getD (b / 64) 0 ||| 2 ^ (b % 64))) := (hW.put b (by omega)).congr fun c _ => by
                rw [tk]
                by_cases e : c = b
                · subst e
                  simp
                · rw [beq_eq_false_iff_ne.2 e]
                  simp [e]
              have k0 : (0 : Int) ≤ (k : Int) := by omega
              have k1 : (k : Int) < (ln : Int) := by omega
              have b0 : (0 : Int) ≤ (b : Int) := by omega
              have b1 : (b : Int) < (N : Int) := by omega
              have wk : wrap64 ((k : Int) + 1) = (k : Int) + 1 := by unfold wrap64; omega
              have HS : Hid (k < ln ∧ (L a).take (k + 1) = (L a).take k ++ [b] ∧ (∀ x, x < N → Lo' x = if x = a then ((L a).take k).filter (fun b => !far L a b) else Lo x) ∧ (∀ x, x < N → x ≠ a → G' x = G x) ∧ Wb (fun c => far L a c || ((L a).take (k + 1)).contains c) ((G' a).set (b / 64) ((G' a).getD (b / 64) 0 ||| 2 ^ (b % 64))) ∧ Rd w N gO gB fF Lo' (upd G' a ((G' a).set (b / 64) ((G' a).getD (b / 64) 0 ||| 2 ^ (b % 64)))) A V'' X4 ∧ a < N) := ⟨h1, tk, hLo, hG', wP, rd4, v3⟩
              cases hfr : far L a b with
              | true =>
                rw [hfr] at CH
                have HE : Hid (∃ Lo' G' V'', (∀ x, x < N → Lo' x = if x = a then ((L a).take (k + 1)).filter (fun b => !far L a b) else Lo x) ∧ (∀ x, x < N → x ≠ a → G' x = G x) ∧ Wb (fun c => far L a c || ((L a).take (k + 1)).contains c) (G' a) ∧ Rd w N gO gB fF Lo' G' A V'' X4) := by
                  refine ⟨Lo', _, V'', fun x hx => ?_, fun x hx hn => (upd_other _ _ _ _ hn).trans (hG' x hx hn), by rw [upd_same]; exact wP, rd4⟩
                  rw [hLo x hx, tk, List.filter_append]
                  simp [hfr]
                clear hk hLo hG' hW rd HI v1 v2 v3 v4 v5 v6 v7 v8 hb hbm hbN hN z2 z3 hb6 m1 m2 hX4 rd4 cf tk wP h1
                go_wp2_with fail
                with_reducible refine Calls.mono CP.out ?_
                rintro en X5 ⟨rfl, rfl⟩
                go_wp2_with fail
                with_reducible refine Calls.mono CH.out ?_
                rintro en X6 ⟨rfl, rfl⟩
                go_wp2_with fail
                go_roundw
                · exact ⟨k + 1, by go_num, HS.out.1, HE.out⟩
                · first
                    | exact measG ln k HS.out.1
                    | (rw [wk]; exact measG ln k HS.out.1)
              | false =>
                rw [hfr] at CH
                obtain ⟨-, oa, ca, hva, -⟩ := own_get (rd4.out.own a v3)
                have lb : (Lo' a).length ≤ 1024 := by
                  rw [hLo a v3, if_pos rfl]
                  exact lb_of _ _ _ v1 v2
                obtain ⟨o2, c2, W2, Z, ra, rb, rc, rz, rd5⟩ := rd4.add a b v3 (Nat.le_trans lb (by decide))
                obtain ⟨lo, hlo⟩ : ∃ u, (Lo' a).length = u := ⟨_, rfl⟩
                rw [hlo] at hva ra rz rd5
                rw [hva] at ra rb
                have co := (rd4.out.cell a v3).1
                rw [hva] at co
                have HE : Hid (∃ Lo' G' V'', (∀ x, x < N → Lo' x = if x = a then ((L a).take (k + 1)).filter (fun b => !far L a b) else Lo x) ∧ (∀ x, x < N → x ≠ a → G' x = G x) ∧ Wb (fun c => far L a c || ((L a).take (k + 1)).contains c) (G' a) ∧ Rd w N gO gB fF Lo' G' A V'' Z) := by
                  refine ⟨_, _, _, fun x hx => ?_, fun x hx hn => (upd_other _ _ _ _ hn).trans (hG' x hx hn), by rw [upd_same]; exact wP, rd5⟩
                  by_cases e : x = a
                  · subst e
                    rw [upd_same, if_pos rfl, hLo x hx, if_pos rfl, tk, List.filter_append]
                    simp [hfr]
                  · rw [upd_other _ _ _ _ e, if_neg e, hLo x hx, if_neg e]
                clear hk hLo hG' hW rd HI v1 v2 v3 v4 v5 v6 v7 v8 hb hbm hbN hN z2 z3 hb6 m1 m2 hX4 rd4 cf tk wP h1 lb hlo rd5 hva
                go_wp2_with fail
                with_reducible refine Calls.mono CP.out ?_
                rintro en X5 ⟨rfl, rfl⟩
                go_wp2_with fail
                with_reducible refine Calls.mono CH.out ?_
                rintro en X6 ⟨rfl, rfl⟩
                go_wp2_with fail
                go_roundw
                · exact ⟨k + 1, by go_num, HS.out.1, HE.out⟩
                · first
                    | exact measG ln k HS.out.1
                    | (rw [wk]; exact measG ln k HS.out.1)
            · have k1 : ¬ ((k : Int) < (ln : Int)) := by omega
              have HE : Hid (∃ Lo G A V', (∀ j, j < N → Lo j = if j ∈ o.take (t + 1) then red L j else []) ∧ (∀ j, j < N → Wb (fun c => decide (j ∈ o.take (t + 1)) && tgb L j c) (G j)) ∧ A.length = 16 ∧ Rd w N gO gB fF Lo G A V' wr) := by
                have e : (L a).take k = L a := List.take_of_length_le (by omega)
                rw [e] at hW
                refine ⟨Lo', G', A, V'', fun x hx => ?_, fun x hx => ?_, HX3.out.1.len, rd⟩
                · rw [hLo x hx, e, v7]
                  by_cases q : x = a
                  · subst q
                    simp [red]
                  · rw [if_neg q, HG.out.1 x hx]
                    simp [q]
                · by_cases q : x = a
                  · subst q
                    refine hW.congr fun c _ => ?_
                    rw [v7, ← tgb_eq]
                    simp
                  · rw [hG' x hx q]
                    refine (HG.out.2 x hx).congr fun c _ => ?_
                    rw [v7]
                    simp [q]
              have HT : Hid (t < N) := v4
              clear hk hLo hG' hW rd HI v1 v2 v3 v4 v5 v6 v7 v8 h1
              go_wp2_with fail
              go_roundw
              · exact ⟨t + 1, by go_num, HT.out, HE.out⟩
              · first
                  | exact measG N t HT.out
                  | (rw [wt]; exact measG N t HT.out)
    · have t1 : ¬ ((t : Int) < (N : Int)) := by omega
      have HE : Hid (∃ V', Rws gO N (red L) V' wr ∧ Below w.heap.size w wr) := by
        refine ⟨V', rd.out.congr fun j hj => ?_, rd.bel⟩
        rw [hLo j hj, List.take_of_length_le (by omega), if_pos (tp.all j hj)]
      clear htN hLo hG hA rd hL hnd hN hr tp ow ol hi HI HD0
      go_wp2_with fail
      go_ret
      obtain ⟨V', h1, h2⟩ := HE.out
      exact ⟨gO, rfl, ⟨V', h1⟩, h2⟩
end
end Go.Proofs.Ytagfkgedfjlnkaa
