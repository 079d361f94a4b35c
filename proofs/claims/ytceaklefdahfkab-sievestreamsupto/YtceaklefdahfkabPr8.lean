/- SieveStreams: the walk. -/
import Derived.Test.YtceaklefdahfkabPrj
namespace Go.Proofs.Ytceaklefdahfkab
open Go.RowKit
attribute [local go_sem ↓] toSlB
set_option maxRecDepth 100000 in
set_option maxHeartbeats 3200000 in
theorem streams_any (l : List ByteArray) (hl : l.length ≤ 1048576) (hz : ∀ s ∈ l, s.size ≤ 1073741824) (T : List ByteArray) (hTl : T.length ≤ 1048576) (hTz : ∀ s ∈ T, s.size ≤ 1073741824) (d ls : List Nat) (hd : d.length ≤ 16777216) (hdb : Byt d) (hll : ls.length ≤ 16777216) (hlb : Byt ls) (cl : Int) (mask : Bool) (v0 v1 v2 v3 : Value) (w : World) (h0 : St v0 l w) (h1 : St v1 T w) (h2 : Si .u8 v2 d w) (h3 : Si .u8 v3 ls w) :
    Calls Try.prog 6 #[v0, v1, v2, v3, .int .i64 cl, .bool mask] w fun e w' => e = .returned (.bool true) ∧ Below w.heap.size w w' := by
  have CM : Hid _ := made_any l (by omega) hz v0 w h0
  obtain ⟨o0, c0, hv0, -⟩ := h0.form
  obtain ⟨o1, c1, hv1, -⟩ := h1.form
  obtain ⟨o2, c2, hv2, -⟩ := h2.form
  obtain ⟨o3, c3, hv3, -⟩ := h3.form
  subst hv0 hv1 hv2 hv3
  have H1 : Hid (St (.slice o1 T.length c1) T w) := h1
  have H2 : Hid (Si .u8 (.slice o2 d.length c2) d w) := h2
  have H3 : Hid (Si .u8 (.slice o3 ls.length c3) ls w) := h3
  have HDB : Hid (Byt d) := hdb
  have HLB : Hid (Byt ls) := hlb
  have HTZ : Hid (∀ s ∈ T, s.size ≤ 1099511627776) := fun s hs => by have := hTz s hs; omega
  clear h0 h1 h2 h3 hz hdb hlb hTz
  go_enter Try.func6, Try.ntmps6
  go_wp2_with fail
  refine Calls.mono CM.out ?_
  rintro e w1 ⟨p, q, rfl, hbo, hb1, hz1⟩
  clear CM
  have HBO : Hid _ := hbo
  have B01 : Hid (Below w.heap.size w w1) := hb1
  have C2 : Hid _ := texts_any T (by omega) _ w1 (H1.out.below hb1)
  obtain ⟨M, hM⟩ : ∃ M, M = T.length + 2 := ⟨_, rfl⟩
  have HM : Hid (M = T.length + 2) := hM
  rw [← hM] at C2
  clear hbo hb1 hM
  go_wp2_with fail
  refine Calls.mono C2.out ?_
  rintro e w2 ⟨rfl, hR2, hb2⟩
  clear C2
  obtain ⟨gx, hgx⟩ : ∃ gx, gx = w1.heap.size := ⟨_, rfl⟩
  rw [← hgx] at hR2 ⊢
  have HGX : Hid (gx = w1.heap.size) := hgx
  have hso : St (.slice (some ⟨gx, 0, none⟩) T.length M) T w2 := by
    refine .inr ⟨gx, 0, M, rfl, by rw [HM.out]; omega, by have := HM.out; unfold maxLen; omega, (Array.getElem?_eq_some_iff.1 hR2).1, fun j s hj => ?_⟩
    have hj2 : j < T.length := (List.getElem?_eq_some_iff.1 hj).1
    rw [Nat.zero_add, cell_of_row w2 _ _ _ _ _ hR2, sk_get _ _ (by simp; omega)]
    have : txt (T ++ [mrk, ⟨#[]⟩]) j = s := by unfold txt; rw [List.getD, List.getElem?_append_left hj2, hj]; rfl
    rw [this]
  have B02 : Hid (Below w.heap.size w w2) := B01.out.trans (hb2.mono B01.out.size)
  have C3 : Hid _ := rwrs HBO.out T hTl HTZ.out _ _ w2 hb2 hso (H1.out.below B02.out)
  have B12 : Hid (Below w1.heap.size w1 w2) := hb2
  have HR2 : Hid (w2.heap[gx]? = some (.cells (sk (T ++ [mrk, ⟨#[]⟩])) 9 (0, 0)) ∧ gx < w2.heap.size) := ⟨hR2, (Array.getElem?_eq_some_iff.1 hR2).1⟩
  clear hR2 hb2 hgx hso hz1
  go_wp2_with fail
  refine Calls.mono C3.out ?_
  rintro e w3 ⟨c, er, rfl, hb3, hc3⟩
  clear C3
  have C4 : Hid _ := hc3
  clear hb3 hc3
  go_wp2_with fail
  refine Calls.mono C4.out ?_
  rintro e w4 ⟨dd, rfl, hb4, hcd, hpr⟩
  clear C4
  have B24 : Hid (Below w2.heap.size w2 w4) := hb4
  have HS4 : Hid (Stn w1.heap.size w2.heap.size w4.heap.size c dd w4) := hpr.stn
  have hr4 := (hb4.block gx HR2.out.2).trans HR2.out.1
  have B04 : Hid (Below w.heap.size w w4) := B02.out.trans (hb4.mono B02.out.size)
  have CST : Hid (Calls Try.prog 38 #[.slice (some ⟨gx, 0, none⟩) T.length M, .slice o1 T.length c1] w4 fun e w' => e = .returned (.bool true) ∧ Below w4.heap.size w4 w') := by
    have := stood_any T (by omega) gx _ w4 hr4 (H1.out.below B04.out)
    rw [← HM.out] at this
    exact this
  have HR4 : Hid (w4.heap[gx]? = some (.cells (sk (T ++ [mrk, ⟨#[]⟩])) 9 (0, 0))) := hr4
  clear hb4 hpr hr4
  have hcn : c.isNone = dd.isNone := by rcases hcd with ⟨rfl, rfl⟩ | ⟨a, b, rfl, rfl⟩ <;> rfl
  clear hcd
  go_wp2_with fail
  refine Calls.mono CST.out ?_
  rintro e w5 ⟨rfl, hb5⟩
  clear CST
  obtain ⟨Q, hQ⟩ : ∃ Q : World → Prop, Q = fun W => Stn w1.heap.size w2.heap.size w4.heap.size c dd W ∧ Below w1.heap.size w1 W ∧ Below w.heap.size w W ∧ w4.heap.size ≤ W.heap.size := ⟨_, rfl⟩
  have z12 := B12.out.size
  have z24 := B24.out.size
  have HQ5 : Hid (Q w5) := by
    rw [hQ]
    have h14 : Below w1.heap.size w1 w4 := B12.out.trans (B24.out.mono z12)
    exact ⟨HS4.out.keep hb5.size fun j hj _ => hb5.block j hj, h14.trans (hb5.mono (by omega)), B04.out.trans (hb5.mono B04.out.size), hb5.size⟩
  have HX5 : Hid (∃ cur : Array Value, w5.heap[gx]? = some (.cells cur 9 (0, 0)) ∧ T.length ≤ cur.size) := ⟨_, (hb5.block gx (by have := HR2.out.2; omega)).trans HR4.out, by simp [sk]⟩
  have HQK : Hid (∀ (W : World) (i : Nat) (u : Value), Q W → Q (W.setCell ⟨gx, i, none⟩ u)) := fun W i u hh => by
    rw [hQ] at hh ⊢
    obtain ⟨r1, r2, r3, r4⟩ := hh
    have hsz : (W.setCell ⟨gx, i, none⟩ u).heap.size = W.heap.size := by simp [World.setCell]
    have hne : ∀ j, j ≠ gx → (W.setCell ⟨gx, i, none⟩ u).heap[j]? = W.heap[j]? := fun j hj => Below.heap_setCell _ _ _ _ hj
    have q1 := HGX.out
    have q2 := HR2.out.2
    have q3 := B01.out.size
    exact ⟨r1.keep (by omega) fun j _ hj => hne j (by omega), r2.setCell (by show _ ≤ gx; omega) _, r3.setCell (by show _ ≤ gx; omega) _, by omega⟩
  have HQE : Hid (∀ W, Q W → Stn w1.heap.size w2.heap.size w4.heap.size c dd W ∧ Below w1.heap.size w1 W ∧ Below w.heap.size w W ∧ w4.heap.size ≤ W.heap.size) := fun W hh => by rw [hQ] at hh; exact hh
  have HZ : Hid (w.heap.size ≤ w1.heap.size ∧ w1.heap.size ≤ w2.heap.size ∧ w2.heap.size ≤ w4.heap.size) := ⟨B01.out.size, z12, z24⟩
  clear hQ hb5 HS4 HR4 HR2 HGX B01 B02 B12 B24 B04 z12 z24 H1 HTZ
  go_wp2_with fail
  go_loopw [21] (fun iv wq => ∃ i : Nat, iv = .int .i64 (i : Int) ∧ i ≤ T.length ∧ Hid (∃ cur : Array Value, wq.heap[gx]? = some (.cells cur 9 (0, 0)) ∧ T.length ≤ cur.size) ∧ Hid (Q wq)) (fun iv _ => T.length - (intOf iv).toNat)
  case atStart => exact ⟨0, rfl, by omega, HX5, HQ5⟩
  case round =>
    clear HX5 HQ5
    obtain ⟨i, rfl, hi, HX, HQ⟩ := hrel
    by_cases hlt : i < T.length
    · have hi0 : (0 : Int) ≤ (i : Int) := by omega
      have hi1 : (i : Int) < (T.length : Int) := by omega
      obtain ⟨cf', z1, z2⟩ := HX.out
      obtain ⟨u0, k1⟩ : ∃ u, wr.cell? ⟨gx, i, none⟩ = some u := ⟨_, by rw [cell_of_row wr _ _ _ _ _ z1]; exact Array.getElem?_eq_getElem (by omega)⟩
      have f1 : wr.frozen? ⟨gx, i, none⟩ = false := frozen_of_row wr _ _ _ _ z1
      have N1 : ∀ u, Hid (∃ cur : Array Value, (wr.setCell ⟨gx, i, none⟩ u).heap[gx]? = some (.cells cur 9 (0, 0)) ∧ T.length ≤ cur.size) := fun u => ⟨_, heap_setCell_same _ _ _ _ _ _ z1, by simp; exact z2⟩
      have N2 : ∀ u, Hid (Q (wr.setCell ⟨gx, i, none⟩ u)) := fun u => HQK.out _ _ _ HQ.out
      clear z1 z2 HX HQ
      go_wp2
      exact ⟨⟨i + 1, by rfl, by omega, N1 _, N2 _⟩, by simp only [intOf]; omega⟩
    · have hi1 : ¬ ((i : Int) < (T.length : Int)) := by omega
      obtain ⟨s1, s2, s3, s4⟩ := HQE.out wr HQ.out
      obtain ⟨w6, rfl⟩ : ∃ w6, w6 = wr := ⟨_, rfl⟩
      have HST : Hid (∃ L1 B1, Stn w1.heap.size L1 B1 c dd w6 ∧ w1.heap.size ≤ L1 ∧ L1 ≤ B1 ∧ B1 ≤ w6.heap.size) := ⟨_, _, s1, HZ.out.2.1, HZ.out.2.2, s4⟩
      have H16 : Hid (Below w1.heap.size w1 w6) := s2
      have H06 : Hid (Below w.heap.size w w6) := s3
      have HZ1 : Hid (w.heap.size ≤ w1.heap.size) := HZ.out.1
      have CK : Hid _ := mkrs HBO.out w6 s2
      clear s1 s2 s3 s4 HX HQ HQE HQK HZ
      cases mask
      · go_wp2_with fail
        refine Calls.mono CK.out ?_
        rintro e w9 ⟨mm, rfl, hb9, hc9⟩
        clear CK
        have CK2 : Hid _ := hc9
        clear hb9 hc9
        go_wp2_with fail
        refine Calls.mono CK2.out ?_
        rintro e w10 ⟨kk, rfl, hb10, hmk, hpr⟩
        clear CK2
        have hmn : mm.isNone = kk.isNone := by rcases hmk with ⟨rfl, rfl⟩ | ⟨a, b, rfl, rfl⟩ <;> rfl
        have H010 : Hid (Below w.heap.size w w10) := H06.out.trans (hb10.mono H06.out.size)
        have CC : Hid _ := cuts_any d ls (by omega) (by omega) HLB.out _ _ w w10 H010.out H2.out H3.out
        have HS2 : Hid (Stn w1.heap.size w6.heap.size w10.heap.size mm kk w10) := hpr.stn
        have H610 : Hid (Below w6.heap.size w6 w10) := hb10
        clear hmk hb10 hpr
        go_wp2_with fail
        refine Calls.mono CC.out ?_
        rintro e w11 ⟨vL, vs, P, rfl, hoL, hP, hPl, hPf, hb11⟩
        clear CC
        obtain ⟨bL, capL, cur, hvL, hbL, hrL, hcs, htk⟩ := own_row hoL (by omega)
        subst hvL
        have HL : Hid (∀ j, j < P.length → ∃ o c, w11.cell? ⟨bL, j, none⟩ = some (.slice o (P.getD j []).length c) ∧ Si .u8 (.slice o (P.getD j []).length c) (P.getD j []) w) := fun j hj => by
          obtain ⟨o, c, q1, q2⟩ := hP.2 j hj
          refine ⟨o, c, ?_, q2⟩
          rw [cell_of_row w11 _ _ _ _ _ hrL, ← q1, ← htk, Nat.mul_one, List.getElem?_take, if_pos hj, Array.getElem?_toList]
        have bLz : bL < w11.heap.size := (Array.getElem?_eq_some_iff.1 hrL).1
        have HPB : Hid (∀ i, i < P.length → Byt (P.getD i []) ∧ (P.getD i []).length ≤ d.length) := fun i hi => by
          have e : d = (P.take i).flatten ++ (P.getD i [] ++ (P.drop (i + 1)).flatten) := by
            have h1 : P.drop i = P.getD i [] :: P.drop (i + 1) := by rw [List.drop_eq_getElem_cons hi]; simp [List.getD, hi]
            rw [← List.flatten_cons, ← h1, ← List.flatten_append, List.take_append_drop]
            exact hPf.symm
          refine ⟨fun x hx => HDB.out x (by rw [e]; exact List.mem_append_right _ (List.mem_append_left _ hx)), ?_⟩
          have := congrArg List.length e
          simp only [List.length_append] at this
          omega
        obtain ⟨L1, B1, t1, t2, t3, t4⟩ := HST.out
        have z610 := H610.out.size
        have t5 : Stn w1.heap.size L1 B1 c dd w11 := (t1.keep z610 fun j hj _ => H610.out.block j hj).keep hb11.size fun j hj _ => hb11.block j hj
        have t6 : Stn w1.heap.size w6.heap.size w10.heap.size mm kk w11 := HS2.out.keep hb11.size fun j hj _ => hb11.block j hj
        obtain ⟨G, hDuo, hG0⟩ := duo_mk t5 t6 w bL (H010.out.trans (hb11.mono H010.out.size)) HZ1.out t2 t4 t3 z610 hbL bLz
        have HD : Hid (Duo w w11 bL c dd mm kk G) := hDuo
        have HG0 : Hid (G 0 0 w11) := hG0
        have hPz : P.length ≤ 16777217 := by omega
        have hPp : 1 ≤ P.length := by omega
        have HKL : Hid (∀ n1 n2 W, G n1 n2 W → ∀ j, j < P.length → ∃ o c X, W.cell? ⟨bL, j, none⟩ = some (.slice o X.length c) ∧ X.length ≤ 16777216 ∧ Hid (Byt X ∧ Si .u8 (.slice o X.length c) X w)) := fun n1 n2 W hW j hj => by
          obtain ⟨o, c, q1, q2⟩ := HL.out j hj
          obtain ⟨q3, q4⟩ := HPB.out j hj
          exact ⟨o, c, P.getD j [], (World.cell?_of_block (w := w11) (hDuo.lst _ _ _ hW).1).trans q1, by omega, q3, q2⟩
        obtain ⟨NP, hNP⟩ : ∃ NP, NP = P.length := ⟨_, rfl⟩
        rw [← hNP] at HKL hPz hPp ⊢
        clear hoL hP hPf hb11 hrL hcs htk hPl HL HPB t1 t2 t3 t4 t5 t6 z610 hDuo hG0 HS2 H610 H010 HST H16 H06 HZ1 H2 H3 HBO HDB HLB hNP hbL bLz
        go_wp2_with fail
        go_loopw [15, 25] (fun okv iv wq => ∃ i : Nat, okv = .bool true ∧ iv = .int .i64 (i : Int) ∧ i ≤ NP ∧ Hid (G i i wq)) (fun _ iv _ => NP - (intOf iv).toNat)
        case atStart => exact ⟨0, rfl, rfl, by omega, HG0⟩
        case round =>
          clear HG0
          obtain ⟨i, rfl, rfl, hi, HG⟩ := hrel
          by_cases hlt : i < NP
          · have hi0 : (0 : Int) ≤ (i : Int) := by omega
            have hi1' : (i : Int) < (NP : Int) := by omega
            obtain ⟨oX, cX, X, k1, kl1, KX⟩ := HKL.out i i wr HG.out i hlt
            have C41 : Hid _ := HD.out.fed1 i i X _ wr HG.out (by omega) KX.out.1 kl1 KX.out.2
            obtain ⟨N1, hN1⟩ : ∃ N1, N1 = NP - 1 := ⟨_, rfl⟩
            obtain ⟨ri, hri⟩ : ∃ ri, ri = N1 - i := ⟨_, rfl⟩
            have e1 : IntKind.i64.wrap ((NP : Int) - 1) = (N1 : Int) := by rw [wi _ (by unfold I64; omega)]; omega
            have e2 : IntKind.i64.wrap ((N1 : Int) - (i : Int)) = (ri : Int) := by rw [wi _ (by unfold I64; omega)]; omega
            have hr0 : (0 : Int) ≤ (ri : Int) := by omega
            have hr1 : (ri : Int) < (NP : Int) := by omega
            have hrn : ri < NP := by omega
            clear hN1 hri HG
            go_wp2_with fail
            refine Calls.mono C41.out ?_
            rintro e w12 ⟨rfl, hg12⟩
            clear C41
            obtain ⟨oY, cY, Y, k2, kl2, KY⟩ := HKL.out (i + 1) i w12 hg12 ri hrn
            have C41b : Hid _ := HD.out.fed2 (i + 1) i Y _ w12 hg12 (by omega) KY.out.1 kl2 KY.out.2
            clear hg12
            go_wp2_with fail
            refine Calls.mono C41b.out ?_
            rintro e w13 ⟨rfl, hg13⟩
            clear C41b
            have CL : Hid _ := HD.out.cl1 (i + 1) (i + 1) w13 hg13
            have HG13 : Hid (G (i + 1) (i + 1) w13) := hg13
            clear hg13
            go_wp2_with fail
            · refine Calls.mono CL.out ?_
              rintro e w14 ⟨rfl, hg14⟩
              have HG14 : Hid (G (i + 1) (i + 1) w14) := hg14
              clear CL hg14 HG13
              go_wp2
              exact ⟨⟨i + 1, rfl, by rw [← ‹(i : Int) = bits BinOp.and IntKind.i64 cl 31›]; rfl, by omega, HG14⟩, by simp only [intOf]; omega⟩
            · exact ⟨⟨i + 1, rfl, by rfl, by omega, HG13⟩, by simp only [intOf]; omega⟩
          · have hi1' : ¬ ((i : Int) < (NP : Int)) := by omega
            have C1 : Hid _ := HD.out.cl1 i i wr HG.out
            clear HG
            go_wp2_with fail
            refine Calls.mono C1.out ?_
            rintro e w12 ⟨rfl, hg⟩
            have C2 : Hid _ := HD.out.cl2 i i w12 hg
            clear C1 hg
            go_wp2_with fail
            refine Calls.mono C2.out ?_
            rintro e w13 ⟨rfl, hg⟩
            have C3 : Hid _ := HD.out.cl1 i i w13 hg
            clear C2 hg
            go_wp2_with fail
            refine Calls.mono C3.out ?_
            rintro e w14 ⟨rfl, hg⟩
            have HE : Hid (Below w.heap.size w w14) := (HD.out.lst _ _ _ hg).2
            clear C3 hg
            go_wp2
            go_ret
            exact ⟨rfl, HE.out⟩
      · go_wp2_with fail
        refine Calls.mono CK.out ?_
        rintro e w7 ⟨c', rfl, hb7, hc7⟩
        clear CK
        have CK1 : Hid _ := hc7
        clear hb7 hc7
        go_wp2_with fail
        refine Calls.mono CK1.out ?_
        rintro e w8 ⟨d', rfl, hb8, hcd', hpr'⟩
        clear CK1
        have HST : Hid (∃ L1 B1, Stn w1.heap.size L1 B1 c' d' w8 ∧ w1.heap.size ≤ L1 ∧ L1 ≤ B1 ∧ B1 ≤ w8.heap.size) := ⟨_, _, hpr'.stn, H16.out.size, hb8.size, Nat.le_refl _⟩
        have H16 : Hid (Below w1.heap.size w1 w8) := H16.out.trans (hb8.mono H16.out.size)
        have H06 : Hid (Below w.heap.size w w8) := H06.out.trans (hb8.mono H06.out.size)
        have CK : Hid _ := mkrs HBO.out w8 H16.out
        have hcn' : c'.isNone = d'.isNone := by rcases hcd' with ⟨rfl, rfl⟩ | ⟨a, b, rfl, rfl⟩ <;> rfl
        clear hb8 hcd' hpr' hcn
        go_wp2_with fail
        refine Calls.mono CK.out ?_
        rintro e w9 ⟨mm, rfl, hb9, hc9⟩
        clear CK
        have CK2 : Hid _ := hc9
        clear hb9 hc9
        go_wp2_with fail
        refine Calls.mono CK2.out ?_
        rintro e w10 ⟨kk, rfl, hb10, hmk, hpr⟩
        clear CK2
        have hmn : mm.isNone = kk.isNone := by rcases hmk with ⟨rfl, rfl⟩ | ⟨a, b, rfl, rfl⟩ <;> rfl
        have H010 : Hid (Below w.heap.size w w10) := H06.out.trans (hb10.mono H06.out.size)
        have CC : Hid _ := cuts_any d ls (by omega) (by omega) HLB.out _ _ w w10 H010.out H2.out H3.out
        have HS2 : Hid (Stn w1.heap.size w8.heap.size w10.heap.size mm kk w10) := hpr.stn
        have H610 : Hid (Below w8.heap.size w8 w10) := hb10
        clear hmk hb10 hpr
        go_wp2_with fail
        refine Calls.mono CC.out ?_
        rintro e w11 ⟨vL, vs, P, rfl, hoL, hP, hPl, hPf, hb11⟩
        clear CC
        obtain ⟨bL, capL, cur, hvL, hbL, hrL, hcs, htk⟩ := own_row hoL (by omega)
        subst hvL
        have HL : Hid (∀ j, j < P.length → ∃ o c, w11.cell? ⟨bL, j, none⟩ = some (.slice o (P.getD j []).length c) ∧ Si .u8 (.slice o (P.getD j []).length c) (P.getD j []) w) := fun j hj => by
          obtain ⟨o, c, q1, q2⟩ := hP.2 j hj
          refine ⟨o, c, ?_, q2⟩
          rw [cell_of_row w11 _ _ _ _ _ hrL, ← q1, ← htk, Nat.mul_one, List.getElem?_take, if_pos hj, Array.getElem?_toList]
        have bLz : bL < w11.heap.size := (Array.getElem?_eq_some_iff.1 hrL).1
        have HPB : Hid (∀ i, i < P.length → Byt (P.getD i []) ∧ (P.getD i []).length ≤ d.length) := fun i hi => by
          have e : d = (P.take i).flatten ++ (P.getD i [] ++ (P.drop (i + 1)).flatten) := by
            have h1 : P.drop i = P.getD i [] :: P.drop (i + 1) := by rw [List.drop_eq_getElem_cons hi]; simp [List.getD, hi]
            rw [← List.flatten_cons, ← h1, ← List.flatten_append, List.take_append_drop]
            exact hPf.symm
          refine ⟨fun x hx => HDB.out x (by rw [e]; exact List.mem_append_right _ (List.mem_append_left _ hx)), ?_⟩
          have := congrArg List.length e
          simp only [List.length_append] at this
          omega
        obtain ⟨L1, B1, t1, t2, t3, t4⟩ := HST.out
        have z610 := H610.out.size
        have t5 : Stn w1.heap.size L1 B1 c' d' w11 := (t1.keep z610 fun j hj _ => H610.out.block j hj).keep hb11.size fun j hj _ => hb11.block j hj
        have t6 : Stn w1.heap.size w8.heap.size w10.heap.size mm kk w11 := HS2.out.keep hb11.size fun j hj _ => hb11.block j hj
        obtain ⟨G, hDuo, hG0⟩ := duo_mk t5 t6 w bL (H010.out.trans (hb11.mono H010.out.size)) HZ1.out t2 t4 t3 z610 hbL bLz
        have HD : Hid (Duo w w11 bL c' d' mm kk G) := hDuo
        have HG0 : Hid (G 0 0 w11) := hG0
        have hPz : P.length ≤ 16777217 := by omega
        have hPp : 1 ≤ P.length := by omega
        have HKL : Hid (∀ n1 n2 W, G n1 n2 W → ∀ j, j < P.length → ∃ o c X, W.cell? ⟨bL, j, none⟩ = some (.slice o X.length c) ∧ X.length ≤ 16777216 ∧ Hid (Byt X ∧ Si .u8 (.slice o X.length c) X w)) := fun n1 n2 W hW j hj => by
          obtain ⟨o, c, q1, q2⟩ := HL.out j hj
          obtain ⟨q3, q4⟩ := HPB.out j hj
          exact ⟨o, c, P.getD j [], (World.cell?_of_block (w := w11) (hDuo.lst _ _ _ hW).1).trans q1, by omega, q3, q2⟩
        obtain ⟨NP, hNP⟩ : ∃ NP, NP = P.length := ⟨_, rfl⟩
        rw [← hNP] at HKL hPz hPp ⊢
        clear hoL hP hPf hb11 hrL hcs htk hPl HL HPB t1 t2 t3 t4 t5 t6 z610 hDuo hG0 HS2 H610 H010 HST H16 H06 HZ1 H2 H3 HBO HDB HLB hNP hbL bLz
        go_wp2_with fail
        go_loopw [15, 25] (fun okv iv wq => ∃ i : Nat, okv = .bool true ∧ iv = .int .i64 (i : Int) ∧ i ≤ NP ∧ Hid (G i i wq)) (fun _ iv _ => NP - (intOf iv).toNat)
        case atStart => exact ⟨0, rfl, rfl, by omega, HG0⟩
        case round =>
          clear HG0
          obtain ⟨i, rfl, rfl, hi, HG⟩ := hrel
          by_cases hlt : i < NP
          · have hi0 : (0 : Int) ≤ (i : Int) := by omega
            have hi1' : (i : Int) < (NP : Int) := by omega
            obtain ⟨oX, cX, X, k1, kl1, KX⟩ := HKL.out i i wr HG.out i hlt
            have C41 : Hid _ := HD.out.fed1 i i X _ wr HG.out (by omega) KX.out.1 kl1 KX.out.2
            obtain ⟨N1, hN1⟩ : ∃ N1, N1 = NP - 1 := ⟨_, rfl⟩
            obtain ⟨ri, hri⟩ : ∃ ri, ri = N1 - i := ⟨_, rfl⟩
            have e1 : IntKind.i64.wrap ((NP : Int) - 1) = (N1 : Int) := by rw [wi _ (by unfold I64; omega)]; omega
            have e2 : IntKind.i64.wrap ((N1 : Int) - (i : Int)) = (ri : Int) := by rw [wi _ (by unfold I64; omega)]; omega
            have hr0 : (0 : Int) ≤ (ri : Int) := by omega
            have hr1 : (ri : Int) < (NP : Int) := by omega
            have hrn : ri < NP := by omega
            clear hN1 hri HG
            go_wp2_with fail
            refine Calls.mono C41.out ?_
            rintro e w12 ⟨rfl, hg12⟩
            clear C41
            obtain ⟨oY, cY, Y, k2, kl2, KY⟩ := HKL.out (i + 1) i w12 hg12 ri hrn
            have C41b : Hid _ := HD.out.fed2 (i + 1) i Y _ w12 hg12 (by omega) KY.out.1 kl2 KY.out.2
            clear hg12
            go_wp2_with fail
            refine Calls.mono C41b.out ?_
            rintro e w13 ⟨rfl, hg13⟩
            clear C41b
            have CL : Hid _ := HD.out.cl1 (i + 1) (i + 1) w13 hg13
            have HG13 : Hid (G (i + 1) (i + 1) w13) := hg13
            clear hg13
            go_wp2_with fail
            · refine Calls.mono CL.out ?_
              rintro e w14 ⟨rfl, hg14⟩
              have HG14 : Hid (G (i + 1) (i + 1) w14) := hg14
              clear CL hg14 HG13
              go_wp2
              exact ⟨⟨i + 1, rfl, by rw [← ‹(i : Int) = bits BinOp.and IntKind.i64 cl 31›]; rfl, by omega, HG14⟩, by simp only [intOf]; omega⟩
            · exact ⟨⟨i + 1, rfl, by rfl, by omega, HG13⟩, by simp only [intOf]; omega⟩
          · have hi1' : ¬ ((i : Int) < (NP : Int)) := by omega
            have C1 : Hid _ := HD.out.cl1 i i wr HG.out
            clear HG
            go_wp2_with fail
            refine Calls.mono C1.out ?_
            rintro e w12 ⟨rfl, hg⟩
            have C2 : Hid _ := HD.out.cl2 i i w12 hg
            clear C1 hg
            go_wp2_with fail
            refine Calls.mono C2.out ?_
            rintro e w13 ⟨rfl, hg⟩
            have C3 : Hid _ := HD.out.cl1 i i w13 hg
            clear C2 hg
            go_wp2_with fail
            refine Calls.mono C3.out ?_
            rintro e w14 ⟨rfl, hg⟩
            have HE : Hid (Below w.heap.size w w14) := (HD.out.lst _ _ _ hg).2
            clear C3 hg
            go_wp2
            go_ret
            exact ⟨rfl, HE.out⟩
end Go.Proofs.Ytceaklefdahfkab
