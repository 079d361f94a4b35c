/- SieveKeeps: the walk. -/
import Derived.Test.YtceaklefdahfkabKp1
namespace Go.Proofs.Ytceaklefdahfkab
open Go.RowKit
theorem row_si {g N : Nat} {l : List Nat} {w : World} (hN : N ≤ 1073741824) (hl : l.length = N) (h : w.heap[g]? = some (.cells (ik .u8 l) 5 (0, 0))) : Si .u8 (.slice (some ⟨g, 0, none⟩) N N) l w := by
  subst hl
  exact .inr ⟨g, 0, _, rfl, Nat.le_refl _, by unfold maxLen; omega, (Array.getElem?_eq_some_iff.1 h).1, fun j hj => by rw [Nat.zero_add]; exact (cell_of_row w _ _ _ _ _ h).trans (ik_get _ _ _ hj)⟩
/-- One hit more, of one list. -/
theorem cp_hit (W : World) (g N i kk m : Nat) (T : List ByteArray) (t : List Nat) (H : List (Int × Int)) (k : Nat) (hk : k < H.length) (hx : H.getD k (0, 0) = ((i : Int), (kk : Int))) (hl : (puts T 0 t (H.take k)).length = N) (hi : i + m ≤ N) (hs : (txt T kk).size = m) (hr : W.heap[g]? = some (.cells (ik .u8 (puts T 0 t (H.take k))) 5 (0, 0))) :
    (cpS 3 #[.slice (some ⟨g, i, none⟩) (N - i) (N - i), .string (txt T kk)]).run Try.prog W = .ok (goInt m) (W.setRow g (ik .u8 (puts T 0 t (H.take (k + 1))))) := by
  have := run_cpS W 3 g i (N - i) (N - i) _ (txt T kk) hr (by omega)
  have e1 : min (txt T kk).size (N - i) = m := by omega
  have e2 : (min ((txt T kk).size : Int) ((N - i : Nat) : Int)) = (m : Int) := by omega
  have e3 : (tl (txt T kk)).take m = tl (txt T kk) := List.take_of_length_le (by rw [tl_len]; omega)
  rw [e1, e2, e3] at this
  rw [take_snocH hk, puts_snoc, hx]
  exact this
theorem puts_take_len {T : List ByteArray} {m : Nat} (hT : ∀ s ∈ T, s.size = m) (H : List (Int × Int)) (t : List Nat) (k : Nat) (h : ∀ x ∈ H, Hin 0 t.length m T.length x) : (puts T 0 t (H.take k)).length = t.length := puts_len hT _ _ fun x hx => h x (List.mem_of_mem_take hx)
attribute [local go_sem ↓] toApS toApT toMkS toMkB toCpS toSlB toCpB
set_option maxRecDepth 100000 in
set_option maxHeartbeats 3200000 in
theorem keeps_any (l0 : List ByteArray) (hl0 : l0.length ≤ 1048576) (z : Int) (d : List Nat) (hdl : d.length ≤ 1073741824) (hdb : Byt d) (at' : List Nat) (hal : at'.length ≤ 1073741824) (ha : ∀ j, at'.getD j 0 < 65536) (l4 : List ByteArray) (hl4 : l4.length ≤ 1073741824) (v0 v2 v3 v4 : Value) (w : World) (h0 : St v0 l0 w) (h2 : Si .u8 v2 d w) (h3 : Si .u16 v3 at' w) (h4 : St v4 l4 w) :
    Calls Try.prog 3 #[v0, .int .i64 z, v2, v3, v4] w fun e w' => e = .returned (.bool true) ∧ Below w.heap.size w w' := by
  obtain ⟨o4, c4, hv4, -⟩ := h4.form
  subst hv4
  obtain ⟨o, c, rfl, hc1, hc2, -⟩ := h0.form
  obtain ⟨v', w1, r1, hs1, hb1⟩ := run_apA w 22 o c l0 ⟨#[97, 98]⟩ h0 (by omega)
  have hl1 : (l0 ++ [(⟨#[97, 98]⟩ : ByteArray)]).length = l0.length + 1 := by simp
  have CW : Hid _ := words_any (l0 ++ [⟨#[97, 98]⟩]) (by rw [hl1]; omega) z v' w1 hs1
  generalize hL : l0 ++ [(⟨#[97, 98]⟩ : ByteArray)] = l1 at *
  have HB1 : Hid (Below w.heap.size w w1) := hb1
  have H2 : Hid (Si .u8 v2 d w1) := h2.below hb1
  have H3 : Hid (Si .u16 v3 at' w1) := h3.below hb1
  have H4 : Hid (St (.slice o4 l4.length c4) l4 w) := h4
  have HB01 : Hid (Below w.heap.size w w1) := hb1
  obtain ⟨n, hn⟩ : ∃ n, n = min 24 l1.length := ⟨_, rfl⟩
  rw [← hn] at CW
  have hn0 : 0 < n := by omega
  have hn24 : n ≤ 24 := by omega
  clear hL hn h0 h2 h3 h4 hs1 hb1
  go_enter Try.func3, Try.ntmps3
  go_wp2_with fail
  refine Calls.mono CW.out ?_
  rintro e w2 ⟨m, u, rfl, hm2, hm17, ho2, hb2⟩
  clear CW
  obtain ⟨ws, hPt, hok, hnd, hwl, hst2⟩ : ∃ ws : List ByteArray, Pt ws m ∧ (∀ (e : Ending) (w' : World), NewP ws e w' → ∃ ns, NewOk ws ns ∧ ∃ g gt, e = .returned (.tuple #[.pointer (some ⟨g, 0, none⟩), .int .i64 0]) ∧ Sve g gt w' ∧ TabK w'.heap.size gt (ftT ((wdS ws ns).map tl) ns m) w') ∧ (ws.map tl).Nodup ∧ ws.length = n ∧ St u ws w2 :=
    ⟨wds l1 m n, wds_pt l1 m n hn0 hn24 hm2 hm17, wds_ok l1 m n hn0 hn24 hm2 hm17, wds_nodup l1 m n hn24 hm2, wds_len l1 m n, own_st ho2 (wds_len l1 m n).symm⟩
  have HB2 : Hid (Below w.heap.size w w2) := HB1.out.trans (hb2.mono HB1.out.size)
  obtain ⟨D, hDl, hDb, CP⟩ : ∃ D : List Nat, D.length = d.length ∧ Byt D ∧ Hid (Calls Try.prog 9 #[v2, u, v3] w2 fun e w' => ∃ g, e = .returned (.slice (some ⟨g, 0, none⟩) D.length D.length) ∧ w2.heap.size ≤ g ∧ w'.heap[g]? = some (.cells (ik .u8 D) 5 (0, 0)) ∧ Below w2.heap.size w2 w') :=
    ⟨pltD d ws at', pltD_len d ws at', pltD_byt d hdb ws at', by rw [pltD_len]; exact planted_any d hdl ws (by omega) (by omega) at' hal ha v2 u v3 w2 (H2.out.below hb2) hst2 (H3.out.below hb2)⟩
  rw [← hDl] at hdl
  have HU2 : Hid (St u ws w2) := hst2
  obtain ⟨ou, cu, rfl, -⟩ := hst2.form
  have hwl0 : 0 < ws.length := by omega
  have hwl24 : ws.length ≤ 24 := by omega
  have HPT : Hid _ := hPt
  have HOK : Hid _ := hok
  have HND : Hid _ := hnd
  have HDB : Hid _ := hDb
  clear H2 H3 HB1 HB01 ho2 hb2 hst2 hDl ha hdb hPt hok hnd hDb hwl hn0 hn24 hl1 hc1 hc2 r1
  go_wp2_with fail
  refine Calls.mono CP.out ?_
  rintro e w3 ⟨gd, rfl, hgd, hR3, hb3⟩
  clear CP
  have hS3 : St (.slice ou ws.length cu) ws w3 := HU2.out.below hb3
  have HB3 : Hid (Below w.heap.size w w3) := HB2.out.trans (hb3.mono HB2.out.size)
  have HR3 : Hid (w3.heap[gd]? = some (.cells (ik .u8 D) 5 (0, 0))) := hR3
  have CN : Hid _ := new_any ws (by omega) (fun s hs => by rw [HPT.out.sz s hs]; omega) (fun v w h => byText_any ws h v w) _ w3 hS3
  have HS3 : Hid (St (.slice ou ws.length cu) ws w3) := hS3
  clear hS3 hb3 hR3 hgd HB2 HU2
  go_wp2_with fail
  refine Calls.mono CN.out ?_
  rintro e w4 ⟨hP4, hb4⟩
  obtain ⟨ns, hok4, g, gt, rfl, hS4, hT4⟩ := HOK.out e w4 hP4
  clear CN hP4
  have HB4 : Hid (Below w.heap.size w w4) := HB3.out.trans (hb4.mono HB3.out.size)
  have HU4 : Hid (St (.slice ou ws.length cu) ws w4) := HS3.out.below hb4
  have gdz : gd < w3.heap.size := (Array.getElem?_eq_some_iff.1 HR3.out).1
  have HR4 : Hid (w4.heap[gd]? = some (.cells (ik .u8 D) 5 (0, 0))) := (hb4.block gd gdz).trans HR3.out
  obtain ⟨W5, r5, R5, b5⟩ := run_mkS w4 ws.length (by omega)
  have HT : Hid (W5.heap[w4.heap.size]? = some (.cells (sk (rks l4 m 0 ++ List.replicate (ws.length - 0) (⟨#[]⟩ : ByteArray))) 9 (0, 0)) ∧ Below w4.heap.size w4 W5) := ⟨by rw [R5]; simp [sk, rks], b5⟩
  have HOK4 : Hid (NewOk ws ns ∧ Sve g gt w4 ∧ TabK w4.heap.size gt (ftT ((wdS ws ns).map tl) ns m) w4) := ⟨hok4, hS4, hT4⟩
  clear R5 b5 hok4 hS4 hT4 hb4 HB3 HR3 HS3 gdz HOK
  obtain ⟨ou', cu', huo, _, _, huf⟩ := HU4.out.form
  cases huo
  obtain ⟨bu, offu, hou, hbu, hcu⟩ := huf hwl0
  subst hou
  have HC0 : Hid (∀ W, Below w4.heap.size w4 W → W.cell? ⟨bu, offu, none⟩ = some (.string (txt ws 0))) := fun W hb => (World.cell?_of_block (w := w4) (hb.block bu hbu)).trans (hcu 0 _ (txt_get hwl0))
  have hsz0 : (txt ws 0).size = m := HPT.out.sz _ (by rw [txt_eq hwl0]; exact List.getElem_mem hwl0)
  have HL4 : Hid (∀ W, Below w.heap.size w W → St (.slice o4 l4.length c4) l4 W) := fun W hb => H4.out.below hb
  clear hcu huf H4
  obtain ⟨gT, hgT⟩ : ∃ gT, gT = w4.heap.size := ⟨_, rfl⟩
  have HGT : Hid (gT = w4.heap.size) := hgT
  rw [← hgT] at HT r5
  clear hgT
  have hwi : (0 : Int) < (ws.length : Int) := by omega
  obtain ⟨t0, ht0⟩ : ∃ t0, t0 = txt ws 0 := ⟨_, rfl⟩
  rw [← ht0] at HC0 hsz0
  have hsz1 : (t0.size : Int) = (m : Int) := by omega
  clear ht0 hsz0
  go_wp2_with fail
  go_loopw [16] (fun iv wr => ∃ i : Nat, iv = .int .i64 (i : Int) ∧ i ≤ ws.length ∧ Hid (wr.heap[gT]? = some (.cells (sk (rks l4 m i ++ List.replicate (ws.length - i) (⟨#[]⟩ : ByteArray))) 9 (0, 0)) ∧ Below gT w4 wr)) (fun iv _ => ws.length - (intOf iv).toNat)
  case atStart => exact ⟨0, rfl, by omega, HT.out.1, by rw [HGT.out]; have := HT.out.2; rw [HGT.out] at this; exact this⟩
  case round =>
    clear HT r5
    obtain ⟨i, rfl, hi, HT⟩ := hrel
    obtain ⟨wo, rfl⟩ : ∃ wo, wo = wr := ⟨_, rfl⟩
    have hb4o : Below w4.heap.size w4 wo := by rw [← HGT.out]; exact HT.out.2
    by_cases hlt : i < ws.length
    · have hi0 : (0 : Int) ≤ (i : Int) := by omega
      have hi1 : (i : Int) < (ws.length : Int) := by omega
      have cs := HC0.out wo hb4o
      obtain ⟨W1, r1, R1, B1, z1⟩ := run_mkB wo m (by omega)
      have gTz : gT < wo.heap.size := (Array.getElem?_eq_some_iff.1 HT.out.1).1
      have HROW : Hid (∀ W v, Below wo.heap.size wo W → W.cell? ⟨gT, i, none⟩ = some (.string ⟨#[]⟩) ∧ W.frozen? ⟨gT, i, none⟩ = false ∧ (v = bst (rkL l4 m i) → (W.setCell ⟨gT, i, none⟩ (.string v)).heap[gT]? = some (.cells (sk (rks l4 m (i + 1) ++ List.replicate (ws.length - (i + 1)) (⟨#[]⟩ : ByteArray))) 9 (0, 0)) ∧ Below gT w4 (W.setCell ⟨gT, i, none⟩ (.string v)))) := fun W v hb => by
        have hr := (hb.block gT gTz).trans HT.out.1
        have hlen : i < (rks l4 m i ++ List.replicate (ws.length - i) (⟨#[]⟩ : ByteArray)).length := by rw [List.length_append, rks_len, List.length_replicate]; omega
        refine ⟨?_, frozen_of_row W _ _ _ _ hr, fun hv => ⟨?_, ?_⟩⟩
        · rw [cell_of_row W _ _ _ _ _ hr, sk_get _ _ hlen]
          have h5 : txt (rks l4 m i ++ List.replicate (ws.length - i) (⟨#[]⟩ : ByteArray)) i = ⟨#[]⟩ := by
            rw [txt_eq hlen, List.getElem_append_right (by rw [rks_len]; exact Nat.le_refl _)]
            simp
          rw [h5]
        · rw [← rks_row l4 m ws.length i hlt, ← hv, ← sk_set]
          exact heap_setCell_same _ _ _ _ _ _ hr
        · exact (HT.out.2.trans (hb.mono (by omega))).setCell (Nat.le_refl _) _
      by_cases h4i : i < l4.length
      · have h4i' : (i : Int) < (l4.length : Int) := by omega
        have hbw : Below w.heap.size w W1 := HB4.out.trans ((hb4o.trans (B1.mono hb4o.size)).mono HB4.out.size)
        obtain ⟨b4, off4, h4o, c4i⟩ : ∃ b off, o4 = some ⟨b, off, none⟩ ∧ W1.cell? ⟨b, off + i, none⟩ = some (.string (txt l4 i)) := by
          rcases HL4.out W1 hbw with ⟨_, h⟩ | ⟨b', off', c', h, _, _, _, h5⟩
          · rw [h] at h4i; simp at h4i
          · cases h
            exact ⟨b', off', rfl, h5 i _ (txt_get h4i)⟩
        subst h4o
        have rc := run_cpS W1 3 wo.heap.size 0 m m (List.replicate m 0) (txt l4 i) R1 (by rw [List.length_replicate]; omega)
        have hrk : ovr (List.replicate m 0) ((tl (txt l4 i)).take (min (txt l4 i).size m)) 0 = rkL l4 m i := by unfold rkL; rw [if_pos h4i]
        rw [hrk] at rc
        obtain ⟨W2, hW2⟩ : ∃ W2, W1.setRow wo.heap.size (ik .u8 (rkL l4 m i)) = W2 := ⟨_, rfl⟩
        rw [hW2] at rc
        have R2 : W2.heap[wo.heap.size]? = some (.cells (ik .u8 (rkL l4 m i)) 5 (0, 0)) := by rw [← hW2]; exact setRow_heap _ _ _ _ _ _ R1
        have B2 : Below wo.heap.size wo W2 := by rw [← hW2]; exact below_setRow B1 (Nat.le_refl _) _
        have hSi : Si .u8 (.slice (some ⟨wo.heap.size, 0, none⟩) m m) (rkL l4 m i) W2 := .inr ⟨_, 0, m, by rw [rkL_len], by rw [rkL_len]; exact Nat.le_refl _, by unfold maxLen; omega, (Array.getElem?_eq_some_iff.1 R2).1, fun j hj => by rw [Nat.zero_add]; exact (cell_of_row W2 _ _ _ _ _ R2).trans (ik_get _ _ _ hj)⟩
        have cv := conv_si hSi
        obtain ⟨q1, q2, q3⟩ := HROW.out W2 _ B2
        have HQ : Hid _ := q3 rfl
        clear hSi q3 HROW R1 B1 R2 B2 hW2 HT hb4o hrk hbw z1
        generalize bst (rkL l4 m i) = sv at *
        generalize txt l4 i = s4 at *
        go_wp2
        exact ⟨⟨i + 1, by rfl, by omega, HQ⟩, by simp only [intOf]; omega⟩
      · have h4i' : ¬ ((i : Int) < (l4.length : Int)) := by omega
        have hrk : List.replicate m 0 = rkL l4 m i := by unfold rkL; rw [if_neg h4i]
        rw [hrk] at R1
        have hSi : Si .u8 (.slice (some ⟨wo.heap.size, 0, none⟩) m m) (rkL l4 m i) W1 := .inr ⟨_, 0, m, by rw [rkL_len], by rw [rkL_len]; exact Nat.le_refl _, by unfold maxLen; omega, (Array.getElem?_eq_some_iff.1 R1).1, fun j hj => by rw [Nat.zero_add]; exact (cell_of_row W1 _ _ _ _ _ R1).trans (ik_get _ _ _ hj)⟩
        have cv := conv_si hSi
        obtain ⟨q1, q2, q3⟩ := HROW.out W1 _ B1
        have HQ : Hid _ := q3 rfl
        clear hSi q3 HROW R1 B1 HT hb4o hrk z1
        generalize bst (rkL l4 m i) = sv at *
        go_wp2
        exact ⟨⟨i + 1, by rfl, by omega, HQ⟩, by simp only [intOf]; omega⟩
    · have hi1 : ¬ ((i : Int) < (ws.length : Int)) := by omega
      have hie : i = ws.length := by omega
      obtain ⟨R, hR⟩ : ∃ R, R = rks l4 m ws.length := ⟨_, rfl⟩
      have HTO : Hid (St (.slice (some ⟨gT, 0, none⟩) ws.length ws.length) R wo ∧ Below w4.heap.size w4 wo) := by
        obtain ⟨h1, h2⟩ := HT.out
        rw [hie, Nat.sub_self, List.replicate_zero, List.append_nil, ← hR] at h1
        have hRl : R.length = ws.length := by rw [hR]; exact rks_len _ _ _
        refine ⟨.inr ⟨gT, 0, ws.length, by rw [hRl], by rw [hRl]; exact Nat.le_refl _, by unfold maxLen; omega, (Array.getElem?_eq_some_iff.1 h1).1, fun j s hj => ?_⟩, hb4o⟩
        have hjl : j < R.length := (List.getElem?_eq_some_iff.1 hj).1
        rw [Nat.zero_add, cell_of_row wo _ _ _ _ _ h1, sk_get _ _ hjl, txt_eq hjl]
        rw [List.getElem?_eq_getElem hjl] at hj
        rw [Option.some.inj hj]
      have HRR : Hid (R.length = ws.length ∧ (∀ s ∈ R, s.size = m) ∧ allW m R = true) := by rw [hR]; exact ⟨rks_len _ _ _, rks_sz _ _ _, rks_all _ _ _⟩
      clear HT hie hR hb4o
      obtain ⟨H, hH⟩ : ∃ H, H = hts (ws.map tl) m D := ⟨_, rfl⟩
      have HHH : Hid (H = hts (ws.map tl) m D) := hH
      have hHL : H.length ≤ 1073741824 := by rw [hH]; have := hts_len (ws.map tl) m D (by omega); omega
      have HD : Hid (∀ W, Below w4.heap.size w4 W → Si .u8 (.slice (some ⟨gd, 0, none⟩) D.length D.length) D W) := fun W hb => Si.below (.inr ⟨gd, 0, _, rfl, Nat.le_refl _, by unfold maxLen; omega, (Array.getElem?_eq_some_iff.1 HR4.out).1, fun j hj => by rw [Nat.zero_add]; exact (cell_of_row w4 _ _ _ _ _ HR4.out).trans (ik_get _ _ _ hj)⟩) hb
      have HSV : Hid (∀ W, Below w4.heap.size w4 W → Sve g gt W ∧ TabK W.heap.size gt (ftT ((wdS ws ns).map tl) ns m) W) := fun W hb => by
        obtain ⟨k1, k2, k3⟩ := HOK4.out
        exact ⟨(hb.block g (Array.getElem?_eq_some_iff.1 k2).1).trans k2, (k3.mono hb.size).keep hb.size fun j _ hj => hb.block j hj⟩
      have HNW : Hid (NewOk ws ns) := HOK4.out.1
      have SC1 : Hid (∀ W, Below w4.heap.size w4 W → Calls Try.prog 11 #[.pointer (some ⟨g, 0, none⟩), .slice (some ⟨gd, 0, none⟩) D.length D.length] W fun e w' => ∃ v, e = .returned v ∧ Hl v H w' ∧ Below W.heap.size W w') := fun W hb => by
        rw [hH]
        exact (scan_hts ws m HPT.out ns HNW.out g gt D HDB.out (by omega) _ W (HSV.out W hb).1 (HSV.out W hb).2 (HD.out W hb)).mono fun e w' ⟨v, he, ho, hbb⟩ => ⟨v, he, (hl_own ho).1, hbb⟩
      have RWT : Hid (∀ W T tv, Below w4.heap.size w4 W → St tv T W → T.length ≤ 1048576 → Calls Try.prog 13 #[.pointer (some ⟨g, 0, none⟩), .slice (some ⟨gd, 0, none⟩) D.length D.length, tv] W fun e w' => Below W.heap.size W w' ∧ RwP m ws.length T D H W.heap.size e w') := fun W T tv hb hT hTl => by
        rw [hH]
        exact rewrite_hts ws m HPT.out ns HNW.out g gt T hTl _ _ D HDB.out hdl W (HSV.out W hb).1 (HSV.out W hb).2 hT (HD.out W hb)
      have MSK : Hid (∀ W, Below w4.heap.size w4 W → Calls Try.prog 14 #[.pointer (some ⟨g, 0, none⟩), .slice (some ⟨gd, 0, none⟩) D.length D.length] W fun e w' => Below W.heap.size W w' ∧ MkP m ws.length D H W.heap.size e w') := fun W hb => by
        rw [hH]
        exact mask_hts ws m HPT.out ns HNW.out g gt _ D HDB.out hdl W (HSV.out W hb).1 (HSV.out W hb).2 (HD.out W hb)
      have HRG : Hid (Rg H ∧ ∀ i ∈ H, Hin 0 D.length m ws.length i) := by
        rw [hH]
        exact ⟨hts_rg _ (by rw [List.length_map]; omega) m D (by omega), hts_hin _ _ _ _ (by rw [List.length_map])⟩
      have HOV : Hid (ovP 0 m H = if 0 < ov H (m : Int) then ((H.getD (ov H (m : Int)).toNat (0, 0)).1, true) else (0, false)) := by rw [hH]; exact ovP_hts _ _ _
      have hov := ov_rng H (m : Int)
      have C1 : Hid _ := SC1.out wo HTO.out.2
      clear hH HOK4 SC1 HGT HL4 HSV HNW
      go_wp2_with fail
      refine Calls.mono C1.out ?_
      rintro e w6 ⟨hv, rfl, hl6, b6⟩
      clear C1
      have B46 : Hid (Below w4.heap.size w4 w6) := HTO.out.2.trans (b6.mono HTO.out.2.size)
      have HRv : Hid (∀ W, Below w6.heap.size w6 W → St (.slice (some ⟨gT, 0, none⟩) ws.length ws.length) R W) := fun W hb => (HTO.out.1.below b6).below hb
      have HHv : Hid (∀ W, Below w6.heap.size w6 W → Hl hv H W) := fun W hb => hl6.below hb
      have c6 := HC0.out w6 B46.out
      have C2 : Hid (Calls Try.prog 12 #[hv, .int .i64 (m : Int)] w6 fun e w' => e = .returned (.int .i64 (ov H (m : Int))) ∧ Below w6.heap.size w6 w') := overlap_any H HRG.out.1 (m : Int) (by unfold I64; omega) hv w6 hl6
      obtain ⟨y, hy⟩ : ∃ y, y = ov H (m : Int) := ⟨_, rfl⟩
      rw [← hy] at C2 hov HOV
      have HY : Hid (y = ov H (m : Int)) := hy
      clear hy hl6 b6 HTO
      go_wp2_with fail
      refine Calls.mono C2.out ?_
      rintro e w7 ⟨rfl, b7⟩
      clear C2 c6
      have B47 : Hid (Below w4.heap.size w4 w7) := B46.out.trans (b7.mono B46.out.size)
      have B67 : Hid (Below w6.heap.size w6 w7) := b7
      have C3 : Hid _ := RWT.out w7 R _ B47.out (HRv.out w7 b7) (by rw [HRR.out.1]; omega)
      clear b7
      go_wp2_with fail
      refine Calls.mono C3.out ?_
      rintro e w8 ⟨b8, hP8⟩
      clear C3
      have B48 : Hid (Below w4.heap.size w4 w8) := B47.out.trans (b8.mono B47.out.size)
      have B68 : Hid (Below w6.heap.size w6 w8) := B67.out.trans (b8.mono B67.out.size)
      have C4 : Hid _ := RWT.out w8 ws _ B48.out (HU4.out.below B48.out) (by omega)
      have HMS : Hid (∀ W, Below w4.heap.size w4 W → Calls Try.prog 14 #[.pointer (some ⟨g, 0, none⟩), .slice (some ⟨gd, 0, none⟩) D.length D.length] W fun e w' => Below W.heap.size W w' ∧ MkP m ws.length D H W.heap.size e w') := MSK.out
      clear RWT MSK b8 B47 B67 B46
      by_cases h0y : 0 < y
      · rw [if_pos h0y] at HOV
        have hyl : y < (H.length : Int) := by omega
        obtain ⟨q, hq⟩ : ∃ q : Nat, y = (q : Int) := ⟨y.toNat, by omega⟩
        subst hq
        rw [Int.toNat_natCast] at HOV
        obtain ⟨P, hPd⟩ : ∃ P, P = (H.getD q (0, 0)).1 := ⟨_, rfl⟩
        rw [← hPd] at HOV
        have HPD : Hid (P = (H.getD q (0, 0)).1) := hPd
        clear hPd
        have hP8' : e = .returned (.tuple #[.slice none 0 0, .int .i64 52, .int .i64 P]) := by
          rcases hP8 with ⟨y1, -⟩ | ⟨-, y1, -⟩ | ⟨-, -, -, he⟩ | ⟨-, -, y1, -⟩
          · exact absurd HRR.out.1 y1
          · rw [HRR.out.2.2] at y1; cases y1
          · rw [he, HOV.out]
          · rw [HOV.out] at y1; cases y1
        subst hP8'
        clear hP8
        go_wp2_with fail
        refine Calls.mono C4.out ?_
        rintro e w9 ⟨b9, hP9⟩
        clear C4
        have hP9' : e = .returned (.tuple #[.slice none 0 0, .int .i64 52, .int .i64 P]) := by
          rcases hP9 with ⟨y1, -⟩ | ⟨-, y1, -⟩ | ⟨-, -, -, he⟩ | ⟨-, -, y1, -⟩
          · exact absurd rfl y1
          · rw [pt_all HPT.out] at y1; cases y1
          · rw [he, HOV.out]
          · rw [HOV.out] at y1; cases y1
        subst hP9'
        clear hP9
        have B49 : Hid (Below w4.heap.size w4 w9) := B48.out.trans (b9.mono B48.out.size)
        have B69 : Hid (Below w6.heap.size w6 w9) := B68.out.trans (b9.mono B68.out.size)
        have C5 : Hid _ := HMS.out w9 B49.out
        clear b9 HMS
        go_wp2_with fail
        refine Calls.mono C5.out ?_
        rintro e w10 ⟨b10, hP10⟩
        clear C5
        have hP10' : e = .returned (.tuple #[.slice none 0 0, .slice none 0 0, .int .i64 52, .int .i64 P]) := by
          rcases hP10 with ⟨-, he⟩ | ⟨y1, -⟩
          · rw [he, HOV.out]
          · rw [HOV.out] at y1; cases y1
        subst hP10'
        clear hP10
        have hb610 : Below w6.heap.size w6 w10 := B69.out.trans (b10.mono B69.out.size)
        obtain ⟨bh, offh, chh, hvh, cq⟩ : ∃ b off c, hv = .slice (some ⟨b, off, none⟩) H.length c ∧ w10.cell? ⟨b, off + q * 2, none⟩ = some (.int .i64 P) := by
          rcases HHv.out w10 hb610 with ⟨_, h⟩ | ⟨b', off', c', h, _, _, _, h6⟩
          · rw [h] at hyl; simp at hyl; omega
          · exact ⟨b', off', c', h, by rw [HPD.out]; exact (h6 q (by omega)).1⟩
        subst hvh
        have hyge : (0 : Int) ≤ (q : Int) := by omega
        have HE : Hid (Below w.heap.size w w10) := HB4.out.trans ((B49.out.trans (b10.mono B49.out.size)).mono HB4.out.size)
        clear hb610 b10 HHv HRv HOV hov HPD HD HRG HY HC0 B48 B68 B49 B69 HRR HPT HND HDB HU4 HR4 HHH HB4
        go_wp2
        go_ret
        exact ⟨rfl, HE.out⟩
      · have hy1 : y = -1 := by omega
        rw [if_neg h0y] at HOV
        subst hy1
        clear h0y hov HY
        obtain ⟨X, hX⟩ : ∃ X, X = puts R 0 D H := ⟨_, rfl⟩
        obtain ⟨M, hM⟩ : ∃ M, M = puts (List.replicate ws.length (zst m)) 0 D H := ⟨_, rfl⟩
        have hZsz : ∀ s ∈ List.replicate ws.length (zst m), s.size = m := fun s hs => by rw [List.eq_of_mem_replicate hs]; exact zst_size m
        have hXl : X.length = D.length := by rw [hX]; exact puts_len (m := m) HRR.out.2.1 H D (by rw [HRR.out.1]; exact HRG.out.2)
        have hMl : M.length = D.length := by rw [hM]; exact puts_len (m := m) hZsz H D (by rw [List.length_replicate]; exact HRG.out.2)
        have HSID : Hid (puts ws 0 D H = D) := by rw [HHH.out]; exact same_id ws m HPT.out.sz D
        have HBID : Hid (puts ws 0 M H = D) := by
          show _ = _
          rw [hM, HHH.out]; exact back_id ws _ m HPT.out.sz hZsz (by simp) D
        have HXE : Hid (X = puts R 0 D H) := hX
        have HME : Hid (M = puts (List.replicate ws.length (zst m)) 0 D H) := hM
        obtain ⟨ox, cx, hP8', ho8⟩ : ∃ ox cx, e = .returned (.tuple #[.slice ox D.length cx, .int .i64 0, .int .i64 0]) ∧ w8.ownsRow w7.heap.size 5 1 (.slice ox D.length cx) D.length (ik .u8 X).toList := by
          rcases hP8 with ⟨y1, -⟩ | ⟨-, y1, -⟩ | ⟨-, -, y1, -⟩ | ⟨-, -, -, v, he, ho⟩
          · exact absurd HRR.out.1 y1
          · rw [HRR.out.2.2] at y1; cases y1
          · rw [HOV.out] at y1; cases y1
          · obtain ⟨ox, cx, rfl⟩ := own_size ho
            exact ⟨ox, cx, he, by rw [hX]; exact ho⟩
        subst hP8'
        have HX8 : Hid (∀ W, Below w8.heap.size w8 W → Si .u8 (.slice ox D.length cx) X W) := fun W hb => (own_si ho8 hXl.symm).below hb
        clear hP8 ho8 hX hM hZsz
        go_wp2_with fail
        refine Calls.mono C4.out ?_
        rintro e w9 ⟨b9, hP9⟩
        clear C4
        obtain ⟨os, cs, hP9', ho9⟩ : ∃ ox cx, e = .returned (.tuple #[.slice ox D.length cx, .int .i64 0, .int .i64 0]) ∧ w9.ownsRow w8.heap.size 5 1 (.slice ox D.length cx) D.length (ik .u8 D).toList := by
          rcases hP9 with ⟨y1, -⟩ | ⟨-, y1, -⟩ | ⟨-, -, y1, -⟩ | ⟨-, -, -, v, he, ho⟩
          · exact absurd rfl y1
          · rw [pt_all HPT.out] at y1; cases y1
          · rw [HOV.out] at y1; cases y1
          · obtain ⟨ox, cx, rfl⟩ := own_size ho
            rw [HSID.out] at ho
            exact ⟨ox, cx, he, ho⟩
        subst hP9'
        have B49 : Hid (Below w4.heap.size w4 w9) := B48.out.trans (b9.mono B48.out.size)
        have B69 : Hid (Below w6.heap.size w6 w9) := B68.out.trans (b9.mono B68.out.size)
        have B89 : Hid (Below w8.heap.size w8 w9) := b9
        have HS9 : Hid (∀ W, Below w9.heap.size w9 W → Si .u8 (.slice os D.length cs) D W) := fun W hb => (own_si ho9 rfl).below hb
        have C5 : Hid _ := HMS.out w9 B49.out
        clear hP9 ho9 b9 HMS
        go_wp2_with fail
        refine Calls.mono C5.out ?_
        rintro e w10 ⟨b10, hP10⟩
        clear C5
        obtain ⟨om, cm, oh, ch, hP10', hom, hoh⟩ : ∃ om cm oh ch, e = .returned (.tuple #[.slice om D.length cm, .slice oh H.length ch, .int .i64 0, .int .i64 0]) ∧ w10.ownsRow w9.heap.size 5 1 (.slice om D.length cm) D.length (ik .u8 M).toList ∧ w10.ownsRow w9.heap.size 39 2 (.slice oh H.length ch) H.length (hc H) := by
          rcases hP10 with ⟨y1, -⟩ | ⟨-, v, hv, he, h1, h2⟩
          · rw [HOV.out] at y1; cases y1
          · obtain ⟨om, cm, rfl⟩ := own_size h1
            obtain ⟨oh, ch, rfl⟩ := own_size h2
            exact ⟨om, cm, oh, ch, he, by rw [HME.out]; exact h1, h2⟩
        subst hP10'
        have B410 : Hid (Below w4.heap.size w4 w10) := B49.out.trans (b10.mono B49.out.size)
        have h610 : Below w6.heap.size w6 w10 := B69.out.trans (b10.mono B69.out.size)
        have h810 : Below w8.heap.size w8 w10 := B89.out.trans (b10.mono B89.out.size)
        obtain ⟨ohv, chv, hhv, -⟩ := (HHv.out w6 (Below.refl _ _)).form
        subst hhv
        have HALL : Hid (∀ W, Below w10.heap.size w10 W → Below w4.heap.size w4 W ∧ Si .u8 (.slice (some ⟨gd, 0, none⟩) D.length D.length) D W ∧ Si .u8 (.slice ox D.length cx) X W ∧ Si .u8 (.slice om D.length cm) M W ∧ Hl (.slice ohv H.length chv) H W ∧ St (.slice (some ⟨gT, 0, none⟩) ws.length ws.length) R W ∧ St (.slice (some ⟨bu, offu, none⟩) ws.length cu) ws W ∧ W.cell? ⟨bu, offu, none⟩ = some (.string t0)) := fun W hb => by
          have h4 := B410.out.trans (hb.mono B410.out.size)
          refine ⟨h4, HD.out W h4, HX8.out W (h810.trans (hb.mono h810.size)), (own_si hom hMl.symm).below hb, HHv.out W (h610.trans (hb.mono h610.size)), HRv.out W (h610.trans (hb.mono h610.size)), HU4.out.below h4, HC0.out W h4⟩
        have cvs := conv_si (HS9.out w10 b10)
        have cvd := conv_si (HD.out w10 B410.out)
        have CSM : Hid (Calls Try.prog 15 #[.slice oh H.length ch, .slice ohv H.length chv] w10 fun e w' => e = .returned (.bool true) ∧ Below w10.heap.size w10 w') := same_any H _ _ w10 (hl_own hoh).1 (HALL.out w10 (Below.refl _ _)).2.2.2.2.1
        have HLN : Hid (X.length = D.length ∧ M.length = D.length) := ⟨hXl, hMl⟩
        clear hP10 hom hoh b10 h610 h810 HD HX8 HHv HRv HC0 HS9 B48 B68 B49 B69 B89 hXl hMl HOV
        obtain ⟨sD, hsD⟩ : ∃ sD, sD = bst D := ⟨_, rfl⟩
        rw [← hsD] at cvs cvd
        have HsD : Hid (sD = bst D) := hsD
        clear hsD
        have hZsz : ∀ s ∈ List.replicate ws.length (zst m), s.size = m := fun s hs => by rw [List.eq_of_mem_replicate hs]; exact zst_size m
        obtain ⟨Z, hZ⟩ : ∃ Z, Z = List.replicate ws.length (zst m) := ⟨_, rfl⟩
        have HZ : Hid ((∀ s ∈ Z, s.size = m) ∧ Z.length = ws.length ∧ ∀ k, k < ws.length → tl (txt Z k) = List.replicate m 0) := by
          rw [hZ]
          refine ⟨hZsz, by simp, fun k hk => ?_⟩
          rw [txt_eq (by simpa using hk)]
          simp [zst_tl]
        rw [← hZ] at HME
        clear hZ hZsz
        go_wp2_with fail
        refine Calls.mono CSM.out ?_
        rintro e w11 ⟨rfl, b11⟩
        clear CSM cvs cvd
        have HB11 : Hid (Below w10.heap.size w10 w11) := b11
        have CA : Hid _ := copied_any D hdl _ w11 (HALL.out w11 b11).2.1
        clear b11
        go_wp2_with fail
        refine Calls.mono CA.out ?_
        rintro e w12 ⟨rfl, rA, b12, z12⟩
        clear CA
        have h12 : Below w10.heap.size w10 w12 := HB11.out.trans (b12.mono HB11.out.size)
        have CB : Hid (Calls Try.prog 16 #[.slice om D.length cm] w12 fun e w' => e = .returned (.slice (some ⟨w12.heap.size, 0, none⟩) D.length D.length) ∧ w'.heap[w12.heap.size]? = some (.cells (ik .u8 M) 5 (0, 0)) ∧ Below w12.heap.size w12 w' ∧ w'.heap.size = w12.heap.size + 1) := by
          have := copied_any M (by rw [HLN.out.2]; exact hdl) _ w12 (HALL.out w12 h12).2.2.2.1
          rw [HLN.out.2] at this
          exact this
        have HA12 : Hid (w12.heap[w11.heap.size]? = some (.cells (ik .u8 D) 5 (0, 0)) ∧ Below w10.heap.size w10 w12 ∧ Below w11.heap.size w11 w12 ∧ w12.heap.size = w11.heap.size + 1) := ⟨rA, h12, b12, z12⟩
        clear rA b12 z12 h12
        go_wp2_with fail
        refine Calls.mono CB.out ?_
        rintro e w13 ⟨rfl, rB, b13, z13⟩
        clear CB
        obtain ⟨k1, k2, k3, k4⟩ := HA12.out
        have h13 : Below w10.heap.size w10 w13 := k2.trans (b13.mono k2.size)
        have CC : Hid _ := copied_any D hdl _ w13 (HALL.out w13 h13).2.1
        have HB13 : Hid (w13.heap[w11.heap.size]? = some (.cells (ik .u8 D) 5 (0, 0)) ∧ w13.heap[w12.heap.size]? = some (.cells (ik .u8 M) 5 (0, 0)) ∧ Below w11.heap.size w11 w13 ∧ w12.heap.size = w11.heap.size + 1 ∧ w13.heap.size = w12.heap.size + 1) := ⟨(b13.block _ (by omega)).trans k1, rB, k3.trans (b13.mono (by omega)), k4, z13⟩
        clear k1 k2 k3 k4 HA12 rB b13 z13 h13
        go_wp2_with fail
        refine Calls.mono CC.out ?_
        rintro e w14 ⟨rfl, rC, b14, z14⟩
        clear CC
        obtain ⟨k1, k2, k3, k4, k5⟩ := HB13.out
        obtain ⟨ga, hga⟩ : ∃ ga, ga = w11.heap.size := ⟨_, rfl⟩
        obtain ⟨gb, hgb⟩ : ∃ gb, gb = w12.heap.size := ⟨_, rfl⟩
        obtain ⟨gc, hgc⟩ : ∃ gc, gc = w13.heap.size := ⟨_, rfl⟩
        have HG : Hid (ga = w11.heap.size ∧ gb = ga + 1 ∧ gc = gb + 1) := ⟨hga, by omega, by omega⟩
        have HI0 : Hid (w14.heap[ga]? = some (.cells (ik .u8 (puts R 0 D (H.take 0))) 5 (0, 0)) ∧ w14.heap[gb]? = some (.cells (ik .u8 (puts ws 0 M (H.take 0))) 5 (0, 0)) ∧ w14.heap[gc]? = some (.cells (ik .u8 (puts Z 0 D (H.take 0))) 5 (0, 0)) ∧ Below w11.heap.size w11 w14) := by
          refine ⟨?_, ?_, ?_, k3.trans (b14.mono (by omega))⟩
          · rw [hga]; exact (b14.block _ (by omega)).trans k1
          · rw [hgb]; exact (b14.block _ (by omega)).trans k2
          · rw [hgc]; exact rC
        rw [← hga, ← hgb, ← hgc]
        clear k1 k2 k3 k4 k5 HB13 rC b14 z14 hga hgb hgc
        go_wp2_with fail
        go_loopw [33] (fun kv wr => ∃ k : Nat, kv = .int .i64 (k : Int) ∧ k ≤ H.length ∧ Hid (wr.heap[ga]? = some (.cells (ik .u8 (puts R 0 D (H.take k))) 5 (0, 0)) ∧ wr.heap[gb]? = some (.cells (ik .u8 (puts ws 0 M (H.take k))) 5 (0, 0)) ∧ wr.heap[gc]? = some (.cells (ik .u8 (puts Z 0 D (H.take k))) 5 (0, 0)) ∧ Below w11.heap.size w11 wr)) (fun kv _ => H.length - (intOf kv).toNat)
        case atStart => exact ⟨0, rfl, by omega, HI0⟩
        case round =>
          clear HI0
          obtain ⟨k, rfl, hk, HI⟩ := hrel
          by_cases hlk : k < H.length
          · have hk0 : (0 : Int) ≤ (k : Int) := by omega
            have hk1 : (k : Int) < (H.length : Int) := by omega
            have hxe : H.getD k (0, 0) = H[k] := by simp [List.getD, hlk]
            have hst : Sth (ws.map tl) m D (H.getD k (0, 0)) := by
              have hmem : H.getD k (0, 0) ∈ hts (ws.map tl) m D := by rw [← HHH.out, hxe]; exact List.getElem_mem hlk
              exact hts_sth _ _ _ _ hmem
            obtain ⟨ii, kk, hxx, hi2, hkk, hwd⟩ := hts_word ws m D _ hst
            obtain ⟨i1, i2, i3, i4⟩ := HI.out
            have h10r : Below w10.heap.size w10 wr := HB11.out.trans (i4.mono HB11.out.size)
            obtain ⟨a1, a2, a3, a4, a5, a6, a7, a8⟩ := HALL.out wr h10r
            have hsz0 : (txt ws 0).size = m := HPT.out.sz _ (by rw [txt_eq hwl0]; exact List.getElem_mem hwl0)
            have CST : Hid (Calls Try.prog 17 #[.slice (some ⟨gd, 0, none⟩) D.length D.length, .agg #[.int .i64 (ii : Int), .int .i64 (kk : Int)], .slice (some ⟨bu, offu, none⟩) ws.length cu] wr fun e w' => e = .returned (.bool true) ∧ Below wr.heap.size wr w') := stands_any D (by omega) ws (by omega) m ii kk (by omega) hi2 hkk hsz0 hwd _ _ wr a2 a7
            obtain ⟨bh, offh, hoh, cr⟩ : ∃ b off, ohv = some ⟨b, off, none⟩ ∧ b < w10.heap.size ∧ ∀ W, Hl (.slice ohv H.length chv) H W → W.cell? ⟨b, off + k * 2, none⟩ = some (.int .i64 (ii : Int)) ∧ W.cell? ⟨b, off + k * 2 + 1, none⟩ = some (.int .i64 (kk : Int)) := by
              rcases (HALL.out w10 (Below.refl _ _)).2.2.2.2.1 with ⟨_, h⟩ | ⟨b', off', c', h, _, _, h4, _⟩
              · rw [h] at hlk; simp at hlk
              · cases h
                refine ⟨b', off', rfl, h4, fun W hW => ?_⟩
                rcases hW with ⟨h, _⟩ | ⟨b2, off2, c2, h, _, _, _, h6⟩
                · cases h
                · cases h
                  have := h6 k hlk
                  rw [hxx] at this
                  exact this
            obtain ⟨bhz, cr⟩ := cr
            subst hoh
            have crr := cr wr a5
            obtain ⟨d1, d2⟩ := crr
            have hwk : ∀ W, St (.slice (some ⟨gT, 0, none⟩) ws.length ws.length) R W → W.cell? ⟨gT, kk, none⟩ = some (.string (txt R kk)) := fun W hW => by
              rcases hW with ⟨h, _⟩ | ⟨b2, off2, c2, h, _, _, _, h6⟩
              · cases h
              · rw [HRR.out.1] at h
                cases h
                have := h6 kk _ (txt_get (by rw [HRR.out.1]; exact hkk))
                rwa [Nat.zero_add] at this
            have hwu : ∀ W, St (.slice (some ⟨bu, offu, none⟩) ws.length cu) ws W → W.cell? ⟨bu, offu + kk, none⟩ = some (.string (txt ws kk)) := fun W hW => by
              rcases hW with ⟨h, _⟩ | ⟨b2, off2, c2, h, _, _, _, h6⟩
              · cases h
              · cases h
                exact h6 kk _ (txt_get hkk)
            obtain ⟨hg1, hg2, hg3⟩ := HG.out
            have HSTEP : Hid (∀ W, Below wr.heap.size wr W → ∃ W1 W2 W3 W4,
                W.drew.cell? ⟨bh, offh + k * 2, none⟩ = some (.int .i64 (ii : Int)) ∧ W.drew.cell? ⟨bh, offh + k * 2 + 1, none⟩ = some (.int .i64 (kk : Int)) ∧ W.drew.cell? ⟨gT, kk, none⟩ = some (.string (txt R kk)) ∧
                (cpS 3 #[.slice (some ⟨ga, ii, none⟩) (D.length - ii) (D.length - ii), .string (txt R kk)]).run Try.prog W.drew = .ok (goInt m) W1 ∧
                W1.drew.cell? ⟨bh, offh + k * 2, none⟩ = some (.int .i64 (ii : Int)) ∧ W1.drew.cell? ⟨bh, offh + k * 2 + 1, none⟩ = some (.int .i64 (kk : Int)) ∧ W1.drew.cell? ⟨bu, offu + kk, none⟩ = some (.string (txt ws kk)) ∧
                (cpS 3 #[.slice (some ⟨gb, ii, none⟩) (D.length - ii) (D.length - ii), .string (txt ws kk)]).run Try.prog W1.drew = .ok (goInt m) W2 ∧
                W2.drew.cell? ⟨bh, offh + k * 2, none⟩ = some (.int .i64 (ii : Int)) ∧ W2.drew.cell? ⟨bu, offu, none⟩ = some (.string t0) ∧
                (mkB (.int .i64 (m : Int)) (.int .i64 (m : Int))).run Try.prog W2.drew = .ok (.slice (some ⟨W2.heap.size, 0, none⟩) m m) W3 ∧
                W3.cell? ⟨bh, offh + k * 2, none⟩ = some (.int .i64 (ii : Int)) ∧ W3.cell? ⟨bu, offu, none⟩ = some (.string t0) ∧
                (cpB 3 #[.slice (some ⟨gc, ii, none⟩) (D.length - ii) (D.length - ii), .slice (some ⟨W2.heap.size, 0, none⟩) m m]).run Try.prog W3 = .ok (goInt m) W4 ∧
                W4.heap[ga]? = some (.cells (ik .u8 (puts R 0 D (H.take (k + 1)))) 5 (0, 0)) ∧ W4.heap[gb]? = some (.cells (ik .u8 (puts ws 0 M (H.take (k + 1)))) 5 (0, 0)) ∧ W4.heap[gc]? = some (.cells (ik .u8 (puts Z 0 D (H.take (k + 1)))) 5 (0, 0)) ∧ Below w11.heap.size w11 W4) := fun W hb => by
              have hszR : (txt R kk).size = m := HRR.out.2.1 _ (by rw [txt_eq (by rw [HRR.out.1]; exact hkk)]; exact List.getElem_mem _)
              have hszW : (txt ws kk).size = m := HPT.out.sz _ (by rw [txt_eq hkk]; exact List.getElem_mem _)
              have gaz : ga < wr.heap.size := (Array.getElem?_eq_some_iff.1 i1).1
              have gbz : gb < wr.heap.size := (Array.getElem?_eq_some_iff.1 i2).1
              have gcz : gc < wr.heap.size := (Array.getElem?_eq_some_iff.1 i3).1
              have H10 : ∀ U, Below w11.heap.size w11 U → Below w10.heap.size w10 U := fun U h => HB11.out.trans (h.mono HB11.out.size)
              have FA : ∀ U, Below w11.heap.size w11 U → U.cell? ⟨bh, offh + k * 2, none⟩ = some (.int .i64 (ii : Int)) ∧ U.cell? ⟨bh, offh + k * 2 + 1, none⟩ = some (.int .i64 (kk : Int)) ∧ U.cell? ⟨gT, kk, none⟩ = some (.string (txt R kk)) ∧ U.cell? ⟨bu, offu + kk, none⟩ = some (.string (txt ws kk)) ∧ U.cell? ⟨bu, offu, none⟩ = some (.string t0) := fun U h => by
                obtain ⟨-, -, -, -, u5, u6, u7, u8⟩ := HALL.out U (H10 U h)
                exact ⟨(cr U u5).1, (cr U u5).2, hwk U u6, hwu U u7, u8⟩
              have bW : Below w11.heap.size w11 W := i4.trans (hb.mono i4.size)
              have bD : Below w11.heap.size w11 W.drew := Below.drewN' bW 1
              have lR := puts_take_len (T := R) (m := m) HRR.out.2.1 H D k (by rw [HRR.out.1]; exact HRG.out.2)
              have lW := puts_take_len (T := ws) (m := m) HPT.out.sz H M k (by rw [HLN.out.2]; exact HRG.out.2)
              have lZ := puts_take_len (T := Z) (m := m) HZ.out.1 H D k (by rw [HZ.out.2.1]; exact HRG.out.2)
              rw [HLN.out.2] at lW
              have rA := (hb.block ga gaz).trans i1
              have rB := (hb.block gb gbz).trans i2
              have rC := (hb.block gc gcz).trans i3
              have c1 := cp_hit W.drew ga D.length ii kk m R D H k hlk hxx lR hi2 hszR rA
              obtain ⟨W1, hW1⟩ : ∃ W1, W.drew.setRow ga (ik .u8 (puts R 0 D (H.take (k + 1)))) = W1 := ⟨_, rfl⟩
              rw [hW1] at c1
              have rA1 : W1.heap[ga]? = some (.cells (ik .u8 (puts R 0 D (H.take (k + 1)))) 5 (0, 0)) := by rw [← hW1]; exact setRow_heap _ _ _ _ _ _ rA
              have rB1 : W1.heap[gb]? = some (.cells (ik .u8 (puts ws 0 M (H.take k))) 5 (0, 0)) := by rw [← hW1]; exact (setRow_other _ _ _ _ (by omega)).trans rB
              have rC1 : W1.heap[gc]? = some (.cells (ik .u8 (puts Z 0 D (H.take k))) 5 (0, 0)) := by rw [← hW1]; exact (setRow_other _ _ _ _ (by omega)).trans rC
              have b1 : Below w11.heap.size w11 W1 := by rw [← hW1]; exact below_setRow bD (by omega) _
              have b1D : Below w11.heap.size w11 W1.drew := Below.drewN' b1 1
              have c2 := cp_hit W1.drew gb D.length ii kk m ws M H k hlk hxx lW hi2 hszW rB1
              obtain ⟨W2, hW2⟩ : ∃ W2, W1.drew.setRow gb (ik .u8 (puts ws 0 M (H.take (k + 1)))) = W2 := ⟨_, rfl⟩
              rw [hW2] at c2
              have rA2 : W2.heap[ga]? = some (.cells (ik .u8 (puts R 0 D (H.take (k + 1)))) 5 (0, 0)) := by rw [← hW2]; exact (setRow_other _ _ _ _ (by omega)).trans rA1
              have rB2 : W2.heap[gb]? = some (.cells (ik .u8 (puts ws 0 M (H.take (k + 1)))) 5 (0, 0)) := by rw [← hW2]; exact setRow_heap _ _ _ _ _ _ rB1
              have rC2 : W2.heap[gc]? = some (.cells (ik .u8 (puts Z 0 D (H.take k))) 5 (0, 0)) := by rw [← hW2]; exact (setRow_other _ _ _ _ (by omega)).trans rC1
              have b2 : Below w11.heap.size w11 W2 := by rw [← hW2]; exact below_setRow b1D (by omega) _
              have b2D : Below w11.heap.size w11 W2.drew := Below.drewN' b2 1
              obtain ⟨W3, c3, R3, b3, z3⟩ := run_mkB W2.drew m (by omega)
              have gc2 : gc < W2.drew.heap.size := (Array.getElem?_eq_some_iff.1 rC2).1
              have rA3 : W3.heap[ga]? = some (.cells (ik .u8 (puts R 0 D (H.take (k + 1)))) 5 (0, 0)) := (b3.block ga (by omega)).trans rA2
              have rB3 : W3.heap[gb]? = some (.cells (ik .u8 (puts ws 0 M (H.take (k + 1)))) 5 (0, 0)) := (b3.block gb (by omega)).trans rB2
              have rC3 : W3.heap[gc]? = some (.cells (ik .u8 (puts Z 0 D (H.take k))) 5 (0, 0)) := (b3.block gc gc2).trans rC2
              have b3w : Below w11.heap.size w11 W3 := b2D.trans (b3.mono b2D.size)
              have c4 := run_cpZ W3 3 gc ii D.length W2.drew.heap.size m _ rC3 R3 lZ hi2
              have hZk : ovr (puts Z 0 D (H.take k)) (List.replicate m 0) ii = puts Z 0 D (H.take (k + 1)) := by
                rw [take_snocH hlk, puts_snoc, hxx, ← HZ.out.2.2 kk hkk]
                rfl
              rw [hZk] at c4
              refine ⟨W1, W2, W3, _, (FA _ bD).1, (FA _ bD).2.1, (FA _ bD).2.2.1, c1, (FA _ b1D).1, (FA _ b1D).2.1, (FA _ b1D).2.2.2.1, c2, (FA _ b2D).1, (FA _ b2D).2.2.2.2, c3, (FA _ b3w).1, (FA _ b3w).2.2.2.2, c4, ?_, ?_, ?_, below_setRow b3w (by omega) _⟩
              · exact (setRow_other _ _ _ _ (by omega)).trans rA3
              · exact (setRow_other _ _ _ _ (by omega)).trans rB3
              · exact setRow_heap _ _ _ _ _ _ rC3
            clear cr hwk hwu hg1 hg2 hg3
            go_wp2_with fail
            refine Calls.mono CST.out ?_
            rintro e W0 ⟨rfl, b0⟩
            obtain ⟨W1, W2, W3, W4, e1, e2, e3, e4, e5, e6, e7, e8, e9, e10, e11, e12, e13, e14, HF⟩ := HSTEP.out W0 b0
            have HFF : Hid _ := HF
            have rs1 := run_cutL ga D.length ii (by omega)
            have rs2 := run_cutL gb D.length ii (by omega)
            have rs3 := run_cutL gc D.length ii (by omega)
            have hkw : (kk : Int) < (ws.length : Int) := by omega
            have hkw0 : (0 : Int) ≤ (kk : Int) := by omega
            clear HF HSTEP CST b0 HI i1 i2 i3 i4 a1 a2 a3 a4 a5 a6 a7 a8 hst hxx hxe hwd hsz0 HXE HME HBID HSID HZ HG HRR HRG HHH HPT HND HDB HU4 HR4 HB4 HB11 B410 HLN HALL h10r
            generalize txt R kk = sR at *
            generalize txt ws kk = sW at *
            go_wp2_with fail
            go_big_region
            go_wp2_with fail
            go_big_region
            go_wp2_with fail
            clear e1 e2 e3 e4 e5 e6 e7 e8 rs1 rs2 d1 d2
            first
              | go_big_region
              | go_region_with (fail)
            all_goals
              go_wp2
              exact ⟨⟨k + 1, by rfl, by omega, HFF⟩, by simp only [intOf]; omega⟩
          · have hk1 : ¬ ((k : Int) < (H.length : Int)) := by omega
            have hke : k = H.length := by omega
            obtain ⟨i1, i2, i3, i4⟩ := HI.out
            rw [hke, List.take_length] at i1 i2 i3
            rw [← HXE.out] at i1
            rw [HBID.out] at i2
            rw [← HME.out] at i3
            have h10r : Below w10.heap.size w10 wr := HB11.out.trans (i4.mono HB11.out.size)
            obtain ⟨a1, a2, a3, a4, a5, a6, a7, a8⟩ := HALL.out wr h10r
            have s1 := conv_si (row_si hdl HLN.out.1 i1)
            have s2 := conv_si a3
            have s3 := conv_si (row_si hdl rfl i2)
            have s4 := conv_si a2
            have s5 := conv_si (row_si hdl HLN.out.2 i3)
            have s6 := conv_si a4
            have CNT : Hid (Calls Try.prog 18 #[.slice (some ⟨gd, 0, none⟩) D.length D.length, .slice (some ⟨bu, offu, none⟩) ws.length cu] wr fun e w' => e = .returned (.int .i64 (H.length : Int)) ∧ Below wr.heap.size wr w') := by
              have := count_any D (by omega) HDB.out ws hwl0 (by omega) m (by omega) (by omega) HPT.out.sz HND.out _ _ wr a2 a7
              rw [← HHH.out] at this
              exact this
            have HE : Hid (Below w.heap.size w wr) := HB4.out.trans (a1.mono HB4.out.size)
            clear HI i1 i2 i3 i4 hke a1 a2 a3 a4 a5 a6 a7 a8 HALL h10r HXE HME HBID HSID HZ HG HRR HRG HHH HPT HND HDB HU4 HR4 HB4 HB11 B410 HLN
            generalize bst X = sX at *
            generalize bst D = sd at *
            generalize bst M = sM at *
            go_wp2_with fail
            refine Calls.mono CNT.out ?_
            rintro e w15 ⟨rfl, b15⟩
            have HE2 : Hid (Below w.heap.size w w15) := HE.out.trans (b15.mono HE.out.size)
            clear b15 CNT HE
            go_wp2
            go_ret
            exact ⟨rfl, HE2.out⟩
end Go.Proofs.Ytceaklefdahfkab
