/- SieveCuts: the walk. -/
import Derived.Test.YtceaklefdahfkaaCt3
import Derived.Test.YtceaklefdahfkaaSt30
import Derived.Test.YtceaklefdahfkaaFn6
import Derived.Deep.DeepCutAuto
namespace Go.Proofs.Ytceaklefdahfkaa
open Go.RowKit
/-- The words, each the next one. -/
def rtk (ws : List ByteArray) (i : Nat) : List ByteArray := (List.range i).map fun j => txt ws ((j + 1) % ws.length)
theorem rtk_len (ws : List ByteArray) (i : Nat) : (rtk ws i).length = i := by simp [rtk]
theorem rtk_row (ws : List ByteArray) (i : Nat) (hi : i < ws.length) : (rtk ws i ++ List.replicate (ws.length - i) (⟨#[]⟩ : ByteArray)).set i (txt ws ((i + 1) % ws.length)) = rtk ws (i + 1) ++ List.replicate (ws.length - (i + 1)) (⟨#[]⟩ : ByteArray) := by
  have h1 := rtk_len ws i
  have h2 : List.replicate (ws.length - i) (⟨#[]⟩ : ByteArray) = ⟨#[]⟩ :: List.replicate (ws.length - (i + 1)) ⟨#[]⟩ := by rw [← List.replicate_succ]; congr 1; omega
  rw [List.set_append_right _ _ (by omega), h1, Nat.sub_self, h2, List.set_cons_zero]
  simp [rtk, List.range_succ]
theorem rtk_size {ws : List ByteArray} {m : Nat} (h : ∀ s ∈ ws, s.size = m) (h0 : 0 < ws.length) (i : Nat) : ∀ s ∈ rtk ws i, s.size = m := fun s hs => by
  obtain ⟨j, _, rfl⟩ := List.mem_map.1 hs
  have hj : (j + 1) % ws.length < ws.length := Nat.mod_lt _ h0
  exact h _ (by rw [txt_eq hj]; exact List.getElem_mem hj)
theorem allW_of {m : Nat} {T : List ByteArray} (h : ∀ s ∈ T, s.size = m) : allW m T = true := by
  unfold allW
  simp
  exact h
theorem ov_pre (L : List (List Nat)) (m : Nat) (hm : 0 < m) (a b : List Nat) (h : (ovP 0 m (hts L m a)).2 = true) : ovP 0 m (hts L m (a ++ b)) = ovP 0 m (hts L m a) := by
  rw [hts_app L m hm, ovP_app, if_pos h]
theorem ov_pre2 (L : List (List Nat)) (m : Nat) (hm : 0 < m) (a b : List Nat) (h : (ovP 0 m (hts L m (a ++ b))).2 = false) : (ovP 0 m (hts L m a)).2 = false := by
  cases h2 : (ovP 0 m (hts L m a)).2 with
  | false => rfl
  | true => rw [ov_pre L m hm a b h2, h2] at h; cases h
theorem St.blk {v : Value} {x : List ByteArray} {w : World} (h : St v x w) : ∀ j, v.ownBlock = some j → j < w.heap.size := fun j hj => by
  rcases h with ⟨rfl, rfl⟩ | ⟨b, off, c, rfl, h2, h3, h4, h5⟩
  · cases hj
  · cases hj; exact h4
def ErrP (f pl : Int) (L : List (List Nat)) (m : Nat) (D : List Nat) : Prop := ∀ a b, D = a ++ b → (ovP 0 m (hts L m a)).2 = true → f = 52 ∧ pl = (ovP 0 m (hts L m a)).1
def OkP (f : Int) (L : List (List Nat)) (m : Nat) (D : List Nat) (v : Value) (X : List Nat) (w : World) : Prop := (ovP 0 m (hts L m D)).2 = false → f = 0 ∧ Si .u8 v X w
theorem hts_nil (L : List (List Nat)) (m : Nat) (hm : 0 < m) : hts L m [] = [] := by
  have h := hts_len L m [] hm
  exact List.length_eq_zero_iff.1 (by simpa using h)
theorem ct_start {l : List ByteArray} {m : Nat} {ns : List Nat} {T : List ByteArray} {gs gr gt K0 : Nat} {tv : Value} {wa : World} (C : Ctx l m ns T gs gr gt K0 tv wa) (hm2 : 2 ≤ m) (hs : Scn gs gt 0 0 0 wa) (hr : Rwt gr gt 0 0 0 tv 0 (List.replicate 63 0) wa) :
    CtS l m ns T gs gr gt tv wa [] [] (.slice none 0 0) (hts (l.map tl) m []) (.slice none 0 0) ((rwd (l.map tl) m T []).take (([] : List Nat).length - hld2 (l.map tl) m [])) wa ∧ (ovP 0 m (hts (l.map tl) m [])).2 = false := by
  have h1 := hts_nil (l.map tl) m (by omega)
  have h2 : hld2 (l.map tl) m [] = 0 := by have := hld2_le (l.map tl) m []; simp at this; omega
  have h3 : rwd (l.map tl) m T [] = [] := by unfold rwd; rw [h1]; rfl
  have hw := C.hp.wd C.hn
  refine ⟨⟨⟨0, ?_, hw.at0⟩, ⟨0, List.replicate 63 0, by simp, ?_, hw.at0, ?_⟩, ?_, ?_, ⟨rfl, rfl, rfl, Nat.le_refl _, fun _ _ _ _ => rfl⟩⟩, ?_⟩
  · rw [h2]; exact hs
  · rw [h2, h1]; exact hr
  · rw [h2, h3]; rfl
  · rw [h1]; exact World.ownsRow_nil _ _ _ _
  · rw [h3, List.take_nil]; exact World.ownsRow_nil _ _ _ _
  · rw [h1]; rfl
theorem CtS.drew {l : List ByteArray} {m : Nat} {ns : List Nat} {T : List ByteArray} {gs gr gt : Nat} {tv : Value} {wa w : World} {yc yr : List Nat} {hv ov : Value} {H : List (Int × Int)} {O : List Nat} (h : CtS l m ns T gs gr gt tv wa yc yr hv H ov O w) : CtS l m ns T gs gr gt tv wa yc yr hv H ov O w.drew :=
  ⟨h.sc, h.rw, h.hh, h.oo, h.two.below (Below.drewN' (Below.refl _ _) 1)⟩
theorem Two.toBelow {gs gr B : Nat} {wa w : World} (h : Two gs gr wa w) (h1 : B ≤ gs) (h2 : B ≤ gr) (h3 : B ≤ wa.heap.size) : Below B wa w := ⟨h.os, h.tape, h.output, h.size, fun j hj => h.block j (by omega) (by omega) (by omega)⟩
theorem run_ld9 (w : World) (b o : Nat) (s : ByteArray) (h : w.cell? ⟨b, o, none⟩ = some (.string s)) : (Instr.loadAt 9 (.pointer (some ⟨b, o, none⟩))).run Try.prog w = .ok (.string s) w := by
  simp [go_sem, h]
attribute [local go_sem ↓] toApS toApT toMkS toApp toApP Go.wp_at_zero Go.wp_at_succ
set_option maxRecDepth 100000 in
set_option maxHeartbeats 3200000 in
theorem cuts8_any (l0 : List ByteArray) (hl0 : l0.length ≤ 1048576) (z : Int) (d : List Nat) (hdl : d.length ≤ 16777216) (hdb : Byt d) (at' : List Nat) (hal : at'.length ≤ 1073741824) (ha : ∀ j, at'.getD j 0 < 65536) (ls : List Nat) (hll : ls.length ≤ 16777216) (hlb : Byt ls) (v0 v2 v3 v4 : Value) (w : World) (h0 : St v0 l0 w) (h2 : Si .u8 v2 d w) (h3 : Si .u16 v3 at' w) (h4 : Si .u8 v4 ls w) :
    Calls Try.prog 8 #[v0, .int .i64 z, v2, v3, v4] w fun e w' => e = .returned (.bool true) ∧ Below w.heap.size w w' := by
  obtain ⟨o, c, rfl, hc1, hc2, -⟩ := h0.form
  obtain ⟨v', w1, r1, hs1, hb1⟩ := run_apA w 26 o c l0 ⟨#[97, 98]⟩ h0 (by omega)
  have hl1 : (l0 ++ [(⟨#[97, 98]⟩ : ByteArray)]).length = l0.length + 1 := by simp
  have CW : Hid _ := words_any (l0 ++ [⟨#[97, 98]⟩]) (by rw [hl1]; omega) z v' w1 hs1
  generalize hL : l0 ++ [(⟨#[97, 98]⟩ : ByteArray)] = l1 at *
  have HB1 : Hid (Below w.heap.size w w1) := hb1
  have H2 : Hid (Si .u8 v2 d w1) := h2.below hb1
  have H3 : Hid (Si .u16 v3 at' w1) := h3.below hb1
  have H4 : Hid (Si .u8 v4 ls w) := h4
  have HLB : Hid (Byt ls) := hlb
  obtain ⟨n, hn⟩ : ∃ n, n = min 24 l1.length := ⟨_, rfl⟩
  rw [← hn] at CW
  have hn0 : 0 < n := by omega
  have hn24 : n ≤ 24 := by omega
  clear hL hn h0 h2 h3 h4 hs1 hb1 hlb
  go_enter Try.func8, Try.ntmps8
  go_wp2_with fail
  refine Calls.mono CW.out ?_
  rintro e w2 ⟨m, uv, rfl, hm2, hm17, ho2, hb2⟩
  clear CW
  obtain ⟨ws, hPt, hok, hnd, hwl, hst2⟩ : ∃ ws : List ByteArray, Pt ws m ∧ (∀ (e : Ending) (w' : World), NewP ws e w' → ∃ ns, NewOk ws ns ∧ ∃ g gt, e = .returned (.tuple #[.pointer (some ⟨g, 0, none⟩), .int .i64 0]) ∧ Sve g gt w' ∧ TabK w'.heap.size gt (ftT ((wdS ws ns).map tl) ns m) w') ∧ (ws.map tl).Nodup ∧ ws.length = n ∧ St uv ws w2 :=
    ⟨wds l1 m n, wds_pt l1 m n hn0 hn24 hm2 hm17, wds_ok l1 m n hn0 hn24 hm2 hm17, wds_nodup l1 m n hn24 hm2, wds_len l1 m n, own_st ho2 (wds_len l1 m n).symm⟩
  have HB2 : Hid (Below w.heap.size w w2) := HB1.out.trans (hb2.mono HB1.out.size)
  have B2D : Below w2.heap.size w2 w2.drew := Below.drewN' (Below.refl _ _) 1
  obtain ⟨D, hDl, hDb, CP⟩ : ∃ D : List Nat, D.length = d.length ∧ Byt D ∧ Hid (Calls Try.prog 13 #[v2, uv, v3] w2.drew fun e w' => ∃ g, e = .returned (.slice (some ⟨g, 0, none⟩) D.length D.length) ∧ w2.heap.size ≤ g ∧ w'.heap[g]? = some (.cells (ik .u8 D) 5 (0, 0)) ∧ Below w2.heap.size w2 w') :=
    ⟨pltD d ws at', pltD_len d ws at', pltD_byt d hdb ws at', by
      rw [pltD_len]
      exact (planted_any d (by omega) ws (by omega) (by omega) at' hal ha v2 uv v3 w2.drew ((H2.out.below hb2).below B2D) (hst2.below B2D) ((H3.out.below hb2).below B2D)).mono fun e w' ⟨g, q1, q2, q3, q4⟩ => ⟨g, q1, q2, q3, B2D.trans q4⟩⟩
  rw [← hDl] at hdl
  have HU2 : Hid (St uv ws w2) := hst2
  obtain ⟨ou, cu, rfl, -, -, huf⟩ := hst2.form
  have hwl0 : 0 < ws.length := by omega
  have hwl24 : ws.length ≤ 24 := by omega
  obtain ⟨bu, offu, hou, hbu, hcu⟩ := huf hwl0
  subst hou
  have HPT : Hid _ := hPt
  have HOK : Hid _ := hok
  have hsz0 : (txt ws 0).size = m := hPt.sz _ (by rw [txt_eq hwl0]; exact List.getElem_mem hwl0)
  have C0 : Hid (∀ W, Below w2.heap.size w2 W → W.cell? ⟨bu, offu, none⟩ = some (.string (txt ws 0))) := fun W hb => (World.cell?_of_block (w := w2) (hb.block bu hbu)).trans (by have := hcu 0 _ (txt_get hwl0); rwa [Nat.add_zero] at this)
  have HCU : Hid (∀ (W : World), Below w2.heap.size w2 W → ∀ j, j < ws.length → W.cell? ⟨bu, offu + j, none⟩ = some (.string (txt ws j))) := fun W hb j hj => (World.cell?_of_block (w := w2) (hb.block bu hbu)).trans (hcu j _ (txt_get hj))
  have c0 : w2.drew.cell? ⟨bu, offu, none⟩ = some (.string (txt ws 0)) := C0.out _ B2D
  obtain ⟨Dx, hDx⟩ : ∃ Dx, Dx = D ++ tl (txt ws 0) := ⟨_, rfl⟩
  have hDxl : Dx.length ≤ 16777300 := by rw [hDx, List.length_append, tl_len]; omega
  have HDB : Hid (Byt Dx) := by
    rw [hDx]
    intro x hx
    rcases List.mem_append.1 hx with h | h
    · exact hDb x h
    · exact tl_byt _ x h
  have ADD : Hid (∀ g w', w2.heap.size ≤ g → w'.heap[g]? = some (.cells (ik .u8 D) 5 (0, 0)) → Below w2.heap.size w2 w' → w'.cell? ⟨bu, offu, none⟩ = some (.string (txt ws 0)) ∧ ∃ o c WX, (apT 27 #[.slice (some ⟨g, 0, none⟩) D.length D.length, .string (txt ws 0)]).run Try.prog w' = .ok (.slice o Dx.length c) WX ∧ Hid (Si .u8 (.slice o Dx.length c) Dx WX) ∧ Hid (Below w2.heap.size w2 WX)) := fun g w' hg hr hb => by
    obtain ⟨pv, WX, r, hs, hbx⟩ := run_apT w' 27 g w2.heap.size D (txt ws 0) hr hg (by omega)
    rw [← hDx] at hs
    obtain ⟨o, c, rfl, -⟩ := hs.form
    exact ⟨C0.out w' hb, o, c, WX, r, hs, hb.trans hbx⟩
  have hwi : (0 : Int) < (ws.length : Int) := by omega
  clear H2 H3 HB1 ho2 hb2 hst2 hDl ha hdb hPt hok hnd hDb hwl hn0 hn24 hl1 hc1 hc2 r1 hcu huf hDx C0 B2D
  go_upto_region 2 with fail
  go_cut [12] (fun s wc => ∃ o c, s = .slice o Dx.length c ∧ Hid (Si .u8 (.slice o Dx.length c) Dx wc) ∧ Hid (Below w2.heap.size w2 wc))
  case first =>
    go_region_with (go_at_call 13; refine Calls.mono CP.out ?_; rintro e w3 ⟨gd, rfl, hgd, hR3, hb3⟩; obtain ⟨k0, ox, cx, WX, k1, HK2, HK3⟩ := ADD.out gd w3 hgd hR3 hb3; clear hgd hR3 hb3)
    all_goals
      go_wp2_with fail
      go_meet
      exact ⟨_, _, rfl, HK2, HK3⟩
  case rest =>
    obtain ⟨od, cd, rfl, HSD, HB3⟩ := hcut
    clear CP ADD c0
    have HW3 : Hid (Below w.heap.size w wc) := HB2.out.trans (HB3.out.mono HB2.out.size)
    obtain ⟨W5, r5, R5, b5⟩ := run_mkS wc ws.length (by omega)
    have HT : Hid (W5.heap[wc.heap.size]? = some (.cells (sk (rtk ws 0 ++ List.replicate (ws.length - 0) (⟨#[]⟩ : ByteArray))) 9 (0, 0)) ∧ Below wc.heap.size wc W5) := ⟨by rw [R5]; simp [sk, rtk], b5⟩
    obtain ⟨gT, hgT⟩ : ∃ gT, gT = wc.heap.size := ⟨_, rfl⟩
    have HGT : Hid (gT = wc.heap.size) := hgT
    rw [← hgT] at HT r5
    clear R5 b5 hgT
    go_wp2_with fail
    go_loopw [14] (fun iv wr => ∃ i : Nat, iv = .int .i64 (i : Int) ∧ i ≤ ws.length ∧ Hid (wr.heap[gT]? = some (.cells (sk (rtk ws i ++ List.replicate (ws.length - i) (⟨#[]⟩ : ByteArray))) 9 (0, 0)) ∧ Below gT wc wr)) (fun iv _ => ws.length - (intOf iv).toNat)
    case atStart => exact ⟨0, rfl, by omega, HT.out.1, HT.out.2⟩
    case round =>
      clear HT r5
      obtain ⟨i, rfl, hi, HT⟩ := hrel
      by_cases hlt : i < ws.length
      · have hi0 : (0 : Int) ≤ (i : Int) := by omega
        have hi1 : (i : Int) < (ws.length : Int) := by omega
        obtain ⟨q, hq⟩ : ∃ q, q = (i + 1) % ws.length := ⟨_, rfl⟩
        have hql : q < ws.length := by rw [hq]; exact Nat.mod_lt _ hwl0
        have hq0 : (0 : Int) ≤ (q : Int) := by omega
        have hq1 : (q : Int) < (ws.length : Int) := by omega
        have hrem : ((i : Int) + 1).tmod (ws.length : Int) = (q : Int) := by
          have e1 : ((i : Int) + 1) = ((i + 1 : Nat) : Int) := by omega
          rw [e1, hq]
          rfl
        have hnz : ¬ ((ws.length : Int) = 0) := by omega
        have hbb : Below w2.heap.size w2 wr := HB3.out.trans ((HGT.out ▸ HT.out.2 : Below wc.heap.size wc wr).mono HB3.out.size)
        have cs : wr.cell? ⟨bu, offu + q, none⟩ = some (.string (txt ws q)) := HCU.out wr hbb q hql
        have hlen : i < (rtk ws i ++ List.replicate (ws.length - i) (⟨#[]⟩ : ByteArray)).length := by rw [List.length_append, rtk_len, List.length_replicate]; omega
        have q1 : wr.cell? ⟨gT, i, none⟩ = some (.string ⟨#[]⟩) := by
          rw [cell_of_row wr _ _ _ _ _ HT.out.1, sk_get _ _ hlen]
          have h1 := rtk_len ws i
          have h5 : txt (rtk ws i ++ List.replicate (ws.length - i) (⟨#[]⟩ : ByteArray)) i = ⟨#[]⟩ := by
            rw [txt_eq hlen, List.getElem_append_right (by omega)]
            simp
          rw [h5]
        have q2 : wr.frozen? ⟨gT, i, none⟩ = false := frozen_of_row wr _ _ _ _ HT.out.1
        have HQ : Hid ((wr.setCell ⟨gT, i, none⟩ (.string (txt ws q))).heap[gT]? = some (.cells (sk (rtk ws (i + 1) ++ List.replicate (ws.length - (i + 1)) (⟨#[]⟩ : ByteArray))) 9 (0, 0)) ∧ Below gT wc (wr.setCell ⟨gT, i, none⟩ (.string (txt ws q)))) := by
          refine ⟨?_, HT.out.2.setCell (Nat.le_refl _) _⟩
          rw [← rtk_row ws i hlt, ← hq, ← sk_set]
          exact heap_setCell_same _ _ _ _ _ _ HT.out.1
        clear hbb HT hq
        generalize txt ws q = sv at *
        go_wp2
        exact ⟨⟨i + 1, by rfl, by omega, HQ⟩, by simp only [intOf]; omega⟩
      · have hi1 : ¬ ((i : Int) < (ws.length : Int)) := by omega
        have hie : i = ws.length := by omega
        obtain ⟨T, hT⟩ : ∃ T, T = rtk ws ws.length := ⟨_, rfl⟩
        have HTO : Hid (St (.slice (some ⟨gT, 0, none⟩) ws.length ws.length) T wr ∧ Below wc.heap.size wc wr) := by
          obtain ⟨h1, h2⟩ := HT.out
          rw [hie, Nat.sub_self, List.replicate_zero, List.append_nil, ← hT] at h1
          have hTl : T.length = ws.length := by rw [hT, rtk_len]
          refine ⟨.inr ⟨gT, 0, ws.length, by rw [hTl], by rw [hTl]; exact Nat.le_refl _, by unfold maxLen; omega, (Array.getElem?_eq_some_iff.1 h1).1, fun j s hj => ?_⟩, HGT.out ▸ h2⟩
          have hjl : j < T.length := (List.getElem?_eq_some_iff.1 hj).1
          rw [Nat.zero_add, cell_of_row wr _ _ _ _ _ h1, sk_get _ _ hjl, txt_eq hjl]
          rw [List.getElem?_eq_getElem hjl] at hj
          rw [Option.some.inj hj]
        have HTS : Hid ((∀ s ∈ T, s.size = m) ∧ T.length = ws.length) := by rw [hT]; exact ⟨rtk_size HPT.out.sz hwl0 _, rtk_len _ _⟩
        clear HT hie hT
        have HBr : Hid (Below w2.heap.size w2 wr) := HB3.out.trans (HTO.out.2.mono HB3.out.size)
        have CN : Hid _ := new_any ws (by omega) (fun s hs => by rw [HPT.out.sz s hs]; omega) (fun v w h => byText_any ws h v w) _ wr (HU2.out.below HBr.out)
        obtain ⟨wo, hwo⟩ : ∃ wo, wo = wr := ⟨_, rfl⟩
        subst hwo
        go_wp2_with fail
        refine Calls.mono CN.out ?_
        rintro e w4 ⟨hP4, hb4⟩
        obtain ⟨ns, hok4, g, gt, rfl, hS4, hT4⟩ := HOK.out e w4 hP4
        clear CN hP4
        have HB4 : Hid (Below w2.heap.size w2 w4) := HBr.out.trans (hb4.mono HBr.out.size)
        have HC4 : Hid (Below wc.heap.size wc w4) := HTO.out.2.trans (hb4.mono HTO.out.2.size)
        have HTO4 : Hid (St (.slice (some ⟨gT, 0, none⟩) ws.length ws.length) T w4) := HTO.out.1.below hb4
        have HSD4 : Hid (Si .u8 (.slice od Dx.length cd) Dx w4) := HSD.out.below HC4.out
        obtain ⟨H, hH⟩ : ∃ H, H = hts (ws.map tl) m Dx := ⟨_, rfl⟩
        have RW1 : Hid (Calls Try.prog 20 #[.pointer (some ⟨g, 0, none⟩), .slice od Dx.length cd, .slice (some ⟨gT, 0, none⟩) ws.length ws.length] w4 fun e w' => Below w4.heap.size w4 w' ∧ RwP m ws.length T Dx H w4.heap.size e w') := by
          rw [hH]
          exact rewrite_hts ws m HPT.out ns hok4 g gt T (by rw [HTS.out.2]; omega) _ _ Dx HDB.out (by omega) w4 hS4 hT4 HTO4.out HSD4.out
        have RWR : Hid (∀ W, Below w4.heap.size w4 W → Calls Try.prog 22 #[.pointer (some ⟨g, 0, none⟩), .slice (some ⟨gT, 0, none⟩) ws.length ws.length] W fun e w' => Below W.heap.size W w' ∧ RwnP (ftT ((wdS ws ns).map tl) ns m) gt T W.heap.size e w') := fun W hb =>
          rewriter_any g gt _ T (by rw [HTS.out.2]; omega) _ W ((hb.block g (Array.getElem?_eq_some_iff.1 hS4).1).trans hS4) ((hT4.mono hb.size).keep hb.size fun j _ hj => hb.block j hj).tab (HTO4.out.below hb)
        have SCN : Hid (∀ W, Below w4.heap.size w4 W → Calls Try.prog 23 #[.pointer (some ⟨g, 0, none⟩)] W fun e w' => e = .returned (.pointer (some ⟨W.heap.size, 0, none⟩)) ∧ Scn W.heap.size gt 0 0 0 w' ∧ Below W.heap.size W w' ∧ w'.heap.size = W.heap.size + 1) := fun W hb =>
          scanner_any g gt W ((hb.block g (Array.getElem?_eq_some_iff.1 hS4).1).trans hS4)
        have HNS : Hid (NewOk ws ns ∧ Sve g gt w4 ∧ TabK w4.heap.size gt (ftT ((wdS ws ns).map tl) ns m) w4) := ⟨hok4, hS4, hT4⟩
        have HHH : Hid (H = hts (ws.map tl) m Dx) := hH
        clear hb4 HOK hok4 hS4 hT4 hH HTO HBr HB3 HSD
        go_wp2_with fail
        refine Calls.mono RW1.out ?_
        rintro e w6 ⟨b6, hP6⟩
        clear RW1
        obtain ⟨f, pl, ow, lw, cw, rfl, HP6⟩ : ∃ (f pl : Int) (ow : Option Addr) (lw cw : Nat), e = .returned (.tuple #[.slice ow lw cw, .int .i64 f, .int .i64 pl]) ∧ Hid ((f = 52 ∧ (ovP 0 m H).2 = true ∧ pl = (ovP 0 m H).1) ∨ (f = 0 ∧ (ovP 0 m H).2 = false ∧ pl = 0 ∧ lw = Dx.length ∧ Si .u8 (.slice ow lw cw) (rwd (ws.map tl) m T Dx) w6)) := by
          rcases hP6 with ⟨y1, -⟩ | ⟨-, y1, -⟩ | ⟨-, -, y1, rfl⟩ | ⟨-, -, y1, v, rfl, y2⟩
          · exact absurd HTS.out.2 y1
          · rw [allW_of HTS.out.1] at y1; cases y1
          · exact ⟨52, _, none, 0, 0, rfl, .inl ⟨rfl, y1, rfl⟩⟩
          · obtain ⟨ox, cx, hvx⟩ := own_size y2
            subst hvx
            have hl : (rwd (ws.map tl) m T Dx).length = Dx.length := rwd_len HTS.out.1 (by rw [List.length_map, HTS.out.2]) Dx
            refine ⟨0, 0, ox, _, cx, rfl, .inr ⟨rfl, y1, rfl, rfl, ?_⟩⟩
            have : puts T 0 Dx H = rwd (ws.map tl) m T Dx := by rw [HHH.out]; rfl
            rw [this] at y2
            exact own_si y2 hl.symm
        clear hP6
        have HB46 : Hid (Below w4.heap.size w4 w6) := b6
        have R2 : Hid _ := RWR.out w6 b6
        clear b6 RWR
        go_wp2_with fail
        refine Calls.mono R2.out ?_
        rintro e w7 ⟨b7, hP7⟩
        clear R2
        obtain ⟨gr, tv, rfl, HP7⟩ : ∃ gr tv, e = .returned (.tuple #[.pointer (some ⟨gr, 0, none⟩), .int .i64 0]) ∧ Hid (w6.heap.size ≤ gr ∧ Rwt gr gt 0 0 0 tv 0 (List.replicate 63 0) w7 ∧ St tv T w7 ∧ tv.ownBlock ≠ some gr) := by
          have hvl : (ftT ((wdS ws ns).map tl) ns m).values.length = ws.length := by
            show (lbS _ _).values.length = _
            rw [(lbS_same _ _).2.2.2.2]
            exact HNS.out.1.1.len
          have hwd : (ftT ((wdS ws ns).map tl) ns m).width = m := by
            show (lbS _ _).width = _
            rw [(lbS_same _ _).2.2.1]
            rfl
          rcases hP7 with ⟨y1, -⟩ | ⟨-, y1, -⟩ | ⟨-, -, gr, tv, h1, h2, h3, h4, h5, -⟩
          · rw [hvl] at y1; exact absurd HTS.out.2 y1
          · rw [hwd, allW_of HTS.out.1] at y1; cases y1
          · exact ⟨gr, tv, h1, h2, h3, h4, h5⟩
        clear hP7
        have HB47 : Hid (Below w4.heap.size w4 w7) := HB46.out.trans (b7.mono HB46.out.size)
        have HB67 : Hid (Below w6.heap.size w6 w7) := b7
        have R3 : Hid _ := SCN.out w7 HB47.out
        clear b7 SCN
        go_wp2_with fail
        refine Calls.mono R3.out ?_
        rintro e w8 ⟨rfl, hsc8, b8, hz8⟩
        clear R3
        obtain ⟨gs, hgs⟩ : ∃ gs, gs = w7.heap.size := ⟨_, rfl⟩
        have HSC8 : Hid (Scn gs gt 0 0 0 w8 ∧ Below w7.heap.size w7 w8 ∧ w8.heap.size = w7.heap.size + 1 ∧ gs = w7.heap.size) := by rw [hgs]; exact ⟨hsc8, b8, hz8, rfl⟩
        rw [← hgs]
        have HSD6 : Hid (Si .u8 (.slice od Dx.length cd) Dx w6 ∧ Si .u8 v4 ls w6) := by
          have hw6 : Below w.heap.size w w6 := HB2.out.trans ((HB4.out.trans (HB46.out.mono HB4.out.size)).mono HB2.out.size)
          exact ⟨HSD4.out.below HB46.out, H4.out.below hw6⟩
        have HB68 : Hid (Below w6.heap.size w6 w8) := HB67.out.trans (b8.mono HB67.out.size)
        have CC : Hid _ := cuts_any Dx ls (by omega) (by omega) HLB.out _ _ w6 w8 HB68.out HSD6.out.1 HSD6.out.2
        clear hsc8 b8 hz8 hgs
        have HERR : Hid (ErrP f pl (ws.map tl) m Dx) := fun a b hab ho => by
          have hp2 := ov_pre (ws.map tl) m (by omega) a b ho
          rw [← hab, ← HHH.out] at hp2
          rcases HP6.out with ⟨q1, q2, q3⟩ | ⟨q1, q2, -⟩
          · exact ⟨q1, by rw [q3, hp2]⟩
          · rw [hp2, ho] at q2; cases q2
        have HOKP : Hid (OkP f (ws.map tl) m Dx (.slice ow lw cw) (rwd (ws.map tl) m T Dx) w6) := fun ho => by
          rw [← HHH.out] at ho
          rcases HP6.out with ⟨-, q2, -⟩ | ⟨q1, -, -, -, q2⟩
          · rw [ho] at q2; cases q2
          · exact ⟨q1, q2⟩
        have hF : f = 52 ∨ f = 0 ∧ lw = Dx.length := by
          rcases HP6.out with ⟨h, -⟩ | ⟨h, -, -, h2, -⟩
          · exact .inl h
          · exact .inr ⟨h, h2⟩
        clear HP6
        rcases hF with rfl | ⟨rfl, rfl⟩
        all_goals
          go_wp2_with fail
          refine Calls.mono CC.out ?_
          rintro e w9 ⟨vL, vs, P, rfl, hoL, hP, hPl, hPf, hb9⟩
          clear CC
          obtain ⟨-, ⟨-, hP0⟩ | ⟨bL, capL, cur, rfl, hbL, hrL, hnc, hcm, hcs, htk⟩⟩ := hoL
          · omega
          have HL : Hid (∀ j, j < P.length → ∃ o c, w9.cell? ⟨bL, j, none⟩ = some (.slice o (P.getD j []).length c) ∧ Si .u8 (.slice o (P.getD j []).length c) (P.getD j []) w6) := fun j hj => by
            obtain ⟨o, c, q1, q2⟩ := hP.2 j hj
            refine ⟨o, c, ?_, q2⟩
            rw [cell_of_row w9 _ _ _ _ _ hrL, ← q1, ← htk, Nat.mul_one, List.getElem?_take, if_pos hj, Array.getElem?_toList]
          have bLz : bL < w9.heap.size := (Array.getElem?_eq_some_iff.1 hrL).1
          have HY : Hid (∀ i, i < P.length → (P.take (i + 1)).flatten = (P.take i).flatten ++ P.getD i []) := fun i hi => by
            rw [List.take_succ_eq_append_getElem hi, List.flatten_append]
            simp [List.getD, hi]
          have HYE : Hid (∀ i, Dx = (P.take i).flatten ++ (P.drop i).flatten) := fun i => by rw [← List.flatten_append, List.take_append_drop]; exact hPf.symm
          have HYB : Hid (∀ i, Byt (P.take i).flatten ∧ (P.take i).flatten.length ≤ Dx.length) := fun i => by
            have e := HYE.out i
            refine ⟨fun x hx => HDB.out x (by rw [e]; exact List.mem_append_left _ hx), ?_⟩
            have := congrArg List.length e
            rw [List.length_append] at this; omega
          have HPB : Hid (∀ i, i < P.length → Byt (P.getD i []) ∧ (P.getD i []).length ≤ Dx.length) := fun i hi => by
            have h1 := HYB.out (i + 1)
            rw [HY.out i hi] at h1
            refine ⟨fun x hx => h1.1 x (List.mem_append_right _ hx), ?_⟩
            have := h1.2
            rw [List.length_append] at this
            omega
          have HB69 : Hid (Below w6.heap.size w6 w9) := HB68.out.trans (hb9.mono HB68.out.size)
          have HB49 : Hid (Below w4.heap.size w4 w9) := HB46.out.trans (HB69.out.mono HB46.out.size)
          have HB9 : Hid (Below w.heap.size w w9) := HB2.out.trans ((HB4.out.trans (HB49.out.mono HB4.out.size)).mono HB2.out.size)
          have HCX : Hid (Ctx ws m ns T gs gr gt w4.heap.size tv w9 ∧ w6.heap.size ≤ gr ∧ w6.heap.size ≤ gs ∧ gs < bL ∧ gr < bL) := by
            obtain ⟨s1, s2, s3, s4⟩ := HSC8.out
            obtain ⟨p1, p2, p3, p4⟩ := HP7.out
            have grz : gr < w7.heap.size := (Array.getElem?_eq_some_iff.1 p2).1
            have z1 := HB46.out.size
            have z2 := HB67.out.size
            have z3 := hb9.size
            refine ⟨⟨HPT.out, HNS.out.1, HTS.out.1, HTS.out.2, by omega, by omega, by omega, by omega, by omega, HNS.out.2.2.keep HB49.out.size (fun j _ hj => HB49.out.block j hj), ?_, fun k hk => ?_⟩, p1, by omega, by omega, by omega⟩
            · exact (p3.below s2).below hb9
            · have := p3.blk k hk
              exact ⟨by omega, fun e => p4 (by rw [hk, e])⟩
          have HI9 : Hid (CtS ws m ns T gs gr gt tv w9 (P.take 0).flatten (P.take 0).flatten (.slice none 0 0) (hts (ws.map tl) m (P.take 0).flatten) (.slice none 0 0) ((rwd (ws.map tl) m T (P.take 0).flatten).take ((P.take 0).flatten.length - hld2 (ws.map tl) m (P.take 0).flatten)) w9 ∧ 0 = (P.take 0).flatten.length ∧ (ovP 0 m (hts (ws.map tl) m (P.take 0).flatten)).2 = false) := by
            obtain ⟨s1, s2, s3, s4⟩ := HSC8.out
            obtain ⟨p1, p2, p3, p4⟩ := HP7.out
            have grz : gr < w7.heap.size := (Array.getElem?_eq_some_iff.1 p2).1
            obtain ⟨k1, k2⟩ := ct_start HCX.out.1 hm2 ((hb9.block gs (by omega)).trans s1) ((hb9.block gr (by omega)).trans ((s2.block gr grz).trans p2))
            exact ⟨k1, rfl, k2⟩
          have hPz : P.length ≤ 16777217 := by omega
          clear hP hPf hb9 hrL hnc hcm hcs htk hPl hbL HSD6 HSC8 HP7
          go_wp2_with fail
          go_loopw [23, 24, 25, 27] (fun hs os fs iv wr => ∃ (i ny : Nat) (oh : Option Addr) (nh ch : Nat) (oo : Option Addr) (no co : Nat), iv = .int .i64 (i : Int) ∧ i ≤ P.length ∧ hs = .slice oh nh ch ∧ os = .slice oo no co ∧ fs = .int .i64 (ny : Int) ∧ ny ≤ 16777300 ∧ Hid (CtS ws m ns T gs gr gt tv w9 (P.take i).flatten (P.take i).flatten (.slice oh nh ch) (hts (ws.map tl) m (P.take i).flatten) (.slice oo no co) ((rwd (ws.map tl) m T (P.take i).flatten).take ((P.take i).flatten.length - hld2 (ws.map tl) m (P.take i).flatten)) wr ∧ ny = (P.take i).flatten.length ∧ (ovP 0 m (hts (ws.map tl) m (P.take i).flatten)).2 = false)) (fun _ _ _ iv _ => P.length - (intOf iv).toNat)
          case atStart => exact ⟨0, 0, none, 0, 0, none, 0, 0, rfl, by omega, rfl, rfl, rfl, by omega, HI9⟩
          case round =>
            clear HI9
            obtain ⟨i, ny, oh, nh, ch, oo, no, co, rfl, hi, rfl, rfl, rfl, hny, HI⟩ := hrel
            obtain ⟨hSi, hnyY, hov⟩ := HI.out
            have HNY : Hid (ny = (P.take i).flatten.length) := hnyY
            have HOV : Hid ((ovP 0 m (hts (ws.map tl) m (P.take i).flatten)).2 = false) := hov
            have HSI : Hid _ := hSi
            clear HI hSi hnyY hov
            by_cases hlt2 : i < P.length
            · have hi0 : (0 : Int) ≤ (i : Int) := by omega
              have hi1 : (i : Int) < (P.length : Int) := by omega
              obtain ⟨op, cp, hcell, hsi⟩ := HL.out i hlt2
              have hXB := HPB.out i hlt2
              have hYB := HYB.out i
              have hYX := HY.out i hlt2
              have hYE := HYE.out (i + 1)
              obtain ⟨X, hX⟩ : ∃ X, X = P.getD i [] := ⟨_, rfl⟩
              obtain ⟨Y, hY⟩ : ∃ Y, Y = (P.take i).flatten := ⟨_, rfl⟩
              rw [← hX] at hcell hsi hYX hXB
              rw [← hY] at hYX hYB HSI HNY HOV
              rw [hYX] at hYE
              have HYX : Hid ((P.take (i + 1)).flatten = Y ++ X) := hYX
              have HYE2 : Hid (Dx = (Y ++ X) ++ (P.drop (i + 1)).flatten) := hYE
              obtain ⟨hC, cg1, cg2, cg3, cg4⟩ := HCX.out
              have HKL : Hid (∀ W, Two gs gr w9 W → W.cell? ⟨bL, i, none⟩ = some (.slice op X.length cp)) := fun W h2 => (World.cell?_of_block (w := w9) (h2.block bL bLz (by omega) (by omega))).trans hcell
              have HS9 : Hid (Si .u8 (.slice op X.length cp) X w9 ∧ ∀ k, (Value.slice op X.length cp).ownBlock = some k → k ≠ gs ∧ k ≠ gr) := ⟨hsi.below HB69.out, fun k hk => by have := hsi.blk k hk; omega⟩
              have k1 := HKL.out wr HSI.out.two
              have CF : Hid _ := ct_feedC hC HSI.out (by omega) hXB.1 (by omega) _ HS9.out.1 HS9.out.2
              have HXB : Hid (Byt X) := hXB.1
              have hXl := hXB.2
              have hYl := hYB.2
              clear hcell hsi hYX hYE hX hY hXB hYB hC cg1 cg2 cg3 cg4
              go_wp2_with fail
              refine Calls.mono CF.out ?_
              rintro e wA ⟨v, rfl, hoA, hSA⟩
              clear CF
              obtain ⟨oe, ce, hve⟩ := own_size hoA
              subst hve
              obtain ⟨NE, hNE⟩ : ∃ NE, NE = (hit2 (ws.map tl) m Y X).length := ⟨_, rfl⟩
              have hsum : hts (ws.map tl) m Y ++ hit2 (ws.map tl) m Y X = hts (ws.map tl) m (Y ++ X) := (hts_app (ws.map tl) m (by omega) Y X).symm
              have hsl := hts_len (ws.map tl) m (Y ++ X) (by omega)
              have hsl2 := congrArg List.length hsum
              rw [List.length_append] at hsl2
              have hYXl : (Y ++ X).length ≤ 16777300 := by have := congrArg List.length HYE2.out; rw [List.length_append] at this; omega
              obtain ⟨vB, wB, rB, hSB⟩ := ct_apH HCX.out.1 hSA (hl_own hoA).1 (by omega) 22
              rw [hsum] at hSB
              rw [← hNE] at rB ⊢
              obtain ⟨ohB, chB, hvB⟩ := own_size hSB.hh
              subst hvB
              obtain ⟨nhB, hnhB⟩ : ∃ nhB, nhB = (hts (ws.map tl) m (Y ++ X)).length := ⟨_, rfl⟩
              rw [← hnhB] at rB hSB
              have kB := HKL.out wB hSB.two
              have CR : Hid _ := ct_feedR HCX.out.1 hSB (by omega) HXB.out (by omega) HOV.out _ HS9.out.1 HS9.out.2
              clear hoA hSA hSB hNE hsum hsl hsl2 HSI
              clear hnhB
              go_wp2_with fail
              refine Calls.mono CR.out ?_
              rintro e wC (⟨e1, rfl, ⟨n1, h1, hd⟩, h2⟩ | ⟨e1, ox, kx, XX, rfl, hsX, hcat, hSC⟩)
              · clear CR
                obtain ⟨hf, hpl⟩ := HERR.out (Y ++ X) _ HYE2.out e1
                first
                | exact absurd hf (by decide)
                | have kC := HKL.out wC h2
                  have CD : Hid _ := rfeed_done gr n1 h1 (.slice op X.length cp) wC hd
                  have HE : Hid (Below w.heap.size w wC) := by
                    refine HB9.out.trans ⟨h2.os, h2.tape, h2.output, by have := h2.size; have := HB9.out.size; omega, fun j hj => ?_⟩
                    have z1 := HCX.out.2.1
                    have z2 := HCX.out.2.2.1
                    have z3 : w.heap.size ≤ w6.heap.size := by have := HB2.out.size; have := HB4.out.size; have := HB46.out.size; omega
                    have z4 := HB9.out.size
                    exact h2.block j (by omega) (by omega) (by omega)
                  have hXi : I64 ((ny : Int) + (X.length : Int)) := by unfold I64; omega
                  have hwf := wi _ hXi
                  subst hpl
                  clear h2 hd hf e1 HERR HOKP
                  generalize (ovP 0 m (hts (ws.map tl) m (Y ++ X))).1 = pp at *
                  go_wp2_with fail
                  refine Calls.mono CD.out ?_
                  rintro e wC ⟨rfl, rfl⟩
                  clear CD
                  go_wp2
                  go_ret
                  exact ⟨rfl, HE.out⟩
              · clear CR
                have kC := HKL.out wC hSC.two
                have hRl : (rwd (ws.map tl) m T (Y ++ X)).length = (Y ++ X).length := rwd_len HTS.out.1 (by rw [List.length_map, HTS.out.2]) _
                have hcl := congrArg List.length hcat
                rw [List.length_append, List.length_take (l := rwd (ws.map tl) m T (Y ++ X)), hRl] at hcl
                obtain ⟨vD, wD, rD, hSD2⟩ := ct_apP HCX.out.1 hSC hsX (by omega) 27
                rw [hcat] at hSD2
                obtain ⟨ooD, coD, hvD⟩ := own_size hSD2.oo
                subst hvD
                have hlt3 : (List.take ((Y ++ X).length - hld2 (ws.map tl) m (Y ++ X)) (rwd (ws.map tl) m T (Y ++ X))).length = (Y ++ X).length - hld2 (ws.map tl) m (Y ++ X) := by rw [List.length_take, hRl]; omega
                obtain ⟨noD, hnoD⟩ : ∃ noD, noD = (List.take ((Y ++ X).length - hld2 (ws.map tl) m (Y ++ X)) (rwd (ws.map tl) m T (Y ++ X))).length := ⟨_, rfl⟩
                rw [← hnoD] at rD hSD2
                rw [hlt3] at hnoD
                have hle := hld2_le (ws.map tl) m (Y ++ X)
                obtain ⟨hd9, hhd⟩ : ∃ hd9, hd9 = hld2 (ws.map tl) m (Y ++ X) := ⟨_, rfl⟩
                rw [← hhd] at hnoD hle
                obtain ⟨nz, hnz⟩ : ∃ nz, nz = ny + X.length := ⟨_, rfl⟩
                have hnz2 : nz = (Y ++ X).length := by rw [List.length_append, hnz, HNY.out]
                have hwf : IntKind.i64.wrap ((ny : Int) + (X.length : Int)) = (nz : Int) := by rw [wi _ (by unfold I64; omega)]; omega
                have hadd : IntKind.i64.wrap ((noD : Int) + (hd9 : Int)) = (nz : Int) := by rw [wi _ (by unfold I64; omega)]; omega
                obtain ⟨m1, hm1⟩ : ∃ m1, m1 = m - 1 := ⟨_, rfl⟩
                have hw1 : IntKind.i64.wrap ((m : Int) - 1) = (m1 : Int) := by rw [wi _ (by unfold I64; omega)]; omega
                have hgt : ¬ (m1 < hd9) := by omega
                obtain ⟨kc1, kc2, kc3, kc4⟩ := ct_cells hSD2.drew
                rw [← hnz2] at kc1 kc3
                rw [← hhd] at kc2 kc4
                have cw0 : wD.drew.cell? ⟨bu, offu, none⟩ = some (.string (txt ws 0)) := by
                  have z0 := HCX.out
                  have z1 := HB4.out.size
                  have z2 := HB46.out.size
                  have z3 := HB69.out.size
                  have hb := (HB4.out.trans (HB49.out.mono HB4.out.size)).trans (hSD2.drew.two.toBelow (B := w2.heap.size) (by omega) (by omega) (by omega))
                  have := HCU.out _ hb 0 hwl0
                  rwa [Nat.add_zero] at this
                have A1 : Hid _ := scAt_any gs nz wD.drew kc1
                have A2 : Hid _ := rwAt_any gr nz wD.drew kc3
                have A3 : Hid _ := rwHeld_any gr hd9 wD.drew kc4
                have A4 : Hid _ := scHeld_any gs hd9 wD.drew kc2
                have A5 : Hid _ := run_ld9 wD.drew bu offu (txt ws 0) cw0
                have HI2 : Hid (CtS ws m ns T gs gr gt tv w9 (P.take (i + 1)).flatten (P.take (i + 1)).flatten (.slice ohB nhB chB) (hts (ws.map tl) m (P.take (i + 1)).flatten) (.slice ooD noD coD) ((rwd (ws.map tl) m T (P.take (i + 1)).flatten).take ((P.take (i + 1)).flatten.length - hld2 (ws.map tl) m (P.take (i + 1)).flatten)) wD.drew ∧ nz = (P.take (i + 1)).flatten.length ∧ (ovP 0 m (hts (ws.map tl) m (P.take (i + 1)).flatten)).2 = false) := by
                  rw [HYX.out]
                  exact ⟨hSD2.drew, hnz2, e1⟩
                have hnzb : nz ≤ 16777300 := by omega
                have HSZ : Hid ((txt ws 0).size = m) := hsz0
                clear hsX hcat hSC hRl hcl hSD2 hlt3 hnoD hle hhd hnz hnz2 hm1 kc1 kc2 kc3 kc4 cw0 e1
                go_wp2_with fail
                refine wp_region_vals (ops := reg30) (V := V30 gs gr nz hd9 bu offu ws.length cu (txt ws 0) m m1 ooD noD coD) (S := fun W => W = wD.drew) (by kernel_rfl) (fun i o ho => (okR_at okR30 ho).1) (fun i j o oj d ho hj q1 q2 => (okR_at okR30 ho).2.2 j oj d hj q1 q2) (fun i o d ho q => (okR_at okR30 ho).2.1 d q) (step30 _ gs gr nz hd9 bu offu ws.length cu (txt ws 0) m m1 ooD noD coD _ _ rfl rfl rfl rfl rfl
                  (fun W hW => by subst hW; exact A1.out) (fun W hW => by subst hW; exact A2.out) (fun W hW => by subst hW; exact A3.out) (fun W hW => by subst hW; exact A4.out) (fun W hW => by subst hW; exact A5.out) hwl0 HSZ.out hw1 hgt hadd) rfl (fun wE hE => ?_)
                rw [put30]
                dsimp only [V30]
                have hE2 : wE = wD.drew := hE
                clear hE
                subst hE2
                clear A1 A2 A3 A4 A5
                go_wp2
                exact ⟨⟨i + 1, nz, ohB, nhB, chB, ooD, noD, coD, by rfl, by omega, rfl, rfl, rfl, hnzb, HI2⟩, by simp only [intOf]; omega⟩
            · have hi1 : ¬ ((i : Int) < (P.length : Int)) := by omega
              have hie : i = P.length := by omega
              have hYD : (P.take i).flatten = Dx := by
                have := HYE.out i
                rw [List.drop_of_length_le (by omega)] at this
                simpa using this.symm
              rw [hYD] at HSI HOV HNY
              obtain ⟨hf, hsW⟩ := HOKP.out HOV.out
              first
              | exact absurd hf (by decide)
              | have CL : Hid _ := ct_close HCX.out.1 HSI.out
                have HSW : Hid (Si .u8 (.slice ow Dx.length cw) (rwd (ws.map tl) m T Dx) w6) := hsW
                clear hf hsW hYD HSI HERR HOKP
                go_wp2_with fail
                refine Calls.mono CL.out ?_
                rintro e wE ⟨vE, XX, rfl, hsX, hcat, hc3, hhE, ooE, twE⟩
                clear CL
                obtain ⟨oE, cE, hvE, -⟩ := hsX.form
                subst hvE
                have hRl : (rwd (ws.map tl) m T Dx).length = Dx.length := rwd_len HTS.out.1 (by rw [List.length_map, HTS.out.2]) _
                have hcl := congrArg List.length hcat
                rw [List.length_append, hRl] at hcl
                obtain ⟨vF, wF, rF, hoF, hgF⟩ := run_apPg wE w9.heap.size _ 27 _ _ XX _ ooE hsX (by omega) twE.size
                rw [hcat] at hoF
                obtain ⟨ooF, coF, hvF⟩ := own_size hoF
                subst hvF
                rw [hcl] at rF hoF
                have hsO := conv_si (own_si hoF hRl.symm)
                have twF : Two gs gr w9 wF := twE.grown hgF fun k hk => (ooE.lt k hk).1
                have z0 := HCX.out
                have z3 := HB69.out.size
                have hb6 : Below w6.heap.size w6 wF := HB69.out.trans (twF.toBelow (B := w6.heap.size) (by omega) (by omega) (by omega))
                have hsW := conv_si (HSW.out.below hb6)
                have hb4 : Below w4.heap.size w4 wF := HB46.out.trans (hb6.mono HB46.out.size)
                have hhF : wF.ownsRow w9.heap.size 40 2 _ _ _ := own_keep2 hhE fun k hk => hgF.block k (hhE.lt k hk).2 (fun e => own_apart hhE ooE k hk e.symm)
                have hc3F : wF.cell? ⟨gr, 3, none⟩ = some (.int .i64 0) := (World.cell?_of_block (w := wE) (hgF.block gr (by have := twE.size; have := z0.1.gr0; omega) (fun e => by have := (ooE.lt gr e.symm).1; have := z0.1.gr0; omega))).trans hc3
                have CS : Hid (Calls Try.prog 16 #[.pointer (some ⟨g, 0, none⟩), .slice od Dx.length cd] wF fun e w' => ∃ v, e = .returned v ∧ Hl v (hts (ws.map tl) m Dx) w' ∧ Below wF.heap.size wF w') := by
                  obtain ⟨k1, k2, k3⟩ := HNS.out
                  exact (scan_hts ws m HPT.out ns k1 g gt Dx HDB.out (by omega) _ wF ((hb4.block g (Array.getElem?_eq_some_iff.1 k2).1).trans k2) ((k3.mono hb4.size).keep hb4.size fun j _ hj => hb4.block j hj) (HSD4.out.below hb4)).mono fun e w' ⟨v, he, ho, hbb⟩ => ⟨v, he, (hl_own ho).1, hbb⟩
                have HHF : Hid (Hl (.slice oh nh ch) (hts (ws.map tl) m Dx) wF) := (hl_own hhF).1
                have HC3 : Hid (wF.cell? ⟨gr, 3, none⟩ = some (.int .i64 0) ∧ gr < wF.heap.size) := ⟨hc3F, World.block_lt_of_cell? wF _ hc3F⟩
                have HBF : Hid (Below w.heap.size w wF) := HB2.out.trans ((HB4.out.trans (hb4.mono HB4.out.size)).mono HB2.out.size)
                clear hsX hcat hc3 hhE ooE twE hRl hcl hoF hgF twF z0 z3 hb6 hb4 hhF hc3F
                generalize bst (rwd (ws.map tl) m T Dx) = sR at *
                go_wp2_with fail
                refine Calls.mono CS.out ?_
                rintro e wG ⟨vG, rfl, hlG, bG⟩
                clear CS
                have SG : Hid (Calls Try.prog 11 #[.slice oh nh ch, vG] wG fun e w' => e = .returned (.bool true) ∧ Below wG.heap.size wG w') := by
                  have := same_gen (hts (ws.map tl) m Dx) (hts (ws.map tl) m Dx) (.slice oh nh ch) vG wG (HHF.out.below bG) hlG
                  rw [decide_eq_true rfl] at this
                  exact this
                have HBG : Hid (Below wF.heap.size wF wG) := bG
                clear bG hlG
                go_wp2_with fail
                refine Calls.mono SG.out ?_
                rintro e wK ⟨rfl, bK⟩
                clear SG
                have hFK : Below wF.heap.size wF wK := HBG.out.trans (bK.mono HBG.out.size)
                have HE : Hid (Below w.heap.size w wK) := HBF.out.trans (hFK.mono HBF.out.size)
                have CH : Hid _ := rwHeld_any gr 0 wK ((World.cell?_of_block (w := wF) (hFK.block gr HC3.out.2)).trans HC3.out.1)
                clear hFK bK
                go_wp2_with fail
                refine Calls.mono CH.out ?_
                rintro e wK ⟨rfl, rfl⟩
                clear CH
                go_wp2
                go_ret
                exact ⟨rfl, HE.out⟩
end Go.Proofs.Ytceaklefdahfkaa
