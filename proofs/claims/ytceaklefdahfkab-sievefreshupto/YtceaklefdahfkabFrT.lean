/- SieveFresh: the walk, whole. -/
import Derived.Test.YtceaklefdahfkabFrS
import Derived.Test.YtceaklefdahfkabApa
import Derived.Deep.DeepCutAuto
namespace Go.Proofs.Ytceaklefdahfkab
open Go.RowKit
attribute [local go_sem ↓] toApS toApT toApp toApB toSlB Go.wp_at_zero Go.wp_at_succ
set_option maxRecDepth 100000 in
set_option maxHeartbeats 6400000 in
theorem fresh_any (l0 : List ByteArray) (hl0 : l0.length ≤ 1048576) (z : Int) (d : List Nat) (hdl : d.length ≤ 16777216) (hdb : Byt d) (at' : List Nat) (hal : at'.length ≤ 1073741824) (ha : ∀ j, at'.getD j 0 < 65536) (v0 v2 v3 : Value) (w : World) (h0 : St v0 l0 w) (h2 : Si .u8 v2 d w) (h3 : Si .u16 v3 at' w) :
    Calls Try.prog 4 #[v0, .int .i64 z, v2, v3] w fun e w' => e = .returned (.bool true) ∧ Below w.heap.size w w' := by
  obtain ⟨o, c, rfl, hc1, hc2, -⟩ := h0.form
  obtain ⟨v', w1, r1, hs1, hb1⟩ := run_apA w 22 o c l0 ⟨#[97, 98]⟩ h0 (by omega)
  have hl1 : (l0 ++ [(⟨#[97, 98]⟩ : ByteArray)]).length = l0.length + 1 := by simp
  have CW : Hid _ := words_any (l0 ++ [⟨#[97, 98]⟩]) (by rw [hl1]; omega) z v' w1 hs1
  generalize hL : l0 ++ [(⟨#[97, 98]⟩ : ByteArray)] = l1 at *
  have HB1 : Hid (Below w.heap.size w w1) := hb1
  have H2 : Hid (Si .u8 v2 d w1) := h2.below hb1
  have H3 : Hid (Si .u16 v3 at' w1) := h3.below hb1
  obtain ⟨n, hn⟩ : ∃ n, n = min 24 l1.length := ⟨_, rfl⟩
  rw [← hn] at CW
  have hn0 : 0 < n := by omega
  have hn24 : n ≤ 24 := by omega
  clear hL hn h0 h2 h3 hs1 hb1
  go_enter Try.func4, Try.ntmps4
  go_wp2_with fail
  refine Calls.mono CW.out ?_
  rintro e w2 ⟨m, uv, rfl, hm2, hm17, ho2, hb2⟩
  clear CW
  obtain ⟨ws, hPt, hnd, hwl, hst2⟩ : ∃ ws : List ByteArray, Pt ws m ∧ (ws.map tl).Nodup ∧ ws.length = n ∧ St uv ws w2 :=
    ⟨wds l1 m n, wds_pt l1 m n hn0 hn24 hm2 hm17, wds_nodup l1 m n hn24 hm2, wds_len l1 m n, own_st ho2 (wds_len l1 m n).symm⟩
  have HB2 : Hid (Below w.heap.size w w2) := HB1.out.trans (hb2.mono HB1.out.size)
  have B2D : Below w2.heap.size w2 w2.drew := Below.drewN' (Below.refl _ _) 1
  obtain ⟨D, hDl, hDb, CP⟩ : ∃ D : List Nat, D.length = d.length ∧ Byt D ∧ Hid (Calls Try.prog 9 #[v2, uv, v3] w2.drew fun e w' => ∃ g, e = .returned (.slice (some ⟨g, 0, none⟩) D.length D.length) ∧ w2.heap.size ≤ g ∧ w'.heap[g]? = some (.cells (ik .u8 D) 5 (0, 0)) ∧ Below w2.heap.size w2 w') :=
    ⟨pltD d ws at', pltD_len d ws at', pltD_byt d hdb ws at', by
      rw [pltD_len]
      exact (planted_any d (by omega) ws (by omega) (by omega) at' hal ha v2 uv v3 w2.drew ((H2.out.below hb2).below B2D) (hst2.below B2D) ((H3.out.below hb2).below B2D)).mono fun e w' ⟨g, q1, q2, q3, q4⟩ => ⟨g, q1, q2, q3, B2D.trans q4⟩⟩
  rw [← hDl] at hdl
  have HU2 : Hid (St uv ws w2) := hst2
  obtain ⟨ou, cu, rfl, -, -, huf⟩ := hst2.form
  have hwl0 : 0 < ws.length := by omega
  obtain ⟨bu, offu, hou, hbu, hcu⟩ := huf hwl0
  subst hou
  have HPT : Hid _ := hPt
  have HND : Hid _ := hnd
  have hsz0 : (txt ws 0).size = m := hPt.sz _ (by rw [txt_eq hwl0]; exact List.getElem_mem hwl0)
  have C0 : Hid (∀ W, Below w2.heap.size w2 W → W.cell? ⟨bu, offu, none⟩ = some (.string (txt ws 0))) := fun W hb => (World.cell?_of_block (w := w2) (hb.block bu hbu)).trans (by have := hcu 0 _ (txt_get hwl0); rwa [Nat.add_zero] at this)
  have c0 : w2.drew.cell? ⟨bu, offu, none⟩ = some (.string (txt ws 0)) := C0.out _ B2D
  obtain ⟨Dx, hDx⟩ : ∃ Dx, Dx = D ++ tl (txt ws 0) := ⟨_, rfl⟩
  have hDxl : Dx.length ≤ 16777300 := by rw [hDx, List.length_append, tl_len]; omega
  have HDL : Hid (2 ≤ Dx.length ∧ Dx.length ≤ 16777300) := ⟨by rw [hDx, List.length_append, tl_len]; omega, hDxl⟩
  have HNE : Hid (0 < (hts (ws.map tl) m Dx).length) := by
    rw [hDx]
    exact hts_ne _ m D _ (List.mem_map.2 ⟨txt ws 0, by rw [txt_eq hwl0]; exact List.getElem_mem hwl0, rfl⟩) (by rw [tl_len]; exact hsz0)
  have HDB : Hid (Byt Dx) := by
    rw [hDx]
    intro x hx
    rcases List.mem_append.1 hx with h | h
    · exact hDb x h
    · exact tl_byt _ x h
  have ADD : Hid (∀ g w', w2.heap.size ≤ g → w'.heap[g]? = some (.cells (ik .u8 D) 5 (0, 0)) → Below w2.heap.size w2 w' → w'.cell? ⟨bu, offu, none⟩ = some (.string (txt ws 0)) ∧ ∃ o c WX, (apT 23 #[.slice (some ⟨g, 0, none⟩) D.length D.length, .string (txt ws 0)]).run Try.prog w' = .ok (.slice o Dx.length c) WX ∧ Hid (Si .u8 (.slice o Dx.length c) Dx WX) ∧ Hid (Below w2.heap.size w2 WX)) := fun g w' hg hr hb => by
    obtain ⟨pv, WX, r, hs, hbx⟩ := run_apT w' 23 g w2.heap.size D (txt ws 0) hr hg (by omega)
    rw [← hDx] at hs
    obtain ⟨o, c, rfl, -⟩ := hs.form
    exact ⟨C0.out w' hb, o, c, WX, r, hs, hb.trans hbx⟩
  have hwi : (0 : Int) < (ws.length : Int) := by omega
  clear H2 H3 HB1 ho2 hb2 hst2 hDl ha hdb hPt hnd hDb hwl hn0 hn24 hl1 hc1 hc2 r1 hcu huf hDx C0 B2D hDxl
  go_upto_region 2 with fail
  rename_i K hK
  have HK2 : Hid (∀ q w1, Code.wp Try.prog (tlG Try.f4 3) (bodyPost Try.prog Try.f4 (fun e w' => e = .returned (.bool true) ∧ Below w.heap.size w w')) q w1 → K q w1) := hK
  clear hK
  go_cut [10] (fun s wc => ∃ o c, s = .slice o Dx.length c ∧ Hid (Si .u8 (.slice o Dx.length c) Dx wc) ∧ Hid (Below w2.heap.size w2 wc))
  case first =>
    go_region_with (go_at_call 9; refine Calls.mono CP.out ?_; rintro e w3 ⟨gd, rfl, hgd, hR3, hb3⟩; obtain ⟨k0, ox, cx, WX, k1, HK2, HK3⟩ := ADD.out gd w3 hgd hR3 hb3; clear hgd hR3 hb3)
    all_goals
      go_wp2_with fail
      go_meet
      exact ⟨_, _, rfl, HK2, HK3⟩
  case rest =>
    obtain ⟨od, cd, rfl, HSD, HB3⟩ := hcut
    clear CP ADD c0
    have HW3 : Hid (Below w.heap.size w wc) := HB2.out.trans (HB3.out.mono HB2.out.size)
    have HU3 : Hid (St (.slice (some ⟨bu, offu, none⟩) ws.length cu) ws wc) := HU2.out.below HB3.out
    exact HK2.out _ _ (fr3 w wc HPT.out HND.out HDB.out HDL.out.1 HDL.out.2 HNE.out HU3.out HSD.out HW3.out)
end Go.Proofs.Ytceaklefdahfkab
