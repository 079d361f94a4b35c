/- SieveFresh: anew. -/
import Derived.Test.YtceaklefdahfkabFrX
import Derived.BigQuiet
namespace Go.Proofs.Ytceaklefdahfkab
open Go.RowKit
theorem Ow.pos {w : World} {B e sz n : Nat} {v : Value} {xs : List Value} (h : Ow B e sz v n xs w) (hn : 0 < n) : ∃ g c, v = .slice (some ⟨g, 0, none⟩) n (c + 1) ∧ B ≤ g ∧ g < w.heap.size ∧ n ≤ c + 1 := by
  rcases h.2 with ⟨h0, _⟩ | ⟨g, cap, cur, rfl, b, c, d, _⟩
  · omega
  · exact ⟨g, cap, rfl, b, (Array.getElem?_eq_some_iff.1 c).1, d⟩
/-- Two blocks alone are changed. -/
structure Bu2 (a b : Nat) (w w' : World) : Prop where
  os : w'.os = w.os
  tape : w'.tape = w.tape
  output : w'.output = w.output
  size : w.heap.size ≤ w'.heap.size
  block : ∀ j, j < w.heap.size → j ≠ a → j ≠ b → w'.heap[j]? = w.heap[j]?
theorem Bu2.refl (a b : Nat) (w : World) : Bu2 a b w w := ⟨rfl, rfl, rfl, Nat.le_refl _, fun _ _ _ _ => rfl⟩
theorem Bu2.set1 {a b : Nat} {w w' : World} (h : Bu2 a b w w') (j : Nat) (u : Value) : Bu2 a b w (w'.setCell ⟨a, j, none⟩ u) :=
  ⟨h.os, h.tape, h.output, by simpa using h.size, fun k hk h1 h2 => (heap_setCell_other w' _ _ _ h1).trans (h.block k hk h1 h2)⟩
theorem Bu2.set2 {a b : Nat} {w w' : World} (h : Bu2 a b w w') (j : Nat) (u : Value) : Bu2 a b w (w'.setCell ⟨b, j, none⟩ u) :=
  ⟨h.os, h.tape, h.output, by simpa using h.size, fun k hk h1 h2 => (heap_setCell_other w' _ _ _ h2).trans (h.block k hk h1 h2)⟩
theorem ik_toList_set (l : List Nat) (j b : Nat) : (ik .u8 l).toList.set j (.int .u8 (b : Int)) = (ik .u8 (l.set j b)).toList := by
  rw [← ik_set, Array.toList_setIfInBounds]
theorem sk_toList_set (l : List ByteArray) (j : Nat) (b : ByteArray) : (sk l).toList.set j (.string b) = (sk (l.set j b)).toList := by
  rw [← sk_set, Array.toList_setIfInBounds]
/-- All that lies when the lists have been turned about. -/
structure Anw (ws : List ByteArray) (m : Nat) (ns : List Nat) (g gt : Nat) (D : List Nat) (u dv own x tov a : Value) (w0 : World) (w : World) : Prop where
  sv : ∃ B K, SvL ws m ns g gt B K w
  u : St u ws w
  d : Si .u8 dv D w
  own : St own ws.reverse w
  x : Si .u8 x D.reverse w
  tov : St tov ws.reverse w
  a : Hl a (hts (ws.map tl) m D) w
  bl : Below w0.heap.size w0 w
theorem Anw.below {ws : List ByteArray} {m : Nat} {ns : List Nat} {g gt : Nat} {D : List Nat} {u dv own x tov a : Value} {w0 w w' : World} (h : Anw ws m ns g gt D u dv own x tov a w0 w) (hb : Below w.heap.size w w') : Anw ws m ns g gt D u dv own x tov a w0 w' := by
  obtain ⟨B, K, hs⟩ := h.sv
  exact ⟨⟨B, K, hs.below hb⟩, h.u.below hb, h.d.below hb, h.own.below hb, h.x.below hb, h.tov.below hb, h.a.keep hb.size (fun j hj => hb.block j hj), h.bl.trans (hb.mono h.bl.size)⟩
attribute [local go_sem ↓] toApp toApB toApS
set_option maxRecDepth 100000 in
set_option maxHeartbeats 3200000 in
theorem anew_any {ws : List ByteArray} {m : Nat} (hp : Pt ws m) (hnd : (ws.map tl).Nodup) (u dv : Value) (D : List Nat) (hDb : Byt D) (hD0 : 0 < D.length) (hDl : D.length ≤ 536870912) (w : World) (hu : St u ws w) (hd : Si .u8 dv D w) :
    Calls Try.prog 24 #[u, dv] w fun e w' => e = .returned (.bool true) ∧ Below w.heap.size w w' := by
  have hln := hp.ln
  have hw0 : 0 < ws.length := List.length_pos_iff.2 hp.ne
  obtain ⟨own, w1, r1, o1, b1⟩ := run_cpX w 22 u ws (by omega) hu
  obtain ⟨gw, cw, rfl, gw1, gw2, gw3⟩ := o1.pos hw0
  have C2 : Hid _ := new_f hp hnd _ w1 (ow_st o1)
  have HP : Hid (Pt ws m) := hp
  have HND : Hid _ := hnd
  have HDB : Hid (Byt D) := hDb
  have HD0 : Hid (0 < D.length) := hD0
  have HDL : Hid (D.length ≤ 536870912) := hDl
  have HW0 : Hid (0 < ws.length ∧ ws.length ≤ 4096) := ⟨hw0, hln⟩
  have H1 : Hid (Ow w.heap.size 9 1 (.slice (some ⟨gw, 0, none⟩) ws.length (cw + 1)) ws.length (sk ws).toList w1 ∧ w.heap.size ≤ gw ∧ gw < w1.heap.size ∧ Below w.heap.size w w1 ∧ St u ws w1 ∧ Si .u8 dv D w1) := ⟨o1, gw1, gw2, b1, hu.below b1, hd.below b1⟩
  obtain ⟨bu, fu, cu, rfl, hbu, hcu⟩ : ∃ b off c, u = .slice (some ⟨b, off, none⟩) ws.length c ∧ b < w.heap.size ∧ ∀ j s, ws[j]? = some s → w.cell? ⟨b, off + j, none⟩ = some (.string s) := by
    rcases hu with ⟨_, h⟩ | ⟨b, off, c, h1, _, _, h4, h5⟩
    · rw [h] at hw0; simp at hw0
    · exact ⟨b, off, c, h1, h4, h5⟩
  obtain ⟨bd, fd, cd, rfl, hbd, hcd⟩ : ∃ b off c, dv = .slice (some ⟨b, off, none⟩) D.length c ∧ b < w.heap.size ∧ ∀ j, j < D.length → w.cell? ⟨b, off + j, none⟩ = some (.int .u8 ((D.getD j 0 : Nat) : Int)) := by
    rcases hd with ⟨_, h⟩ | ⟨b, off, c, h1, _, _, h4, h5⟩
    · rw [h] at hD0; simp at hD0
    · exact ⟨b, off, c, h1, h4, h5⟩
  have HUC : Hid (∀ W, Below w.heap.size w W → ∀ j s, ws[j]? = some s → W.cell? ⟨bu, fu + j, none⟩ = some (.string s)) := fun W hb j s hj => (World.cell?_of_block (w := w) (hb.block bu hbu)).trans (hcu j s hj)
  have HDC : Hid (∀ W, Below w.heap.size w W → ∀ j, j < D.length → W.cell? ⟨bd, fd + j, none⟩ = some (.int .u8 ((D.getD j 0 : Nat) : Int))) := fun W hb j hj => (World.cell?_of_block (w := w) (hb.block bd hbd)).trans (hcd j hj)
  have HBL : Hid (bu < w.heap.size ∧ bd < w.heap.size) := ⟨hbu, hbd⟩
  have HUD : Hid (St (.slice (some ⟨bu, fu, none⟩) ws.length cu) ws w ∧ Si .u8 (.slice (some ⟨bd, fd, none⟩) D.length cd) D w) := ⟨hu, hd⟩
  clear hp hnd hDb hD0 hDl hu hd o1 b1 gw1 gw2 gw3 hw0 hln hbu hcu hbd hcd
  go_enter Try.func24, Try.ntmps24
  go_wp2_with fail
  refine Calls.mono C2.out ?_
  rintro e w2 ⟨ns, g, gt, rfl, H2⟩
  clear C2 r1
  obtain ⟨x, w3, r3, o3, b3⟩ := run_cpY w2 23 _ D (by have := HDL.out; omega) (H1.out.2.2.2.2.2.below H2.out.2)
  obtain ⟨gx, cx, rfl, gx1, gx2, gx3⟩ := o3.pos HD0.out
  obtain ⟨tov, w4, r4, o4, b4⟩ := run_cpX w3 22 _ ws (by have := HW0.out.2; omega) ((H1.out.2.2.2.2.1.below H2.out.2).below b3)
  obtain ⟨gv, cv, rfl, gv1, gv2, gv3⟩ := o4.pos HW0.out.1
  have S4 : SvL ws m ns g gt w1.heap.size w2.heap.size w4 := (H2.out.1.below b3).below b4
  have C5 : Hid _ := scan_f HP.out S4 D HDB.out (by have := HDL.out; omega) _ (ow_si (o3.bel b4))
  have H4 : Hid (SvL ws m ns g gt w1.heap.size w2.heap.size w4 ∧ Ow w2.heap.size 5 1 (.slice (some ⟨gx, 0, none⟩) D.length (cx + 1)) D.length (ik .u8 D).toList w4 ∧ Ow w3.heap.size 9 1 (.slice (some ⟨gv, 0, none⟩) ws.length (cv + 1)) ws.length (sk ws).toList w4 ∧ Below w1.heap.size w1 w4 ∧ (w2.heap.size ≤ gx ∧ gx < w3.heap.size ∧ w3.heap.size ≤ gv ∧ gv < w4.heap.size)) := ⟨S4, o3.bel b4, o4, H2.out.2.trans ((b3.mono H2.out.2.size).trans (b4.mono (Nat.le_trans H2.out.2.size b3.size))), gx1, gx2, gv1, gv2⟩
  clear o3 b3 o4 b4 gx1 gx2 gx3 gv1 gv2 gv3 S4
  obtain ⟨nD, hnD⟩ : ∃ n, n = D.length := ⟨_, rfl⟩
  obtain ⟨nW, hnW⟩ : ∃ n, n = ws.length := ⟨_, rfl⟩
  rw [← hnD] at r3 H4 C5 H1 ⊢
  rw [← hnW] at r4 H4 H1 ⊢
  have HN : Hid (nD = D.length ∧ nW = ws.length) := ⟨hnD, hnW⟩
  clear hnD hnW
  go_wp2_with fail
  refine Calls.mono C5.out ?_
  rintro e w5 ⟨a, rfl, H5⟩
  clear C5 r3 r4
  obtain ⟨oa, ca, hav, -, -, -⟩ := H5.out.1.form
  obtain ⟨nA, hnA⟩ : ∃ n, n = (hts (ws.map tl) m D).length := ⟨_, rfl⟩
  rw [← hnA] at hav
  subst hav
  have HNA : Hid (nA = (hts (ws.map tl) m D).length) := hnA
  clear hnA
  have b45 := H5.out.2
  have hnW := HN.out.2
  have C6 : Hid _ := rewrite_f HP.out (H4.out.1.below b45) ws rfl (pt_allF HP.out) D HDB.out (by have := HDL.out; omega) (.slice (some ⟨gv, 0, none⟩) nW (cv + 1)) (.slice (some ⟨gx, 0, none⟩) nD (cx + 1)) (ow_st (by rw [← HN.out.2]; exact H4.out.2.2.1.bel b45)) (ow_si (by rw [← HN.out.1]; exact H4.out.2.1.bel b45))
  clear b45 hnW
  go_wp2_with fail
  refine Calls.mono C6.out ?_
  rintro e w6 ⟨v6, rfl, H6⟩
  clear C6
  have b46 : Below w4.heap.size w4 w6 := H5.out.2.trans (H6.out.2.2.mono H5.out.2.size)
  have C7 : Hid _ := mask_f HP.out (H4.out.1.below b46) D HDB.out (by have := HDL.out; omega) (.slice (some ⟨gx, 0, none⟩) nD (cx + 1)) (ow_si (by rw [← HN.out.1]; exact H4.out.2.1.bel b46))
  have B56 : Hid (Below w5.heap.size w5 w6) := H6.out.2.2
  clear b46 H6
  generalize rwA m ws D (hts (ws.map tl) m D) = R6 at *
  go_wp2_with fail
  refine Calls.mono C7.out ?_
  rintro e w7 ⟨v7, hv7, f7, n7, X7, Hh7, rfl, H7⟩
  clear C7
  have b57 : Below w5.heap.size w5 w7 := B56.out.trans (H7.out.2.2.2.2.mono B56.out.size)
  have b47 : Below w4.heap.size w4 w7 := H5.out.2.trans (b57.mono H5.out.2.size)
  have b17 : Below w1.heap.size w1 w7 := H4.out.2.2.2.1.trans (b47.mono H4.out.2.2.2.1.size)
  have Z : Hid (w.heap.size ≤ w1.heap.size ∧ w1.heap.size ≤ w2.heap.size ∧ w2.heap.size ≤ w3.heap.size ∧ w3.heap.size ≤ w4.heap.size ∧ w4.heap.size ≤ w5.heap.size ∧ w5.heap.size ≤ w7.heap.size ∧ w.heap.size ≤ gw ∧ gw < w1.heap.size ∧ w2.heap.size ≤ gx ∧ gx < w3.heap.size ∧ w3.heap.size ≤ gv ∧ gv < w4.heap.size) := by
    have z1 := H4.out.2.2.2.2
    have z2 := H4.out.2.2.2.1.size
    exact ⟨H1.out.2.2.2.1.size, H2.out.2.size, by omega, by omega, H5.out.2.size, b57.size, H1.out.2.1, H1.out.2.2.1, z1⟩
  have S7 : Hid (SvL ws m ns g gt w1.heap.size w2.heap.size w7 ∧ Ow w.heap.size 9 1 (.slice (some ⟨gw, 0, none⟩) nW (cw + 1)) nW (sk ws).toList w7 ∧ Ow w2.heap.size 5 1 (.slice (some ⟨gx, 0, none⟩) nD (cx + 1)) nD (ik .u8 D).toList w7 ∧ Ow w3.heap.size 9 1 (.slice (some ⟨gv, 0, none⟩) nW (cv + 1)) nW (sk ws).toList w7 ∧ Ow w4.heap.size 39 2 (.slice oa nA ca) (hts (ws.map tl) m D).length (hc (hts (ws.map tl) m D)) w7 ∧ Below w.heap.size w w7) := ⟨H4.out.1.below b47, H1.out.1.bel b17, H4.out.2.1.bel b47, H4.out.2.2.1.bel b47, H5.out.1.bel b57, H1.out.2.2.2.1.trans (b17.mono H1.out.2.2.2.1.size)⟩
  clear b57 b47 b17 H7 B56 H5 H4 H1 H2
  go_wp2_with fail
  go_loopw [11] (fun iv wr => ∃ i : Nat, iv = .int .i64 (i : Int) ∧ i ≤ nD ∧ Hid (Ow w2.heap.size 5 1 (.slice (some ⟨gx, 0, none⟩) nD (cx + 1)) nD (ik .u8 (trn D i)).toList wr ∧ Bu2 gx gx w7 wr)) (fun iv _ => nD - (intOf iv).toNat)
  case atStart => exact ⟨0, rfl, by omega, by rw [trn_0]; exact S7.out.2.2.1, Bu2.refl _ _ _⟩
  case round =>
    obtain ⟨i, rfl, hi, HI⟩ := hrel
    have hnD := HN.out.1
    have hDL := HDL.out
    by_cases hlt : i < nD
    · obtain ⟨k, hk⟩ : ∃ k, k = nD - 1 - i := ⟨_, rfl⟩
      have e1 : IntKind.i64.wrap ((nD : Int) - 1) = ((nD - 1 : Nat) : Int) := by rw [IntKind.wrap_i64]; omega
      have e2 : IntKind.i64.wrap (((nD - 1 : Nat) : Int) - (i : Int)) = (k : Int) := by rw [IntKind.wrap_i64]; omega
      have hi0 : (0 : Int) ≤ (i : Int) := by omega
      have hi1 : (i : Int) < (nD : Int) := by omega
      have hk0 : (0 : Int) ≤ (k : Int) := by omega
      have hk1 : (k : Int) < (nD : Int) := by omega
      have hBw : Below w.heap.size w wr := S7.out.2.2.2.2.2.trans ⟨HI.out.2.os, HI.out.2.tape, HI.out.2.output, HI.out.2.size, fun j hj => HI.out.2.block j (by have := Z.out; omega) (by have := Z.out; omega) (by have := Z.out; omega)⟩
      have cd' := HDC.out wr hBw k (by omega)
      obtain ⟨bk', hbk⟩ : ∃ b, b = D.getD k 0 := ⟨_, rfl⟩
      rw [← hbk] at cd'
      have hTl := trn_len D i
      have cz := HI.out.1.cell rfl i _ (ik_toList_get .u8 (trn D i) i (by omega))
      generalize ((trn D i).getD i 0 : Nat) = oldc at cz
      have fz := HI.out.1.frozen rfl i
      have HN2 : Hid (Ow w2.heap.size 5 1 (.slice (some ⟨gx, 0, none⟩) nD (cx + 1)) nD (ik .u8 (trn D (i + 1))).toList (wr.setCell ⟨gx, i, none⟩ (.int .u8 (bk' : Int))) ∧ Bu2 gx gx w7 (wr.setCell ⟨gx, i, none⟩ (.int .u8 (bk' : Int)))) := by
        refine ⟨?_, HI.out.2.set1 _ _⟩
        have := HI.out.1.set (g := gx) rfl i (.int .u8 (bk' : Int))
        rw [ik_toList_set, trn_set D i (by omega) bk' (by rw [← hnD, ← hk, hbk]; simp [List.getD, show k < D.length by omega])] at this
        exact this
      have hbn : nD ≤ 536870912 := by omega
      clear HI hBw hbk hTl hk hDL hnD
      go_wp2
      go_roundw
      case rel => exact ⟨i + 1, by simp, by omega, HN2.out⟩
      case measure => simp [intOf]; omega
    · have hin : i = nD := by omega
      subst hin
      have H8 : Hid (Ow w2.heap.size 5 1 (.slice (some ⟨gx, 0, none⟩) i (cx + 1)) i (ik .u8 D.reverse).toList wr ∧ Bu2 gx gx w7 wr) := ⟨by have := HI.out.1; rw [hnD, trn_end, ← hnD] at this; exact this, HI.out.2⟩
      obtain ⟨w8, hw8⟩ : ∃ w8, w8 = wr := ⟨_, rfl⟩
      rw [← hw8] at H8 ⊢
      clear hw8 HI hi hlt hDL hnD
      have S8 : Hid (SvL ws m ns g gt w1.heap.size w2.heap.size w8 ∧ Ow w.heap.size 9 1 (.slice (some ⟨gw, 0, none⟩) nW (cw + 1)) nW (sk ws).toList w8 ∧ Ow w3.heap.size 9 1 (.slice (some ⟨gv, 0, none⟩) nW (cv + 1)) nW (sk ws).toList w8 ∧ Ow w4.heap.size 39 2 (.slice oa nA ca) (hts (ws.map tl) m D).length (hc (hts (ws.map tl) m D)) w8 ∧ Below w.heap.size w w8) := by
        have z := Z.out
        obtain ⟨q1, q2, q3, q4, q5, q6⟩ := S7.out
        have hb := H8.out.2
        refine ⟨q1.keep hb.size (fun j h1 h2 => hb.block j (by omega) (by omega) (by omega)), q2.keep hb.size (fun j h1 h2 => hb.block j h2 ?_ ?_), q4.keep hb.size (fun j h1 h2 => hb.block j h2 ?_ ?_), q5.keep hb.size (fun j h1 h2 => hb.block j h2 ?_ ?_), q6.trans ⟨hb.os, hb.tape, hb.output, hb.size, fun j hj => hb.block j (by omega) (by omega) (by omega)⟩⟩
        · have e : gw = j := Option.some.inj h1
          omega
        · have e : gw = j := Option.some.inj h1
          omega
        · have e : gv = j := Option.some.inj h1
          omega
        · have e : gv = j := Option.some.inj h1
          omega
        · have := (q5.blk j h1).1; omega
        · have := (q5.blk j h1).1; omega
      clear S7
      go_wp2_with fail
      go_loopw [12] (fun iv wr => ∃ j : Nat, iv = .int .i64 (j : Int) ∧ j ≤ nW ∧ Hid (Ow w3.heap.size 9 1 (.slice (some ⟨gv, 0, none⟩) nW (cv + 1)) nW (sk (trn ws j)).toList wr ∧ Ow w.heap.size 9 1 (.slice (some ⟨gw, 0, none⟩) nW (cw + 1)) nW (sk (trn ws j)).toList wr ∧ Bu2 gv gw w8 wr)) (fun iv _ => nW - (intOf iv).toNat)
      case atStart => exact ⟨0, rfl, by omega, by rw [trn_0]; exact S8.out.2.2.1, by rw [trn_0]; exact S8.out.2.1, Bu2.refl _ _ _⟩
      case round =>
        obtain ⟨j, rfl, hj, HJ⟩ := hrel
        have hnW := HN.out.2
        have hWL := HW0.out.2
        by_cases hlt : j < nW
        · obtain ⟨k, hk⟩ : ∃ k, k = nW - 1 - j := ⟨_, rfl⟩
          have e1 : IntKind.i64.wrap ((nW : Int) - 1) = ((nW - 1 : Nat) : Int) := by rw [IntKind.wrap_i64]; omega
          have e2 : IntKind.i64.wrap (((nW - 1 : Nat) : Int) - (j : Int)) = (k : Int) := by rw [IntKind.wrap_i64]; omega
          have hi0 : (0 : Int) ≤ (j : Int) := by omega
          have hi1 : (j : Int) < (nW : Int) := by omega
          have hk0 : (0 : Int) ≤ (k : Int) := by omega
          have hk1 : (k : Int) < (nW : Int) := by omega
          have z := Z.out
          have zb := HBL.out
          have z8 := H8.out.2.size
          have hBw : Below w.heap.size w wr := S8.out.2.2.2.2.trans ⟨HJ.out.2.2.os, HJ.out.2.2.tape, HJ.out.2.2.output, HJ.out.2.2.size, fun j hj => HJ.out.2.2.block j (by omega) (by omega) (by omega)⟩
          obtain ⟨s, hs⟩ : ∃ s, ws[k]? = some s := ⟨_, List.getElem?_eq_getElem (by omega)⟩
          have cd' := HUC.out wr hBw k s hs
          have hTl := trn_len ws j
          obtain ⟨s0, hs0⟩ : ∃ s, (trn ws j)[j]? = some s := ⟨_, List.getElem?_eq_getElem (by omega)⟩
          have cz := HJ.out.1.cell rfl j _ (sk_toList_get (trn ws j) j s0 hs0)
          have fz := HJ.out.1.frozen rfl j
          have hne : (⟨gv, j, none⟩ : Addr).block ≠ bu := by show gv ≠ bu; omega
          have cd2 : (wr.setCell ⟨gv, j, none⟩ (.string s)).cell? ⟨bu, fu + k, none⟩ = some (.string s) := (World.cell?_of_block (w := wr) (heap_setCell_other wr _ _ _ (by show bu ≠ gv; omega))).trans cd'
          have o2 : Ow w.heap.size 9 1 (.slice (some ⟨gw, 0, none⟩) nW (cw + 1)) nW (sk (trn ws j)).toList (wr.setCell ⟨gv, j, none⟩ (.string s)) := HJ.out.2.1.setO (by show some gw ≠ some gv; intro e; cases e; omega) _ _
          have cz2 := o2.cell rfl j _ (sk_toList_get (trn ws j) j s0 hs0)
          have fz2 := o2.frozen rfl j
          have HN2 : Hid (Ow w3.heap.size 9 1 (.slice (some ⟨gv, 0, none⟩) nW (cv + 1)) nW (sk (trn ws (j + 1))).toList ((wr.setCell ⟨gv, j, none⟩ (.string s)).setCell ⟨gw, j, none⟩ (.string s)) ∧ Ow w.heap.size 9 1 (.slice (some ⟨gw, 0, none⟩) nW (cw + 1)) nW (sk (trn ws (j + 1))).toList ((wr.setCell ⟨gv, j, none⟩ (.string s)).setCell ⟨gw, j, none⟩ (.string s)) ∧ Bu2 gv gw w8 ((wr.setCell ⟨gv, j, none⟩ (.string s)).setCell ⟨gw, j, none⟩ (.string s))) := by
            have e3 := trn_set ws j (by omega) s (by rw [← hnW, ← hk]; exact hs)
            refine ⟨?_, ?_, (HJ.out.2.2.set1 _ _).set2 _ _⟩
            · have := (HJ.out.1.set (g := gv) rfl j (.string s)).setO (g := gw) (by show some gv ≠ some gw; intro e; cases e; omega) j (.string s)
              rw [sk_toList_set, e3] at this
              exact this
            · have := o2.set (g := gw) rfl j (.string s)
              rw [sk_toList_set, e3] at this
              exact this
          have hbn : nW ≤ 4096 := by omega
          clear HJ hBw hTl hk hWL hnW hs hs0 o2 z zb z8 hne
          go_wp2
          go_roundw
          case rel => exact ⟨j + 1, by simp, by omega, HN2.out⟩
          case measure => simp [intOf]; omega
        · have hin : j = nW := by omega
          subst hin
          have HA : Hid (Anw ws m ns g gt D (.slice (some ⟨bu, fu, none⟩) j cu) (.slice (some ⟨bd, fd, none⟩) i cd) (.slice (some ⟨gw, 0, none⟩) j (cw + 1)) (.slice (some ⟨gx, 0, none⟩) i (cx + 1)) (.slice (some ⟨gv, 0, none⟩) j (cv + 1)) (.slice oa nA ca) w wr) := by
            have z := Z.out
            have z8 := H8.out.2.size
            have zr := HJ.out.2.2.size
            have hb := HJ.out.2.2
            obtain ⟨q1, q2, q3, q4, q5⟩ := S8.out
            have hBw : Below w.heap.size w wr := q5.trans ⟨hb.os, hb.tape, hb.output, hb.size, fun j hj => hb.block j (by omega) (by omega) (by omega)⟩
            have t1 := HJ.out.1
            have t2 := HJ.out.2.1
            have hjl : j = ws.length := hnW
            have hil : i = D.length := HN.out.1
            rw [hjl, trn_end, ← hjl] at t1 t2
            refine ⟨⟨_, _, q1.keep hb.size (fun k h1 h2 => hb.block k (by omega) (by omega) (by omega))⟩, ?_, ?_, ow_st (B := w.heap.size) ?_, ow_si (B := w2.heap.size) ?_, ow_st (B := w3.heap.size) ?_, ow_hl (q4.keep hb.size (fun k h1 h2 => hb.block k h2 ?_ ?_)), hBw⟩
            · rw [hjl]; exact HUD.out.1.below hBw
            · rw [hil]; exact HUD.out.2.below hBw
            · rw [List.length_reverse, ← hjl]; exact t2
            · rw [List.length_reverse, ← hil]
              exact H8.out.1.keep hb.size (fun k h1 h2 => hb.block k h2 (by have e : gx = k := Option.some.inj h1; omega) (by have e : gx = k := Option.some.inj h1; omega))
            · rw [List.length_reverse, ← hjl]; exact t1
            · have := (q4.blk k h1).1; omega
            · have := (q4.blk k h1).1; omega
          obtain ⟨w9, hw9⟩ : ∃ w9, w9 = wr := ⟨_, rfl⟩
          rw [← hw9] at HA ⊢
          clear hw9 HJ hj hlt S8 H8 Z hWL hnW HUC HDC HBL HUD
          obtain ⟨y, w10, r10, o10, b10⟩ := run_cpY w9 23 _ D.reverse (by have := HDL.out; simp; omega) HA.out.x
          have A10 : Hid _ := HA.out.below b10
          obtain ⟨Bk, Kk, s10⟩ := A10.out.sv
          have C11 : Hid _ := scan_f HP.out s10 D.reverse (byt_rev HDB.out) (by have := HDL.out; simp; omega) _ A10.out.x
          have O10 : Hid (Ow w9.heap.size 5 1 y D.reverse.length (ik .u8 D.reverse).toList w10) := o10
          clear s10 o10 b10 HA
          go_wp2_with fail
          refine Calls.mono C11.out ?_
          rintro e w11 ⟨b, rfl, H11⟩
          clear C11 r10
          have A11 : Hid _ := A10.out.below H11.out.2
          obtain ⟨Bk1, Kk1, s11⟩ := A11.out.sv
          have C12 : Hid _ := rewrite_f HP.out s11 ws.reverse (by simp) (all_rev HP.out) D.reverse (byt_rev HDB.out) (by have := HDL.out; simp; omega) _ _ A11.out.tov A11.out.x
          clear s11
          obtain ⟨R, hR⟩ : ∃ R, R = rwA m ws.reverse D.reverse (hts (ws.map tl) m D.reverse) := ⟨_, rfl⟩
          have HR : Hid (R = rwA m ws.reverse D.reverse (hts (ws.map tl) m D.reverse)) := hR
          rw [← hR] at C12
          clear hR
          obtain ⟨R1, R2, R3⟩ := R
          go_wp2_with fail
          refine Calls.mono C12.out ?_
          rintro e w12 ⟨p, rfl, H12⟩
          clear C12
          have A12 : Hid _ := A11.out.below H12.out.2.2
          obtain ⟨cp, w13, r13, o13, b13⟩ := run_cpX w12 22 _ ws.reverse (by have := HW0.out.2; simp; omega) A12.out.tov
          have A13 : Hid _ := A12.out.below b13
          obtain ⟨Bk2, Kk2, s13⟩ := A13.out.sv
          have oy13 : Ow w9.heap.size 5 1 y D.reverse.length (ik .u8 D.reverse).toList w13 := ((O10.out.bel H11.out.2).bel H12.out.2.2).bel b13
          have C14 : Hid _ := rewrite_f HP.out s13 ws.reverse (by simp) (all_rev HP.out) D.reverse (byt_rev HDB.out) (by have := HDL.out; simp; omega) cp y (ow_st o13) (ow_si oy13)
          rw [← HR.out] at C14
          have L13 : Hid (Ow w9.heap.size 5 1 y D.reverse.length (ik .u8 D.reverse).toList w13 ∧ Ow w10.heap.size 39 2 b (hts (ws.map tl) m D.reverse).length (hc (hts (ws.map tl) m D.reverse)) w13 ∧ Ow w11.heap.size 5 1 p R3.length (ik .u8 R3).toList w13) := ⟨oy13, (H11.out.1.bel H12.out.2.2).bel b13, H12.out.1.bel b13⟩
          clear s13 o13 b13 oy13 O10 H11 H12 A10 A11 A12
          go_wp2_with fail
          refine Calls.mono C14.out ?_
          rintro e w14 ⟨q, rfl, H14⟩
          clear C14 r13
          have A14 : Hid _ := A13.out.below H14.out.2.2
          have C15 : Hid _ := new_f (pt_rev HP.out) (nd_rev HND.out) _ w14 A14.out.own
          have L14 : Hid (Ow w9.heap.size 5 1 y D.reverse.length (ik .u8 D.reverse).toList w14 ∧ Ow w10.heap.size 39 2 b (hts (ws.map tl) m D.reverse).length (hc (hts (ws.map tl) m D.reverse)) w14 ∧ Ow w11.heap.size 5 1 p R3.length (ik .u8 R3).toList w14 ∧ Ow w13.heap.size 5 1 q R3.length (ik .u8 R3).toList w14) := ⟨L13.out.1.bel H14.out.2.2, L13.out.2.1.bel H14.out.2.2, L13.out.2.2.bel H14.out.2.2, H14.out.1⟩
          clear L13 A13 H14
          go_wp2_with fail
          refine Calls.mono C15.out ?_
          rintro e w15 ⟨ns2, g2, gt2, rfl, H15⟩
          clear C15
          have C16 : Hid _ := len_f (pt_rev HP.out) H15.out.1
          rw [List.length_reverse, ← HN.out.2] at C16
          go_wp2_with fail
          refine Calls.mono C16.out ?_
          rintro e w15' ⟨rfl, hw15⟩
          subst hw15
          clear C16
          have A15 : Hid _ := A14.out.below H15.out.2
          have C17 : Hid _ := scan_f (pt_rev HP.out) H15.out.1 D HDB.out (by have := HDL.out; omega) _ A15.out.d
          go_wp2_with fail
          refine Calls.mono C17.out ?_
          rintro e w16 ⟨c, rfl, H17⟩
          clear C17
          have A16 : Hid _ := A15.out.below H17.out.2
          have b146 : Below w14.heap.size w14 w16 := H15.out.2.trans (H17.out.2.mono H15.out.2.size)
          have L16 : Hid (Ow w9.heap.size 5 1 y D.reverse.length (ik .u8 D.reverse).toList w16 ∧ Ow w10.heap.size 39 2 b (hts (ws.map tl) m D.reverse).length (hc (hts (ws.map tl) m D.reverse)) w16 ∧ Ow w11.heap.size 5 1 p R3.length (ik .u8 R3).toList w16 ∧ Ow w13.heap.size 5 1 q R3.length (ik .u8 R3).toList w16) := ⟨L14.out.1.bel b146, L14.out.2.1.bel b146, L14.out.2.2.1.bel b146, L14.out.2.2.2.bel b146⟩
          have HCC : Hid (Ow w15'.heap.size 39 2 c nA (hc ((hts (ws.map tl) m D).map (rvH j))) w16) := by
            have h1 := H17.out.1
            have e1 := hts_rev HND.out m D
            rw [List.length_map, ← HN.out.2, ← List.map_reverse] at e1
            rw [e1, List.length_map, ← HNA.out] at h1
            exact h1
          obtain ⟨oc, cc, hcv, -, -, hcf⟩ := HCC.out.form
          subst hcv
          have HCF : Hid (∀ k, k < nA → ∃ g, oc = some ⟨g, 0, none⟩ ∧ bk (.slice oc nA cc) = some g) := hcf
          clear b146 hcf H15 H17 A14 A15 L14
          go_wp2_with fail
          go_loopw [23] (fun iv wr => ∃ k : Nat, iv = .int .i64 (k : Int) ∧ k ≤ nA ∧ Hid (Below w16.heap.size w16 wr)) (fun iv _ => nA - (intOf iv).toNat)
          case atStart => exact ⟨0, rfl, by omega, Below.refl _ _⟩
          case round =>
            obtain ⟨k, rfl, hk, HB⟩ := hrel
            by_cases hlt : k < nA
            · obtain ⟨gc, rfl, hbk⟩ := HCF.out k hlt
              obtain ⟨x1, x2, hx⟩ : ∃ x1 x2, (hts (ws.map tl) m D).getD k (0, 0) = (x1, x2) := ⟨_, _, rfl⟩
              have hkl : k < (hts (ws.map tl) m D).length := by rw [← HNA.out]; exact hlt
              obtain ⟨ba, fa, rfl, ha1, ha2⟩ : ∃ b off, oa = some ⟨b, off, none⟩ ∧ wr.cell? ⟨b, off + k * 2, none⟩ = some (.int .i64 x1) ∧ wr.cell? ⟨b, off + k * 2 + 1, none⟩ = some (.int .i64 x2) := by
                rcases (A16.out.below HB.out).a with ⟨_, h⟩ | ⟨b, off, cap, h1, _, _, _, h5⟩
                · rw [h] at hkl; simp at hkl
                · injection h1 with h1 _ _
                  have := h5 k hkl
                  rw [hx] at this
                  exact ⟨b, off, h1, this⟩
              have hg := hc_get ((hts (ws.map tl) m D).map (rvH j)) k (by rw [List.length_map]; exact hkl)
              have hgd : ((hts (ws.map tl) m D).map (rvH j)).getD k (0, 0) = (x1, (j : Int) - 1 - x2) := by
                have : (hts (ws.map tl) m D)[k] = (x1, x2) := by rw [← hx]; simp [List.getD, hkl]
                simp [List.getD, hkl, this, rvH]
              rw [hgd] at hg
              have oc16 := HCC.out.bel HB.out
              have hc1 := oc16.cell hbk _ _ hg.1
              have hc2 := oc16.cell hbk _ _ hg.2
              obtain ⟨i2, k2, hi2, _, hk2, _⟩ := hts_get (ws.map tl) m D k hkl
              rw [hx] at hi2
              cases hi2
              rw [List.length_map, ← HN.out.2] at hk2
              have hjL := HW0.out.2
              rw [← HN.out.2] at hjL
              have e1 : IntKind.i64.wrap ((j : Int) - 1) = (j : Int) - 1 := by rw [IntKind.wrap_i64]; omega
              have e2 : IntKind.i64.wrap ((j : Int) - 1 - (k2 : Int)) = (j : Int) - 1 - (k2 : Int) := by rw [IntKind.wrap_i64]; omega
              have hk0 : (0 : Int) ≤ (k : Int) := by omega
              have hk1 : (k : Int) < (nA : Int) := by omega
              have hnb : nA ≤ 536870912 := by
                rw [HNA.out]
                have h1 := hts_len (ws.map tl) m D HP.out.m0
                have h2 := HDL.out
                omega
              clear hx hkl hg hgd oc16 hbk hk2 hjL
              go_wp2
              go_quiet (fail)
              go_wp2
              go_roundw
              case rel => exact ⟨k + 1, by simp, by omega, Below.drewN' HB.out _⟩
              case measure => simp [intOf]; omega
            · have hkn : k = nA := by omega
              subst hkn
              have A17 : Hid _ := A16.out.below HB.out
              obtain ⟨Bq, Kq, s17⟩ := A17.out.sv
              have C18 : Hid _ := scan_f HP.out s17 D HDB.out (by have := HDL.out; omega) _ A17.out.d
              have L17 : Hid (Ow w9.heap.size 5 1 y D.reverse.length (ik .u8 D.reverse).toList wr ∧ Ow w10.heap.size 39 2 b (hts (ws.map tl) m D.reverse).length (hc (hts (ws.map tl) m D.reverse)) wr ∧ Ow w11.heap.size 5 1 p R3.length (ik .u8 R3).toList wr ∧ Ow w13.heap.size 5 1 q R3.length (ik .u8 R3).toList wr) := ⟨L16.out.1.bel HB.out, L16.out.2.1.bel HB.out, L16.out.2.2.1.bel HB.out, L16.out.2.2.2.bel HB.out⟩
              clear s17 hk hlt HB A16 L16 HCC HCF HNA
              go_wp2_with fail
              refine Calls.mono C18.out ?_
              rintro e w18 ⟨c18, rfl, H18⟩
              clear C18
              have A18 : Hid _ := A17.out.below H18.out.2
              have s19 := same_gen _ _ c18 _ w18 (ow_hl H18.out.1) A18.out.a
              simp only [decide_true] at s19
              have S19 : Hid _ := s19
              have B18 : Hid (Below wr.heap.size wr w18) := H18.out.2
              clear s19 H18 A17
              go_wp2_with fail
              refine Calls.mono S19.out ?_
              rintro e w19 ⟨rfl, b19⟩
              have A19 : Hid _ := A18.out.below b19
              obtain ⟨Bq2, Kq2, s19⟩ := A19.out.sv
              have b79 : Below wr.heap.size wr w19 := B18.out.trans (b19.mono B18.out.size)
              have C20 : Hid _ := scan_f HP.out s19 D.reverse (byt_rev HDB.out) (by have := HDL.out; simp; omega) y (ow_si (L17.out.1.bel b79))
              have B19 : Hid _ := b79
              clear S19 s19 b19 b79 A18 B18
              go_wp2_with fail
              refine Calls.mono C20.out ?_
              rintro e w20 ⟨c20, rfl, H20⟩
              clear C20
              have b70 : Below wr.heap.size wr w20 := B19.out.trans (H20.out.2.mono B19.out.size)
              have s21 := same_gen _ _ b c20 w20 (ow_hl (L17.out.2.1.bel b70)) (ow_hl H20.out.1)
              simp only [decide_true] at s21
              have S21 : Hid _ := s21
              have A20 : Hid _ := A19.out.below H20.out.2
              have B20 : Hid _ := b70
              clear s21 H20 A19 B19 b70
              go_wp2_with fail
              refine Calls.mono S21.out ?_
              rintro e w21 ⟨rfl, b21⟩
              have b71 : Below wr.heap.size wr w21 := B20.out.trans (b21.mono B20.out.size)
              have cp1 := conv_si (ow_si (L17.out.2.2.1.bel b71))
              have cq1 := conv_si (ow_si (L17.out.2.2.2.bel b71))
              have HE : Hid _ := (A20.out.below b21).bl
              clear S21 b21 b71 L17 A20 B20
              go_wp2
              go_ret
              exact ⟨rfl, HE.out⟩
end Go.Proofs.Ytceaklefdahfkab
