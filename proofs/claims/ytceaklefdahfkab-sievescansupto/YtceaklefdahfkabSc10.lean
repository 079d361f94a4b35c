/- SieveScans: the walk. -/
import Derived.Test.YtceaklefdahfkabSc9
import Derived.Deep.MidRow
namespace Go.Proofs.Ytceaklefdahfkab
open Go.RowKit
theorem But.below {g A : Nat} {W W' : World} (h : But g W W') (hA : A ≤ g) (hz : A ≤ W.heap.size) : Below A W W' := ⟨h.os, h.tape, h.output, h.size, fun k hk => h.block k (by omega) (by omega)⟩
def stH (a v : Value) : Sem Unit := Instr.storeAt 39 a v
theorem toStH (a v : Value) : Instr.storeAt 39 a v = stH a v := rfl
theorem run_stH (W : World) (bx o : Nat) (cur : Array Value) (h : W.heap[bx]? = some (.cells cur 39 (0, 0))) (ho : o + 2 ≤ cur.size) (x y : Int) : (stH (.pointer (some ⟨bx, o, none⟩)) (.agg #[.int .i64 x, .int .i64 y])).run Try.prog W = .ok () ((W.setCell ⟨bx, o, none⟩ (.int .i64 x)).setCell ⟨bx, o + 1, none⟩ (.int .i64 y)) := by
  unfold stH
  exact run_storeAt_mid (P := Try.prog) W bx o 39 #[.int .i64 x, .int .i64 y] (fun j hj => by
    have hj2 : j < 2 := hj
    refine ⟨?_, frozen_of_row W _ _ _ _ h⟩
    rw [cell_of_row W _ _ _ _ _ h, Array.getElem?_eq_getElem (by omega)]
    rfl) (by kernel_rfl) (by simp [Value.oneCell'])
attribute [local go_sem ↓] toSlB toStH
set_option maxRecDepth 100000 in
set_option maxHeartbeats 3200000 in
theorem scans_any (l : List ByteArray) (hl : l.length ≤ 1073741824) (hz : ∀ s ∈ l, s.size ≤ 1073741824) (d ls : List Nat) (hd : d.length ≤ 16777216) (hdb : Byt d) (hll : ls.length ≤ 16777216) (hlb : Byt ls) (v0 v1 v2 : Value) (w : World) (h0 : St v0 l w) (h1 : Si .u8 v1 d w) (h2 : Si .u8 v2 ls w) :
    Calls Try.prog 5 #[v0, v1, v2] w fun e w' => e = .returned (.bool true) ∧ Below w.heap.size w w' := by
  have CM : Hid _ := made_any l hl hz v0 w h0
  have HV1 : Hid (Si .u8 v1 d w) := h1
  have HV2 : Hid (Si .u8 v2 ls w) := h2
  obtain ⟨o0, c0, rfl, _⟩ := h0.form
  obtain ⟨o1, c1, rfl, _⟩ := h1.form
  obtain ⟨o2, c2, rfl, _⟩ := h2.form
  have HDB : Hid (Byt d) := hdb
  have HLB : Hid (Byt ls) := hlb
  clear h0 h1 h2 hz hdb hlb
  go_enter Try.func5, Try.ntmps5
  go_wp2_with fail
  refine Calls.mono CM.out ?_
  rintro e w1 ⟨p, q, rfl, hbo, hb1, hz1⟩
  clear CM
  have CS : Hid _ := scanners w.heap.size hz1 hbo
  have HB1 : Hid (Below w.heap.size w w1) := hb1
  clear hbo hb1 hz1
  go_wp2_with fail
  refine Calls.mono CS.out ?_
  rintro e w2 ⟨c, rfl, hb2, hcs⟩
  have CD : Hid _ := hcs
  clear hb2 hcs CS
  go_wp2_with fail
  refine Calls.mono CD.out ?_
  rintro e w3 ⟨dd, rfl, hb3, hcase, gs, gd, SC, SR, H2, HD, NN, hS, hSC, hSR⟩
  have HB3 : Hid (Below w.heap.size w w3) := HB1.out.trans (hb3.mono HB1.out.size)
  have HS : Hid _ := hS
  have HSC : Hid (SC [] w3) := hSC
  have HSR : Hid (SR [] none w3) := hSR
  have CC : Hid _ := cuts_any d ls (by omega) (by omega) HLB.out _ _ w w3 HB3.out HV1.out HV2.out
  clear hS hSC hSR hb3 CD HB1
  rcases hcase with ⟨rfl, rfl⟩ | ⟨a, b, rfl, rfl⟩
  all_goals
    go_wp2_with fail
    refine Calls.mono CC.out ?_
    rintro e w4 ⟨vL, vs, P, rfl, hoL, hP, hPl, hPf, hb4⟩
    clear CC
    obtain ⟨bL, capL, cur, rfl, hbL, hrL, hcs, htk⟩ := own_row hoL (by omega)
    have HL : Hid (∀ j, j < P.length → ∃ o c, w4.cell? ⟨bL, j, none⟩ = some (.slice o (P.getD j []).length c) ∧ Si .u8 (.slice o (P.getD j []).length c) (P.getD j []) w) := fun j hj => by
      obtain ⟨o, c, q1, q2⟩ := hP.2 j hj
      refine ⟨o, c, ?_, q2⟩
      rw [cell_of_row w4 _ _ _ _ _ hrL, ← q1, ← htk, Nat.mul_one, List.getElem?_take, if_pos hj, Array.getElem?_toList]
    have bLz : bL < w4.heap.size := (Array.getElem?_eq_some_iff.1 hrL).1
    have HY : Hid (∀ i, i < P.length → (P.take (i + 1)).flatten = (P.take i).flatten ++ P.getD i []) := fun i hi => by
      rw [List.take_succ_eq_append_getElem hi, List.flatten_append]
      simp [List.getD, hi]
    have HYB : Hid (∀ i, Byt (P.take i).flatten ∧ (P.take i).flatten.length ≤ d.length) := fun i => by
      have e : d = (P.take i).flatten ++ (P.drop i).flatten := by rw [← List.flatten_append, List.take_append_drop]; exact hPf.symm
      refine ⟨fun x hx => HDB.out x (by rw [e]; exact List.mem_append_left _ hx), ?_⟩
      rw [e, List.length_append]; omega
    have HPB : Hid (∀ i, i < P.length → Byt (P.getD i []) ∧ (P.getD i []).length ≤ d.length) := fun i hi => by
      have h1 := HYB.out (i + 1)
      rw [HY.out i hi] at h1
      refine ⟨fun x hx => h1.1 x (List.mem_append_right _ hx), ?_⟩
      have := h1.2
      rw [List.length_append] at this
      omega
    have HB34 : Hid (Below w3.heap.size w3 w4) := hb4
    have HB4 : Hid (Below w.heap.size w w4) := HB3.out.trans (hb4.mono HB3.out.size)
    have HI4 : Hid (∃ b, SC (P.take 0).flatten w4 ∧ SR (P.take 0).flatten b w4 ∧ (∀ k, b = some k → w3.heap.size ≤ k ∧ k < w4.heap.size)) :=
      ⟨none, HS.out.kc _ _ _ HSC.out hb4.size (fun j hj => hb4.block j hj), HS.out.kr _ _ _ _ HSR.out hb4.size (fun j hj => by rcases hj with hj | hj; exact hb4.block j hj; cases hj), fun k hk => by cases hk⟩
    have hPz : P.length ≤ 16777217 := by omega
    clear hoL hP hPf hb4 hrL hcs htk HSC HSR HV1 HV2
    go_wp2_with fail
    go_loopw [13] (fun iv wr => ∃ i : Nat, iv = .int .i64 (i : Int) ∧ i ≤ P.length ∧ Hid (∃ b, SC (P.take i).flatten wr ∧ SR (P.take i).flatten b wr ∧ (∀ k, b = some k → w3.heap.size ≤ k ∧ k < wr.heap.size)) ∧ Hid (wr.heap[bL]? = w4.heap[bL]?) ∧ Hid (Below w.heap.size w wr) ∧ Hid (bL < wr.heap.size)) (fun iv _ => P.length - (intOf iv).toNat)
    case atStart => exact ⟨0, rfl, by omega, HI4, rfl, HB4, bLz⟩
    case round =>
      clear HI4 HB4
      obtain ⟨i, rfl, hi, HI, HBL, HB, HBZ⟩ := hrel
      by_cases hlt : i < P.length
      · have hi0 : (0 : Int) ≤ (i : Int) := by omega
        have hi1 : (i : Int) < (P.length : Int) := by omega
        obtain ⟨op, cp, hcell, hsi⟩ := HL.out i hlt
        obtain ⟨X, hX⟩ : ∃ X, X = P.getD i [] := ⟨_, rfl⟩
        obtain ⟨Y, hY⟩ : ∃ Y, Y = (P.take i).flatten := ⟨_, rfl⟩
        have hYX := HY.out i hlt
        have hXB := HPB.out i hlt
        have hYB := HYB.out i
        rw [← hX] at hcell hsi hYX hXB
        rw [← hY] at hYX hYB HI
        have kL : ∀ W : World, W.heap[bL]? = w4.heap[bL]? → W.cell? ⟨bL, i, none⟩ = some (.slice op X.length cp) := fun W hW => (World.cell?_of_block (w := w4) hW).trans hcell
        have k1 := kL wr HBL.out
        have HKL : Hid _ := kL
        obtain ⟨b, hSC, hSR, hbk⟩ := HI.out
        have hsw : Si .u8 (.slice op X.length cp) X wr := hsi.below HB.out
        have CR : Hid _ := roomy_row X (by omega) _ wr hsw
        have HSI : Hid (Si .u8 (.slice op X.length cp) X w) := hsi
        have HXB : Hid (Byt X) := hXB.1
        have HYBy : Hid (Byt Y) := hYB.1
        have hXl := hXB.2
        have hYl := hYB.2
        have HSCi : Hid (SC Y wr) := hSC
        have HSRi : Hid (SR Y b wr) := hSR
        have HBK : Hid _ := hbk
        have HYX : Hid ((P.take (i + 1)).flatten = Y ++ X) := hYX
        clear hsw hsi hcell hSC hSR hbk hYX hX hY hXB hYB kL HI
        go_wp2_with fail
        refine Calls.mono CR.out ?_
        rintro e w5 ⟨u, rfl, hu5, hb5⟩
        clear CR
        obtain ⟨bf, cf, cur5, rfl, hbf, hr5, hc5, _⟩ := own_row hu5 (by omega)
        have hs5 : Si .u8 (.slice (some ⟨bf, 0, none⟩) (X.length + 2) cf) (X ++ [90, 165]) w5 := own_si hu5 (by simp)
        have bfz : bf < w5.heap.size := (Array.getElem?_eq_some_iff.1 hr5).1
        have hzr : w3.heap.size < wr.heap.size := by have := HBZ.out; omega
        have hB5 : Below w.heap.size w w5 := HB.out.trans (hb5.mono HB.out.size)
        have hL5 : w5.heap[bL]? = w4.heap[bL]? := (hb5.block bL HBZ.out).trans HBL.out
        have k2 := HKL.out w5 hL5
        obtain ⟨o5, c5, hfo, hcf, _⟩ := hs5.form
        have hcf2 : X.length ≤ cf := by
          simp only [Value.slice.injEq] at hfo
          rw [List.length_append] at hcf
          omega
        have ct := run_cutH bf 0 (X.length + 2) cf X.length hcf2
        have CF : Hid _ := HS.out.fc Y X _ w5 (HS.out.kc _ _ _ HSCi.out hb5.size fun j hj => hb5.block j (by omega)) HXB.out (by omega) (by omega) hs5.cut
        have HSR5 : Hid (SR Y b w5) := HS.out.kr _ _ _ _ HSRi.out hb5.size fun j hj => by
          rcases hj with hj | hj
          · exact hb5.block j (by omega)
          · exact hb5.block j (HBK.out j hj).2
        have HS5 : Hid (Si .u8 (.slice (some ⟨bf, 0, none⟩) (X.length + 2) cf) (X ++ [90, 165]) w5) := hs5
        have HR5 : Hid (w5.heap[bf]? = some (.cells cur5 5 (0, 0)) ∧ (X.length + 2) * 1 ≤ cur5.size) := ⟨hr5, hc5⟩
        have HB5 : Hid (Below w.heap.size w w5) := hB5
        have HL5 : Hid (w5.heap[bL]? = w4.heap[bL]?) := hL5
        have HZ5 : Hid (wr.heap.size ≤ bf ∧ bf < w5.heap.size ∧ wr.heap.size ≤ w5.heap.size) := ⟨hbf, bfz, hb5.size⟩
        have HZR : Hid (w3.heap.size < wr.heap.size) := hzr
        obtain ⟨NF, hNF⟩ : ∃ NF, NF = X.length + 2 := ⟨_, rfl⟩
        have HNF : Hid (NF = X.length + 2) := hNF
        rw [← hNF] at ct HS5 ⊢
        clear hs5 hr5 hc5 hu5 hb5 hB5 hL5 hfo hcf hbf bfz hzr HSCi HSRi hNF
        go_wp2_with fail
        refine Calls.mono CF.out ?_
        rintro e w6 ⟨x, rfl, hx6, hSC6, hb6⟩
        clear CF
        have hA := HS.out.gs0
        have hA2 := HS.out.gs1
        have hA3 := HS.out.gd0
        have hA4 := HS.out.gd1
        have hz5 := HZ5.out
        have hzr := HZR.out
        have hzw := HB.out.size
        have hB6 : Below w.heap.size w w6 := HB5.out.trans (hb6.below hA (by omega))
        have hL6 : w6.heap[bL]? = w4.heap[bL]? := (hb6.block bL (by have := HBZ.out; omega) (by omega)).trans HL5.out
        have k3 := HKL.out w6 hL6
        have CFR : Hid _ := HS.out.fr Y b X _ w6 (HS.out.krc _ _ _ _ HSR5.out (fun k hk => ⟨by have := (HBK.out k hk).2; omega, by have := (HBK.out k hk).1; omega⟩) hb6) HYBy.out HXB.out (by omega) (by omega) (HSI.out.below hB6)
        obtain ⟨ox, cx, hxo, hxb, _⟩ := (hl_own hx6).1.form
        obtain ⟨NH, hNH⟩ : ∃ NH, NH = (H2 Y X).length := ⟨_, rfl⟩
        rw [← hNH] at hxo hxb
        subst hxo
        have hxb2 : NH ≤ 9223372036854775807 := hxb
        have HX6 : Hid (w6.ownsRow w5.heap.size 39 2 (.slice ox NH cx) NH (hc (H2 Y X))) := by rw [hNH]; rw [hNH] at hx6; exact hx6
        have HSC6 : Hid (SC (Y ++ X) w6) := hSC6
        have HS6 : Hid (Si .u8 (.slice (some ⟨bf, 0, none⟩) NF cf) (X ++ [90, 165]) w6) := HS5.out.keep hb6.size fun k hk hz => hb6.block k hz (by
          have : bf = k := by cases hk; rfl
          omega)
        have HR6 : Hid (w6.heap[bf]? = some (.cells cur5 5 (0, 0))) := (hb6.block bf (by omega) (by omega)).trans HR5.out.1
        have HB6 : Hid (Below w.heap.size w w6) := hB6
        have HL6 : Hid (w6.heap[bL]? = w4.heap[bL]?) := hL6
        have HZ6 : Hid (w5.heap.size ≤ w6.heap.size) := hb6.size
        clear hx6 hSC6 hb6 hB6 hL6 HS5 HB5 HL5 HSR5 hA hA2 hA3 hA4 hz5 hzr hzw k1 k2 ct hNH
        go_wp2_with fail
        refine Calls.mono CFR.out ?_
        rintro e w7 ⟨y2, b7, rfl, hy7, hSR7, hb7k, hb7⟩
        clear CFR
        have hA := HS.out.gs0
        have hA2 := HS.out.gs1
        have hA3 := HS.out.gd0
        have hA4 := HS.out.gd1
        have hz5 := HZ5.out
        have hz6 := HZ6.out
        have hzr := HZR.out
        have hzw := HB.out.size
        have hB7 : Below w.heap.size w w7 := HB6.out.trans (hb7.below hA3 (by have := HB6.out.size; omega))
        have hL7 : w7.heap[bL]? = w4.heap[bL]? := (hb7.block bL (by have := HBZ.out; omega) (by omega)).trans HL6.out
        have hSC7 : SC (Y ++ X) w7 := HS.out.kcd _ _ _ HSC6.out hb7
        have hX7 : w7.ownsRow w5.heap.size 39 2 (.slice ox NH cx) NH (hc (H2 Y X)) := own_keep2 HX6.out fun k hk => hb7.block k (HX6.out.lt k hk).2 (by have := (HX6.out.lt k hk).1; omega)
        have hS7 : Si .u8 (.slice (some ⟨bf, 0, none⟩) NF cf) (X ++ [90, 165]) w7 := HS6.out.keep hb7.size fun k hk hz => hb7.block k hz (by
          have : bf = k := by cases hk; rfl
          omega)
        have hR7 : w7.heap[bf]? = some (.cells cur5 5 (0, 0)) := (hb7.block bf (by omega) (by omega)).trans HR6.out
        obtain ⟨oy, cy, rfl, _⟩ := (hl_own hy7).1.form
        have CH : Hid _ := same_any (H2 Y X) _ _ w7 (hl_own hX7).1 (hl_own hy7).1
        have HSC7 : Hid (SC (Y ++ X) w7) := hSC7
        have HSR7 : Hid (SR (Y ++ X) b7 w7) := hSR7
        have HK7 : Hid (∀ k, b7 = some k → w6.heap.size ≤ k ∧ k < w7.heap.size) := hb7k
        have HX7 : Hid (w7.ownsRow w5.heap.size 39 2 (.slice ox NH cx) NH (hc (H2 Y X)) ∧ ∀ k, (Value.slice ox NH cx).ownBlock = some k → k < w6.heap.size) := ⟨hX7, fun k hk => (HX6.out.lt k hk).2⟩
        have HS7 : Hid (Si .u8 (.slice (some ⟨bf, 0, none⟩) NF cf) (X ++ [90, 165]) w7) := hS7
        have HR7 : Hid (w7.heap[bf]? = some (.cells cur5 5 (0, 0))) := hR7
        have HB7 : Hid (Below w.heap.size w w7) := hB7
        have HL7 : Hid (w7.heap[bL]? = w4.heap[bL]?) := hL7
        have HZ7 : Hid (w6.heap.size ≤ w7.heap.size) := hb7.size
        clear hy7 hSR7 hb7k hb7 hB7 hL7 hSC7 hX7 hS7 hR7 HSC6 HX6 HS6 HR6 HB6 HL6 hA hA2 hA3 hA4 hz5 hz6 hzr hzw k3
        generalize (H2 Y X).length = NY at *
        go_wp2_with fail
        refine Calls.mono CH.out ?_
        rintro e w8 ⟨rfl, hb8⟩
        clear CH
        have hz37 : w3.heap.size ≤ w7.heap.size := by have := HZ7.out; have := HZ6.out; have := HZ5.out; have := HZR.out; omega
        have hSC8 : SC (Y ++ X) w8 := HS.out.kc _ _ _ HSC7.out hb8.size fun j hj => hb8.block j (by omega)
        have hSR8 : SR (Y ++ X) b7 w8 := HS.out.kr _ _ _ _ HSR7.out hb8.size fun j hj => by
          rcases hj with hj | hj
          · exact hb8.block j (by omega)
          · exact hb8.block j (HK7.out j hj).2
        have hYXB : Byt (Y ++ X) := fun z hz => by
          rcases List.mem_append.1 hz with h | h
          · exact HYBy.out z h
          · exact HXB.out z h
        have C1 : Hid _ := HS.out.ac _ w8 hSC8
        have C2 : Hid _ := HS.out.ar _ _ w8 hSR8
        have C3 : Hid _ := HS.out.hC _ w8 hSC8
        have C4 : Hid _ := HS.out.hR _ _ w8 hSR8 hYXB
        have HB78 : Hid (Below w7.heap.size w7 w8) := hb8
        clear hSC8 hSR8 hYXB hz37 hb8
        go_wp2_with fail
        refine Calls.mono C1.out ?_
        rintro e w8 ⟨rfl, rfl⟩
        clear C1
        go_wp2_with fail
        refine Calls.mono C2.out ?_
        rintro e w8 ⟨rfl, rfl⟩
        clear C2
        go_wp2_with fail
        refine Calls.mono C3.out ?_
        rintro e w8 ⟨rfl, rfl⟩
        clear C3
        go_wp2_with fail
        refine Calls.mono C4.out ?_
        rintro e w9 ⟨rfl, hb9⟩
        clear C4
        have hB79 : Below w7.heap.size w7 w9 := HB78.out.trans (hb9.mono HB78.out.size)
        have k4 := HKL.out w9 ((hB79.block bL (by have := HBZ.out; have := HZ5.out; have := HZ6.out; have := HZ7.out; omega)).trans HL7.out)
        have CK : Hid _ := kept_any X (by omega) (.slice (some ⟨bf, 0, none⟩) NF cf) _ w9 (HS7.out.below hB79) (HSI.out.below (HB7.out.trans (hB79.mono HB7.out.size)))
        have HB79 : Hid (Below w7.heap.size w7 w9) := hB79
        clear hb9 hB79 HB78
        go_wp2_with fail
        refine Calls.mono CK.out ?_
        rintro e w10 ⟨rfl, hb10⟩
        clear CK
        have hz5 := HZ5.out
        have hz6 := HZ6.out
        have hz7 := HZ7.out
        have hzr := HZR.out
        have hzL := HBZ.out
        have hzw := HB.out.size
        have hB10 : Below w7.heap.size w7 w10 := HB79.out.trans (hb10.mono HB79.out.size)
        obtain ⟨R, hR⟩ : ∃ R : World → Prop, R = fun W => SC (Y ++ X) W ∧ SR (Y ++ X) b7 W ∧ w7.heap.size ≤ W.heap.size ∧ W.heap[bL]? = w4.heap[bL]? ∧ Below w.heap.size w W := ⟨_, rfl⟩
        have HR10 : Hid (R w10) := by
          rw [hR]
          exact ⟨HS.out.kc _ _ _ HSC7.out hB10.size fun j hj => hB10.block j (by omega), HS.out.kr _ _ _ _ HSR7.out hB10.size fun j hj => (by
            rcases hj with hj | hj
            · exact hB10.block j (by omega)
            · exact hB10.block j (HK7.out j hj).2), hB10.size, (hB10.block bL (by omega)).trans HL7.out, HB7.out.trans (hB10.mono HB7.out.size)⟩
        have HRK : Hid (∀ (W : World) (bk off : Nat) (u : Value), wr.heap.size ≤ bk → bk < w6.heap.size → R W → R (W.setCell ⟨bk, off, none⟩ u)) := fun W bk off u g1 g2 hh => by
          rw [hR] at hh ⊢
          obtain ⟨r1, r2, r3, r4, r5⟩ := hh
          have hsz : (W.setCell ⟨bk, off, none⟩ u).heap.size = W.heap.size := by simp [World.setCell]
          have hne : ∀ j, j ≠ bk → (W.setCell ⟨bk, off, none⟩ u).heap[j]? = W.heap[j]? := fun j hj => Below.heap_setCell _ _ _ _ hj
          refine ⟨HS.out.kc _ _ _ r1 (by omega) (fun j hj => hne j (by omega)), HS.out.kr _ _ _ _ r2 (by omega) (fun j hj => hne j ?_), by omega, (hne bL (by omega)).trans r4, r5.setCell (by show w.heap.size ≤ bk; omega) _⟩
          rcases hj with hj | hj
          · omega
          · have := HK7.out j hj; omega
        have HRE : Hid (∀ W, R W → (∃ b, SC (P.take (i + 1)).flatten W ∧ SR (P.take (i + 1)).flatten b W ∧ (∀ k, b = some k → w3.heap.size ≤ k ∧ k < W.heap.size)) ∧ W.heap[bL]? = w4.heap[bL]? ∧ Below w.heap.size w W ∧ bL < W.heap.size) := fun W hh => by
          rw [hR] at hh
          obtain ⟨r1, r2, r3, r4, r5⟩ := hh
          rw [HYX.out]
          exact ⟨⟨b7, r1, r2, fun k hk => by have := HK7.out k hk; omega⟩, r4, r5, by omega⟩
        have HXR : Hid (0 < NH → ∃ bx cur, ox = some ⟨bx, 0, none⟩ ∧ w5.heap.size ≤ bx ∧ bx < w6.heap.size ∧ w10.heap[bx]? = some (.cells cur 39 (0, 0)) ∧ NH * 2 ≤ cur.size) := fun h0 => by
          obtain ⟨bx, capx, cur, q1, q2, q3, q4, _⟩ := own_row HX7.out.1 h0
          simp only [Value.slice.injEq] at q1
          have q5 : bx < w6.heap.size := HX7.out.2 bx (by rw [q1.1]; rfl)
          exact ⟨bx, cur, q1.1, q2, q5, (hB10.block bx (by omega)).trans q3, q4⟩
        have HF10 : Hid (∃ cur : Array Value, w10.heap[bf]? = some (.cells cur 5 (0, 0)) ∧ NF ≤ cur.size) := ⟨cur5, (hB10.block bf (by omega)).trans HR7.out, by have := HR5.out.2; have := HNF.out; omega⟩
        clear hR hB10 hb10 HSC7 HSR7 HX7 HS7 HR7 HB7 HL7 HB79 HR5 k4 hz6 hz7 hzr hzL hzw
        have hbf0 := hz5.1
        have hbf1 : bf < w6.heap.size := by have := HZ6.out; omega
        have HNFB : Hid (NF ≤ 16777218) := by have := HNF.out; show _ ≤ _; omega
        have hnfb := HNFB.out
        clear hz5
        go_wp2_with fail
        go_loopw [17] (fun iv wq => ∃ k : Nat, iv = .int .i64 (k : Int) ∧ k ≤ NH ∧ Hid (0 < NH → ∃ bx cur, ox = some ⟨bx, 0, none⟩ ∧ w5.heap.size ≤ bx ∧ bx < w6.heap.size ∧ wq.heap[bx]? = some (.cells cur 39 (0, 0)) ∧ NH * 2 ≤ cur.size) ∧ Hid (∃ cur : Array Value, wq.heap[bf]? = some (.cells cur 5 (0, 0)) ∧ NF ≤ cur.size) ∧ Hid (R wq)) (fun iv _ => NH - (intOf iv).toNat)
        case atStart => exact ⟨0, rfl, by omega, HXR, HF10, HR10⟩
        case round =>
          clear HXR HF10 HR10
          obtain ⟨k, rfl, hk, HXR, HF, HRR⟩ := hrel
          by_cases hkl : k < NH
          · have hk0 : (0 : Int) ≤ (k : Int) := by omega
            have hk1 : (k : Int) < (NH : Int) := by omega
            obtain ⟨bx, cur, rfl, q2, q3, q4, q5⟩ := HXR.out (by omega)
            have st := run_stH wr bx (k * 2) cur q4 (by omega)
            have e7 : IntKind.i64.wrap (-1 - (i : Int)) = -1 - (i : Int) := wi _ (by unfold I64; omega)
            have hzz := HZ5.out
            have N1 : ∀ x y : Int, Hid (0 < NH → ∃ bx' cur, some (⟨bx, 0, none⟩ : Addr) = some ⟨bx', 0, none⟩ ∧ w5.heap.size ≤ bx' ∧ bx' < w6.heap.size ∧ ((wr.setCell ⟨bx, k * 2, none⟩ (.int .i64 x)).setCell ⟨bx, k * 2 + 1, none⟩ (.int .i64 y)).heap[bx']? = some (.cells cur 39 (0, 0)) ∧ NH * 2 ≤ cur.size) := fun x y _ =>
              ⟨bx, _, rfl, q2, q3, heap_setCell_same _ _ _ _ _ _ (heap_setCell_same _ _ _ _ _ _ q4), by simp; exact q5⟩
            have N2 : ∀ x y : Int, Hid (∃ cur : Array Value, ((wr.setCell ⟨bx, k * 2, none⟩ (.int .i64 x)).setCell ⟨bx, k * 2 + 1, none⟩ (.int .i64 y)).heap[bf]? = some (.cells cur 5 (0, 0)) ∧ NF ≤ cur.size) := fun x y => by
              obtain ⟨cf', z1, z2⟩ := HF.out
              exact ⟨cf', ((Below.heap_setCell _ _ _ _ (by show bf ≠ bx; omega)).trans (Below.heap_setCell _ _ _ _ (by show bf ≠ bx; omega))).trans z1, z2⟩
            have N3 : ∀ x y : Int, Hid (R ((wr.setCell ⟨bx, k * 2, none⟩ (.int .i64 x)).setCell ⟨bx, k * 2 + 1, none⟩ (.int .i64 y))) := fun x y => HRK.out _ _ _ _ (by omega) q3 (HRK.out _ _ _ _ (by omega) q3 HRR.out)
            clear q2 q3 q4 q5 HXR HF HRR hzz
            go_wp2
            exact ⟨⟨k + 1, by rfl, by omega, N1 _ _, N2 _ _, N3 _ _⟩, by simp only [intOf]; omega⟩
          · have hk1 : ¬ ((k : Int) < (NH : Int)) := by omega
            clear HXR
            go_wp2_with fail
            go_loopw [18] (fun iv wq => ∃ k : Nat, iv = .int .i64 (k : Int) ∧ k ≤ NF ∧ Hid (∃ cur : Array Value, wq.heap[bf]? = some (.cells cur 5 (0, 0)) ∧ NF ≤ cur.size) ∧ Hid (R wq)) (fun iv _ => NF - (intOf iv).toNat)
            case atStart => exact ⟨0, rfl, by omega, HF, HRR⟩
            case round =>
              clear HF HRR
              obtain ⟨k2, rfl, hk2, HF, HRR⟩ := hrel
              by_cases hkl2 : k2 < NF
              · have hk20 : (0 : Int) ≤ (k2 : Int) := by omega
                have hk21 : (k2 : Int) < (NF : Int) := by omega
                obtain ⟨cf', z1, z2⟩ := HF.out
                have c1 : ∃ u, wr.cell? ⟨bf, k2, none⟩ = some u := ⟨_, by rw [cell_of_row wr _ _ _ _ _ z1]; exact Array.getElem?_eq_getElem (by omega)⟩
                obtain ⟨u0, c1⟩ := c1
                have f1 : wr.frozen? ⟨bf, k2, none⟩ = false := frozen_of_row wr _ _ _ _ z1
                have N2 : ∀ u, Hid (∃ cur : Array Value, (wr.setCell ⟨bf, k2, none⟩ u).heap[bf]? = some (.cells cur 5 (0, 0)) ∧ NF ≤ cur.size) := fun u => ⟨_, heap_setCell_same _ _ _ _ _ _ z1, by simp; exact z2⟩
                have N3 : ∀ u, Hid (R (wr.setCell ⟨bf, k2, none⟩ u)) := fun u => HRK.out _ _ _ _ hbf0 hbf1 HRR.out
                clear z1 z2 HF HRR
                go_wp2
                exact ⟨⟨k2 + 1, by rfl, by omega, N2 _, N3 _⟩, by simp only [intOf]; omega⟩
              · have hk21 : ¬ ((k2 : Int) < (NF : Int)) := by omega
                obtain ⟨r1, r2, r3, r4⟩ := HRE.out wr HRR.out
                have G1 : Hid _ := r1
                have G2 : Hid _ := r2
                have G3 : Hid _ := r3
                have G4 : Hid _ := r4
                clear r1 r2 r3 r4 HF
                go_wp2
                exact ⟨⟨i + 1, by rfl, by omega, G1, G2, G3, G4⟩, by simp only [intOf]; omega⟩
      · have hi1 : ¬ ((i : Int) < (P.length : Int)) := by omega
        go_wp2
        go_ret
        exact ⟨rfl, HB.out⟩
end Go.Proofs.Ytceaklefdahfkab
