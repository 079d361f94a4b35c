/- SieveFinds: the walk. -/
import Derived.Test.YtceaklefdahfkaaFn5
import Derived.Test.YtceaklefdahfkaaSt14
import Derived.ArgAppend
import Derived.Deep.RegionHeld3
import Derived.Deep.RegionWith
import Derived.Deep.DrawnRows
namespace Go.Proofs.Ytceaklefdahfkaa
open Go.RowKit
/-- A text appended to texts with no room behind them. -/
theorem run_apA (w : World) (ty : Nat) (o : Option Addr) (c : Nat) (l : List ByteArray) (s : ByteArray) (h : St (.slice o l.length c) l w) (hl : l.length ≤ 1073741824) :
    ∃ v' w', (apS ty #[.slice o l.length l.length, .slice (some ⟨w.heap.size, 0, none⟩) 1 1]).run Try.prog (w.alloc (.cells #[.string s] 9)) = .ok v' w' ∧ St v' (l ++ [s]) w' ∧ Below w.heap.size w w' := by
  obtain ⟨i0, hi0, hz0, hz1, hz2⟩ := info_parts info9
  rcases h with ⟨h1, h2⟩ | ⟨b, off, cap, h1, h2, h3, h4, h5⟩
  · subst h2
    cases h1
    obtain ⟨v', w', r, ho, hg⟩ := run_apS w w.heap.size 0 ty (.slice none 0 0) [] s (World.ownsRow_nil _ _ _ _) (by omega) (Nat.le_refl _)
    refine ⟨v', w', r, own_st ho rfl, ⟨by rw [hg.os]; rfl, by rw [hg.tape]; rfl, by rw [hg.output]; rfl, by have := hg.size; simp at this; omega, fun j hj => ?_⟩⟩
    rw [hg.block j (by simp; omega) (fun e => by cases e), heap_alloc_old _ _ (h := hj)]
  · cases h1
    have holds : ∀ (j : Nat) (u : Value), (sk l).toList[j]? = some u → (w.alloc (.cells #[.string s] 9)).cell? ((⟨b, off, none⟩ : Addr).add j) = some u := fun j u hu => by
      have hj : j < l.length := by have := (List.getElem?_eq_some_iff.1 hu).1; simpa [sk] using this
      rw [Array.getElem?_toList, sk_get l j hj] at hu
      rw [← Option.some.inj hu, Go.WideShapes.add_plain]
      exact (World.cell?_of_block (w := w) (heap_alloc_old _ _ (h := h4))).trans (h5 j _ (txt_get hj))
    obtain ⟨v', w', r, ho, hg⟩ := run_append_arg_grows (P := Try.prog) (w := w.alloc (.cells #[.string s] 9)) 26 ty 9 i0 _ 1 16 Try.underlying26 hi0 hz0 hz1 hz2 rfl (by omega) ⟨b, off, none⟩ l.length l.length (sk l).toList (by simp [sk]) holds ⟨w.heap.size, 0, none⟩ 1 1 [.string s] rfl
      (World.news_of_block (cs := #[.string s]) (t := 9) (fr := (0, 0)) (heap_alloc_new w _)) (by omega) (by unfold maxLen; omega) (by omega)
    rw [← sk_snoc] at ho
    refine ⟨v', w', r, own_st ho (by simp), ⟨by rw [hg.os]; rfl, by rw [hg.tape]; rfl, by rw [hg.output]; rfl, by have := hg.size; simp at this; omega, fun j hj => ?_⟩⟩
    rw [hg.block j (by simp; omega) (fun e => by cases e), heap_alloc_old _ _ (h := hj)]
def ldH (v : Value) : Sem Value := Instr.loadAt 40 v
theorem toLdH (v : Value) : Instr.loadAt 40 v = ldH v := rfl
theorem size40 : (Try.prog.info? 40).map (·.size) = some 2 := by kernel_rfl
theorem run_ldH (w : World) (b o : Nat) (x y : Int) (h1 : w.cell? ⟨b, o, none⟩ = some (.int .i64 x)) (h2 : w.cell? ⟨b, o + 1, none⟩ = some (.int .i64 y)) : (ldH (.pointer (some ⟨b, o, none⟩))).run Try.prog w = .ok (.agg #[.int .i64 x, .int .i64 y]) w := by
  have h := run_loadCells_list (P := Try.prog) w ⟨b, o, none⟩ [.int .i64 x, .int .i64 y] (fun j u hj => by
    match j with
    | 0 => simp at hj; subst hj; exact h1
    | 1 => simp at hj; subst hj; exact h2
    | k + 2 => simp at hj)
  have hs := size40
  unfold ldH
  cases hq : Try.prog.info? 40 with
  | none => simp [hq] at hs
  | some i =>
    simp only [hq, Option.map_some, Option.some.injEq] at hs
    have hn : [Value.int .i64 x, Value.int .i64 y].length = 2 := rfl
    rw [hn] at h
    simp [Instr.loadAt, Instr.sureAddr, loadVar, Sem.run_bind, sizeOf, typeInfo, hq, hs, h]
theorem run_ld3 (w : World) (a : Addr) (x : Int) (h : w.cell? a = some (.int .i64 x)) : (Instr.loadAt 3 (.pointer (some a))).run Try.prog w = .ok (.int .i64 x) w := by
  simp [go_sem, h]
attribute [local go_sem ↓] toApS toApT Go.wp_at_zero Go.wp_at_succ
set_option maxRecDepth 100000 in
set_option maxHeartbeats 1600000 in
theorem finds_any (l0 : List ByteArray) (hl0 : l0.length ≤ 1048576) (z : Int) (d : List Nat) (hdl : d.length ≤ 1073741824) (hdb : Byt d) (at' : List Nat) (hal : at'.length ≤ 1073741824) (ha : ∀ j, at'.getD j 0 < 65536) (v0 v2 v3 : Value) (w : World) (h0 : St v0 l0 w) (h2 : Si .u8 v2 d w) (h3 : Si .u16 v3 at' w) :
    Calls Try.prog 4 #[v0, .int .i64 z, v2, v3] w fun e w' => e = .returned (.bool true) ∧ Below w.heap.size w w' := by
  obtain ⟨o, c, rfl, hc1, hc2, _⟩ := h0.form
  obtain ⟨v', w1, r1, hs1, hb1⟩ := run_apA w 26 o c l0 ⟨#[97, 98]⟩ h0 (by omega)
  have hl1 : (l0 ++ [(⟨#[97, 98]⟩ : ByteArray)]).length = l0.length + 1 := by simp
  have CW : Hid _ := words_any (l0 ++ [⟨#[97, 98]⟩]) (by rw [hl1]; omega) z v' w1 hs1
  generalize hL : l0 ++ [(⟨#[97, 98]⟩ : ByteArray)] = l1 at *
  have HB1 : Hid (Below w.heap.size w w1) := hb1
  have H2 : Hid (Si .u8 v2 d w1) := h2.below hb1
  have H3 : Hid (Si .u16 v3 at' w1) := h3.below hb1
  obtain ⟨n, hn⟩ : ∃ n, n = min 24 l1.length := ⟨_, rfl⟩
  rw [← hn] at CW
  have hn0 : 0 < n := by omega
  have hn24 : n ≤ 24 := by omega
  clear hL hn h0 h2 h3 hs1 hb1
  go_enter Try.func4, Try.ntmps4
  go_wp2_with fail
  refine Calls.mono CW.out ?_
  rintro e w2 ⟨m, u, rfl, hm2, hm17, ho2, hb2⟩
  clear CW
  obtain ⟨ws, hPt, hok, hnd, hwl, hst2⟩ : ∃ ws : List ByteArray, Pt ws m ∧ (∀ (e : Ending) (w' : World), NewP ws e w' → ∃ ns, NewOk ws ns ∧ ∃ g gt, e = .returned (.tuple #[.pointer (some ⟨g, 0, none⟩), .int .i64 0]) ∧ Sve g gt w' ∧ TabK w'.heap.size gt (ftT ((wdS ws ns).map tl) ns m) w') ∧ (ws.map tl).Nodup ∧ ws.length = n ∧ St u ws w2 :=
    ⟨wds l1 m n, wds_pt l1 m n hn0 hn24 hm2 hm17, wds_ok l1 m n hn0 hn24 hm2 hm17, wds_nodup l1 m n hn24 hm2, wds_len l1 m n, own_st ho2 (wds_len l1 m n).symm⟩
  have HB2 : Hid (Below w.heap.size w w2) := HB1.out.trans (hb2.mono HB1.out.size)
  obtain ⟨D, hDl, hDb, CP⟩ : ∃ D : List Nat, D.length = d.length ∧ Byt D ∧ Hid (Calls Try.prog 13 #[v2, u, v3] w2 fun e w' => ∃ g, e = .returned (.slice (some ⟨g, 0, none⟩) D.length D.length) ∧ w2.heap.size ≤ g ∧ w'.heap[g]? = some (.cells (ik .u8 D) 5 (0, 0)) ∧ Below w2.heap.size w2 w') :=
    ⟨pltD d ws at', pltD_len d ws at', pltD_byt d hdb ws at', by rw [pltD_len]; exact planted_any d hdl ws (by omega) (by omega) at' hal ha v2 u v3 w2 (H2.out.below hb2) hst2 (H3.out.below hb2)⟩
  rw [← hDl] at hdl
  have HU2 : Hid (St u ws w2) := hst2
  obtain ⟨ou, cu, rfl, _, _, _⟩ := hst2.form
  have hwl0 : 0 < ws.length := by omega
  have hwl24 : ws.length ≤ 24 := by omega
  have HPT : Hid _ := hPt
  have HOK : Hid _ := hok
  have HND : Hid _ := hnd
  have HDB : Hid _ := hDb
  clear H2 H3 HB1 ho2 hb2 hst2 hDl ha hdb hPt hok hnd hDb hwl hn0 hn24 hl1 hc1 hc2 r1
  go_wp2_with fail
  refine Calls.mono CP.out ?_
  rintro e w3 ⟨gd, rfl, hgd, hR3, hb3⟩
  clear CP
  have hS3 : St (.slice ou ws.length cu) ws w3 := HU2.out.below hb3
  have HB3 : Hid (Below w.heap.size w w3) := HB2.out.trans (hb3.mono HB2.out.size)
  have HR3 : Hid (w3.heap[gd]? = some (.cells (ik .u8 D) 5 (0, 0))) := hR3
  have CN : Hid _ := new_any ws (by omega) (fun s hs => by rw [HPT.out.sz s hs]; omega) (fun v w h => byText_any ws h v w) _ w3 hS3
  have HS3 : Hid (St (.slice ou ws.length cu) ws w3) := hS3
  clear hS3 hb3 hR3 hgd HB2 HU2
  go_wp2_with fail
  refine Calls.mono CN.out ?_
  rintro e w4 ⟨hP4, hb4⟩
  obtain ⟨ns, hok4, g, gt, rfl, hS4, hT4⟩ := HOK.out e w4 hP4
  clear CN hP4
  have HB4 : Hid (Below w.heap.size w w4) := HB3.out.trans (hb4.mono HB3.out.size)
  have HU4 : Hid (St (.slice ou ws.length cu) ws w4) := HS3.out.below hb4
  have gdz : gd < w3.heap.size := (Array.getElem?_eq_some_iff.1 HR3.out).1
  have HR4 : Hid (w4.heap[gd]? = some (.cells (ik .u8 D) 5 (0, 0))) := (hb4.block gd gdz).trans HR3.out
  have CL : Hid (Calls Try.prog 15 #[.pointer (some ⟨g, 0, none⟩)] w4 fun e w' => e = .returned (.int .i64 (ws.length : Int)) ∧ w' = w4) := by
    have h := len_any g gt _ w4 hS4 hT4.tab
    have e : (ftT ((wdS ws ns).map tl) ns m).values.length = ws.length := by
      show (lbS _ _).values.length = _
      rw [(lbS_same _ _).2.2.2.2]
      exact hok4.1.len
    rw [e] at h
    exact h
  have HSC : Hid (∀ (W : World) (pv : Value) (p : List Nat), Below w4.heap.size w4 W → Si .u8 pv p W → Byt p → p.length ≤ 1099511627776 → Calls Try.prog 16 #[.pointer (some ⟨g, 0, none⟩), pv] W fun e w' => ∃ v, e = .returned v ∧ Hl v (hts (ws.map tl) m p) w' ∧ Below W.heap.size W w') := fun W pv p hb hp hpb hpl => by
    have hS : Sve g gt W := (hb.block g (Array.getElem?_eq_some_iff.1 hS4).1).trans hS4
    have hT : TabK W.heap.size gt (ftT ((wdS ws ns).map tl) ns m) W := (hT4.mono hb.size).keep hb.size fun j _ hj => hb.block j hj
    exact (scan_hts ws m HPT.out ns hok4 g gt p hpb hpl pv W hS hT hp).mono fun e w' ⟨v, he, ho, hbb⟩ => ⟨v, he, (hl_own ho).1, hbb⟩
  clear hok4 hS4 hT4 hb4 HB3 HR3 HS3 gdz HOK
  go_wp2_with fail
  refine Calls.mono CL.out ?_
  rintro e w4 ⟨rfl, rfl⟩
  clear CL
  go_wp2_with fail
  obtain ⟨ou', cu', huo, _, _, huf⟩ := HU4.out.form
  cases huo
  obtain ⟨bu, offu, hou, hbu, hcu⟩ := huf hwl0
  subst hou
  obtain ⟨D4, hD4⟩ : ∃ D4, w4.drew = D4 := ⟨_, rfl⟩
  have B44 : Below w4.heap.size w4 D4 := by rw [← hD4]; exact Below.drewN' (Below.refl _ _) 1
  have z44 : D4.heap.size = w4.heap.size := by rw [← hD4]; rfl
  have c0 : D4.cell? ⟨bu, offu, none⟩ = some (.string (txt ws 0)) := by rw [← hD4]; exact hcu 0 _ (txt_get hwl0)
  have hSD : Si .u8 (.slice (some ⟨gd, 0, none⟩) D.length D.length) D w4 := .inr ⟨gd, 0, _, rfl, Nat.le_refl _, by unfold maxLen; omega, (Array.getElem?_eq_some_iff.1 HR4.out).1, fun j hj => by rw [Nat.zero_add]; exact (cell_of_row w4 _ _ _ _ _ HR4.out).trans (ik_get _ _ _ hj)⟩
  have CC : Hid (Calls Try.prog 17 #[.slice (some ⟨gd, 0, none⟩) D.length D.length] D4 fun e w' => e = .returned (.slice (some ⟨w4.heap.size, 0, none⟩) D.length D.length) ∧ w'.heap[w4.heap.size]? = some (.cells (ik .u8 D) 5 (0, 0)) ∧ Below w4.heap.size D4 w' ∧ w'.heap.size = w4.heap.size + 1) := by
    have := copied_any D (by omega) _ D4 (hSD.below B44)
    rw [z44] at this
    exact this
  have ADD : Hid (∀ w', w'.heap[w4.heap.size]? = some (.cells (ik .u8 D) 5 (0, 0)) → Below w4.heap.size D4 w' → ∃ pv WX, w'.cell? ⟨bu, offu, none⟩ = some (.string (txt ws 0)) ∧ (apT 27 #[.slice (some ⟨w4.heap.size, 0, none⟩) D.length D.length, .string (txt ws 0)]).run Try.prog w' = .ok pv WX ∧ Hid (Calls Try.prog 16 #[.pointer (some ⟨g, 0, none⟩), pv] WX fun e W => ∃ o' c' N, e = .returned (.slice o' N c') ∧ ¬ ((N : Int) = 0) ∧ Hid (Below w4.heap.size w4 W))) := fun w' hr hb => by
    have hsz : (txt ws 0).size = m := HPT.out.sz _ (List.mem_of_getElem? (txt_get hwl0))
    obtain ⟨pv, WX, r, hs, hbx⟩ := run_apT w' 27 w4.heap.size w4.heap.size D (txt ws 0) hr (Nat.le_refl _) (by omega)
    have hB : Below w4.heap.size w4 WX := (B44.trans hb).trans hbx
    refine ⟨pv, WX, (World.cell?_of_block (w := D4) (hb.block bu hbu)).trans c0, r, ?_⟩
    refine Calls.mono (HSC.out WX pv _ hB hs (fun x hx => ?_) ?_) ?_
    · rcases List.mem_append.1 hx with h | h
      · exact HDB.out x h
      · exact tl_byt _ x h
    · rw [List.length_append, tl_len]; omega
    · rintro e W ⟨v, he, hl, hbb⟩
      have hne := hts_ne (ws.map tl) m D (tl (txt ws 0)) (List.mem_map.2 ⟨_, List.mem_of_getElem? (txt_get hwl0), rfl⟩) (by rw [tl_len]; exact hsz)
      obtain ⟨o', c', rfl, _⟩ := hl.form
      exact ⟨o', c', _, he, by omega, hB.trans (hbb.mono hB.size)⟩
  have hwi : (0 : Int) < (ws.length : Int) := by omega
  clear B44 z44 hcu huf
  go_region_with (first | (go_at_call 17; refine Calls.mono CC.out ?_; rintro e w5 ⟨rfl, h5, b5, z5⟩; obtain ⟨pv, WX, k0, k1, k2⟩ := ADD.out w5 h5 b5; clear h5 b5 z5) | (go_at_call 16; refine Calls.mono k2.out ?_; rintro e W6 ⟨o6, c6, N6, rfl, hN6, HB6⟩))
  all_goals
    have CS2 : Hid (Calls Try.prog 16 #[.pointer (some ⟨g, 0, none⟩), .slice (some ⟨gd, 0, none⟩) D.length D.length] W6 fun e w' => ∃ (H : List (Int × Int)) (o7 : Option Addr) (c7 : Nat), e = .returned (.slice o7 H.length c7) ∧ Hid (H = hts (ws.map tl) m D) ∧ Hid (Hl (.slice o7 H.length c7) H w') ∧ Hid (Below w4.heap.size w4 w')) :=
      Calls.mono (HSC.out W6 _ D HB6.out (hSD.below HB6.out) HDB.out (by omega)) fun e w' ⟨v, he, hl, hb⟩ => by
        obtain ⟨o', c', rfl, _⟩ := hl.form
        exact ⟨_, o', c', he, rfl, hl, HB6.out.trans (hb.mono HB6.out.size)⟩
    have HSD : Hid (Si .u8 (.slice (some ⟨gd, 0, none⟩) D.length D.length) D w4) := hSD
    clear hSD HSC ADD CC HB6 k0 k1 k2 c0 hD4
    go_wp2_with fail
    refine Calls.mono CS2.out ?_
    rintro e w7 ⟨H, o7, c7, rfl, HH, HL7, HB7⟩
    clear CS2
    have hHl : H.length ≤ D.length := by rw [HH.out]; exact hts_len _ _ _ (by omega)
    go_wp2_with fail
    go_loopw [14, 15] (fun fv iv wr => ∃ (i : Nat) (f : Int), iv = .int .i64 (i : Int) ∧ i ≤ H.length ∧ fv = .int .i64 f ∧ Hid ((f = -1 ∧ (1 ≤ i → ov H (m : Int) = ovR H (m : Int) (H.length - i) i)) ∨ (0 ≤ f ∧ f = ov H (m : Int))) ∧ Hid (Below w4.heap.size w4 wr) ∧ Hid (Hl (.slice o7 H.length c7) H wr)) (fun _ iv _ => H.length - (intOf iv).toNat)
    case atStart => exact ⟨0, -1, rfl, by omega, rfl, .inl ⟨rfl, fun h => by omega⟩, HB7, HL7⟩
    case round =>
      clear HB7 HL7
      obtain ⟨i, f, rfl, hi, rfl, HF, HB, HL⟩ := hrel
      by_cases hlt : i < H.length
      · obtain ⟨o8, c8, ho8, _, hl8⟩ := HL.out.form
        cases ho8
        obtain ⟨b7, off7, ho7, hb7, hc7⟩ := hl8 (by omega)
        subst ho7
        obtain ⟨xi, ki, hx1, hx2, hx3, hx4⟩ := hts_get (ws.map tl) m D i (by rw [← HH.out]; exact hlt)
        rw [← HH.out] at hx1
        have hk3 : ki < ws.length := by simpa using hx3
        have hxk : txt ws ki = bst ((D.drop xi).take m) := by
          rw [← hx4]
          have e : (ws.map tl).getD ki [] = tl (txt ws ki) := by
            rw [txt_eq hk3]; simp [List.getD, hk3]
          rw [e]
          apply tl_inj
          rw [tl_bst _ (tl_byt _)]
        have hc := hc7 i hlt
        rw [hx1] at hc
        obtain ⟨D8, hD8⟩ : ∃ D8, wr.drew = D8 := ⟨_, rfl⟩
        have q1 : D8.cell? ⟨b7, off7 + i * 2, none⟩ = some (.int .i64 (xi : Int)) := by rw [← hD8]; exact hc.1
        have q2 : D8.cell? ⟨b7, off7 + i * 2 + 1, none⟩ = some (.int .i64 (ki : Int)) := by rw [← hD8]; exact hc.2
        have rl := run_ldH D8 b7 (off7 + i * 2) (xi : Int) (ki : Int) q1 q2
        have BD8 : Below w4.heap.size w4 D8 := by rw [← hD8]; exact Below.drewN' HB.out 1
        have hsz0 : (txt ws 0).size = m := HPT.out.sz _ (List.mem_of_getElem? (txt_get hwl0))
        have CT : Hid (Calls Try.prog 18 #[.slice (some ⟨gd, 0, none⟩) D.length D.length, .agg #[.int .i64 (xi : Int), .int .i64 (ki : Int)], .slice (some ⟨bu, offu, none⟩) ws.length cu] D8 fun e w' => e = .returned (.bool true) ∧ Below D8.heap.size D8 w') := stands_any D (by omega) ws (by omega) m xi ki (by omega) hx2 hk3 hsz0 hxk _ _ D8 (HSD.out.below BD8) (HU4.out.below BD8)
        have hi0 : (0 : Int) ≤ (i : Int) := by omega
        have hi1 : (i : Int) < (H.length : Int) := by omega
        have hbz : b7 < w4.heap.size ∨ w4.heap.size ≤ b7 := by omega
        have SD : Below w4.heap.size w4 D8 ∧ Hl (.slice (some ⟨b7, off7, none⟩) H.length c7) H D8 := ⟨BD8, by rw [← hD8]; exact HL.out⟩
        have hSt : Hid (∀ W, (Below w4.heap.size w4 W ∧ Hl (.slice (some ⟨b7, off7, none⟩) H.length c7) H W) → Calls Try.prog 18 #[.slice (some ⟨gd, 0, none⟩) D.length D.length, .agg #[.int .i64 (xi : Int), .int .i64 (ki : Int)], .slice (some ⟨bu, offu, none⟩) ws.length cu] W fun e w' => e = .returned (.bool true) ∧ (Below w4.heap.size w4 w' ∧ Hl (.slice (some ⟨b7, off7, none⟩) H.length c7) H w')) := fun W hW =>
          (stands_any D (by omega) ws (by omega) m xi ki (by omega) hx2 hk3 hsz0 hxk _ _ W (HSD.out.below hW.1) (HU4.out.below hW.1)).mono fun e w' ⟨he, hb⟩ => ⟨he, hW.1.trans (hb.mono hW.1.size), hW.2.below hb⟩
        have cell7 : ∀ W j, (Hl (.slice (some ⟨b7, off7, none⟩) H.length c7) H W) → j < H.length → W.cell? ⟨b7, off7 + j * 2, none⟩ = some (.int .i64 (H.getD j (0, 0)).1) ∧ W.cell? ⟨b7, off7 + j * 2 + 1, none⟩ = some (.int .i64 (H.getD j (0, 0)).2) := fun W j hW hj => by
          obtain ⟨o9, c9, ho9, _, hl9⟩ := hW.form
          cases ho9
          obtain ⟨b9, off9, ho9, _, hc9⟩ := hl9 (by omega)
          cases ho9
          exact hc9 j hj
        have hLd : Hid (∀ W, (Below w4.heap.size w4 W ∧ Hl (.slice (some ⟨b7, off7, none⟩) H.length c7) H W) → (Instr.loadAt 40 (.pointer (some ⟨b7, off7 + i * 2, none⟩))).run Try.prog W = .ok (.agg #[.int .i64 (xi : Int), .int .i64 (ki : Int)]) W) := fun W hW => by
          have := cell7 W i hW.2 hlt
          rw [hx1] at this
          exact run_ldH W b7 (off7 + i * 2) _ _ this.1 this.2
        by_cases hz : 0 < i
        · obtain ⟨i1, hi1e⟩ : ∃ i1, i = i1 + 1 := ⟨i - 1, by omega⟩
          obtain ⟨xp, kp, hp1, hp2, _, _⟩ := hts_get (ws.map tl) m D i1 (by rw [← HH.out]; omega)
          rw [← HH.out] at hp1
          have hup := hts_up (ws.map tl) m D i1 (by rw [← HH.out]; omega)
          rw [← HH.out, ← hi1e, hx1, hp1] at hup
          have hlt2 : ¬ (xi ≤ xp) := by simp only at hup; omega
          have hw1 : IntKind.i64.wrap ((i : Int) - 1) = (i1 : Int) := by rw [wi _ (by unfold I64; omega)]; omega
          have hq0 : (0 : Int) ≤ (i1 : Int) := by omega
          have hq1 : (i1 : Int) < (H.length : Int) := by omega
          have hLi : Hid (∀ W, (Below w4.heap.size w4 W ∧ Hl (.slice (some ⟨b7, off7, none⟩) H.length c7) H W) → W.cell? ⟨b7, off7 + i * 2, none⟩ = some (.int .i64 (xi : Int))) := fun W hW => by
            have := cell7 W i hW.2 hlt
            rw [hx1] at this
            exact this.1
          have hLp : Hid (∀ W, (Below w4.heap.size w4 W ∧ Hl (.slice (some ⟨b7, off7, none⟩) H.length c7) H W) → W.cell? ⟨b7, off7 + i1 * 2, none⟩ = some (.int .i64 (xp : Int))) := fun W hW => by
            have := cell7 W i1 hW.2 (by omega)
            rw [hp1] at this
            exact this.1
          have HSTEP : Hid (ovR H (m : Int) (H.length - i) i = if (xi : Int) - (xp : Int) < (m : Int) then (i : Int) else ovR H (m : Int) (H.length - (i + 1)) (i + 1)) := by
            show _ = _
            rw [show H.length - i = (H.length - (i + 1)) + 1 by omega, ovR, show i - 1 = i1 by omega, hx1, hp1]
          clear hc hc7 hl8 BD8 hxk hx4 CT rl q1 q2 hx1 hp1 hup hi1e cell7
          go_wp2_with fail
          refine wp_region_vals (ops := reg14) (V := Vb14 b7 off7 H.length c7 gd D.length bu offu ws.length cu i i1 xi ki xp) (S := fun W => Below w4.heap.size w4 W ∧ Hl (.slice (some ⟨b7, off7, none⟩) H.length c7) H W) (by kernel_rfl) (fun i o ho => (okR_at okR14 ho).1) (fun i j o oj d ho hj q1 q2 => (okR_at okR14 ho).2.2 j oj d hj q1 q2) (fun i o d ho q => (okR_at okR14 ho).2.1 d q) (step14b _ b7 off7 H.length c7 gd D.length bu offu ws.length cu i i1 xi ki xp _ _ rfl rfl rfl rfl hSt.out hLd.out hi0 hi1 hz hw1 hq0 hq1 (fun W hW => run_ld3 W _ _ (hLp.out W hW)) (fun W hW => run_ld3 W _ _ (hLi.out W hW)) hlt2) (by rw [hD8]; exact SD) (fun w8 hS8 => ?_)
          rw [put14]
          dsimp only [Vb14]
          have HS8 : Hid (Below w4.heap.size w4 w8 ∧ Hl (.slice (some ⟨b7, off7, none⟩) H.length c7) H w8) := hS8
          have ci := hLi.out w8 hS8
          have cp := hLp.out w8 hS8
          have c0 : w8.cell? ⟨bu, offu, none⟩ = some (.string (txt ws 0)) := by
            obtain ⟨o9, c9, ho9, _, _, hl9⟩ := (HU4.out.below hS8.1).form
            cases ho9
            obtain ⟨b9, off9, ho9, _, hc9⟩ := hl9 hwl0
            cases ho9
            exact hc9 0 _ (txt_get hwl0)
          have gI : decide (0 < i) = true := decide_eq_true hz
          have gI2 : (0 : Int) < (i : Int) := by omega
          have hsub : IntKind.i64.wrap ((xi : Int) - (xp : Int)) = (xi : Int) - (xp : Int) := wi _ (by unfold I64; omega)
          clear hS8 SD hLi hLp hLd hSt hD8
          by_cases hf : f < 0
          · have gF : decide (f < 0) = true := decide_eq_true hf
            have hF1 : f = -1 ∧ ov H (m : Int) = ovR H (m : Int) (H.length - i) i := by
              rcases HF.out with ⟨h1, h2⟩ | ⟨h1, _⟩
              · exact ⟨h1, h2 (by omega)⟩
              · omega
            by_cases hdm : (xi : Int) - (xp : Int) < (m : Int)
            · have gD : decide ((xi : Int) - (xp : Int) < (m : Int)) = true := decide_eq_true hdm
              have HF' : Hid (((i : Int) = -1 ∧ (1 ≤ i + 1 → ov H (m : Int) = ovR H (m : Int) (H.length - (i + 1)) (i + 1))) ∨ (0 ≤ (i : Int) ∧ (i : Int) = ov H (m : Int))) := .inr ⟨by omega, by rw [hF1.2, HSTEP.out, if_pos hdm]⟩
              clear HF hF1 HSTEP
              go_wp2_with fail
              go_quiet (fail)
              go_wp2
              exact ⟨⟨i + 1, _, by rfl, by omega, rfl, HF', Below.drewN' HS8.out.1 nq, HS8.out.2⟩, by simp only [intOf]; omega⟩
            · have gD : decide ((xi : Int) - (xp : Int) < (m : Int)) = false := decide_eq_false hdm
              have HF' : Hid ((f = -1 ∧ (1 ≤ i + 1 → ov H (m : Int) = ovR H (m : Int) (H.length - (i + 1)) (i + 1))) ∨ (0 ≤ f ∧ f = ov H (m : Int))) := .inl ⟨hF1.1, fun _ => by rw [hF1.2, HSTEP.out, if_neg hdm]⟩
              clear HF hF1 HSTEP
              go_wp2_with fail
              go_quiet (fail)
              go_wp2
              exact ⟨⟨i + 1, _, by rfl, by omega, rfl, HF', Below.drewN' HS8.out.1 nq, HS8.out.2⟩, by simp only [intOf]; omega⟩
          · have gF : decide (f < 0) = false := decide_eq_false hf
            have HF' : Hid ((f = -1 ∧ (1 ≤ i + 1 → ov H (m : Int) = ovR H (m : Int) (H.length - (i + 1)) (i + 1))) ∨ (0 ≤ f ∧ f = ov H (m : Int))) := by
              rcases HF.out with ⟨h1, _⟩ | h1
              · omega
              · exact .inr h1
            clear HF HSTEP
            go_wp2_with fail
            go_quiet (fail)
            go_wp2
            exact ⟨⟨i + 1, _, by rfl, by omega, rfl, HF', Below.drewN' HS8.out.1 nq, HS8.out.2⟩, by simp only [intOf]; omega⟩
        · clear hc hc7 hl8 BD8 hxk hx4 CT rl q1 q2 hx1 cell7
          go_wp2_with fail
          refine wp_region_vals (ops := reg14) (V := Va14 b7 off7 H.length c7 gd D.length bu offu ws.length cu i xi ki) (S := fun W => Below w4.heap.size w4 W ∧ Hl (.slice (some ⟨b7, off7, none⟩) H.length c7) H W) (by kernel_rfl) (fun i o ho => (okR_at okR14 ho).1) (fun i j o oj d ho hj q1 q2 => (okR_at okR14 ho).2.2 j oj d hj q1 q2) (fun i o d ho q => (okR_at okR14 ho).2.1 d q) (step14a _ b7 off7 H.length c7 gd D.length bu offu ws.length cu i xi ki _ _ rfl rfl rfl rfl hSt.out hLd.out hi0 hi1 hz) (by rw [hD8]; exact SD) (fun w8 hS8 => ?_)
          rw [put14]
          dsimp only [Va14]
          have HS8 : Hid (Below w4.heap.size w4 w8 ∧ Hl (.slice (some ⟨b7, off7, none⟩) H.length c7) H w8) := hS8
          have gI : decide (0 < i) = false := decide_eq_false hz
          have HF' : Hid ((f = -1 ∧ (1 ≤ i + 1 → ov H (m : Int) = ovR H (m : Int) (H.length - (i + 1)) (i + 1))) ∨ (0 ≤ f ∧ f = ov H (m : Int))) := by
            have hi0' : i = 0 := by omega
            subst hi0'
            rcases HF.out with ⟨h1, _⟩ | h1
            · exact .inl ⟨h1, fun _ => rfl⟩
            · exact .inr h1
          clear hS8 SD hLd hSt hD8 HF
          by_cases hf : f < 0
          · have gF : decide (f < 0) = true := decide_eq_true hf
            go_wp2_with fail
            go_quiet (fail)
            go_wp2
            exact ⟨⟨i + 1, _, by rfl, by omega, rfl, HF', Below.drewN' HS8.out.1 nq, HS8.out.2⟩, by simp only [intOf]; omega⟩
          · have gF : decide (f < 0) = false := decide_eq_false hf
            go_wp2_with fail
            go_quiet (fail)
            go_wp2
            exact ⟨⟨i + 1, _, by rfl, by omega, rfl, HF', Below.drewN' HS8.out.1 nq, HS8.out.2⟩, by simp only [intOf]; omega⟩
      · have hi1 : ¬ ((i : Int) < (H.length : Int)) := by omega
        have hsz0 : (txt ws 0).size = m := HPT.out.sz _ (List.mem_of_getElem? (txt_get hwl0))
        have CNT : Hid (Calls Try.prog 19 #[.slice (some ⟨gd, 0, none⟩) D.length D.length, .slice (some ⟨bu, offu, none⟩) ws.length cu] wr fun e w' => e = .returned (.int .i64 (H.length : Int)) ∧ Below wr.heap.size wr w') := by
          have := count_any D (by omega) HDB.out ws hwl0 (by omega) m (by omega) (by omega) HPT.out.sz HND.out _ _ wr (HSD.out.below HB.out) (HU4.out.below HB.out)
          rw [← HH.out] at this
          exact this
        have hrg : Rg H := by rw [HH.out]; exact hts_rg _ (by rw [List.length_map]; omega) _ _ (by omega)
        have OVL : Hid (∀ W, Below wr.heap.size wr W → Calls Try.prog 9 #[.slice o7 H.length c7, .int .i64 (m : Int)] W fun e w' => e = .returned (.int .i64 f) ∧ Hid (Below w.heap.size w w')) := fun W hb => by
          have hf : f = ov H (m : Int) := by
            rcases HF.out with ⟨h1, h2⟩ | ⟨_, h2⟩
            · rw [h1]
              rcases Nat.eq_zero_or_pos i with h3 | h3
              · unfold ov
                rw [show H.length - 1 = 0 by omega]; rfl
              · rw [h2 h3, show H.length - i = 0 by omega]; rfl
            · exact h2
          rw [hf]
          have hB : Below w.heap.size w W := HB4.out.trans ((HB.out.trans (hb.mono HB.out.size)).mono HB4.out.size)
          exact (overlap_any H hrg (m : Int) (by unfold I64; omega) _ W (HL.out.below hb)).mono fun e w' ⟨h1, h2⟩ => ⟨h1, hB.trans (h2.mono hB.size)⟩
        have C0 : Hid (∀ W, Below wr.heap.size wr W → W.cell? ⟨bu, offu, none⟩ = some (.string (txt ws 0))) := fun W hb => by
          obtain ⟨o9, c9, ho9, _, _, hl9⟩ := ((HU4.out.below HB.out).below hb).form
          cases ho9
          obtain ⟨b9, off9, ho9, _, hc9⟩ := hl9 hwl0
          cases ho9
          exact hc9 0 _ (txt_get hwl0)
        clear HF HL hrg hi hm2 hm17
        generalize txt ws 0 = s0 at *
        subst hsz0
        go_wp2_with fail
        refine Calls.mono CNT.out ?_
        rintro e w9 ⟨rfl, hb9⟩
        have c9 := C0.out w9 hb9
        have CO : Hid _ := OVL.out w9 hb9
        clear hb9 CNT OVL C0
        go_wp2_with fail
        refine Calls.mono CO.out ?_
        rintro e w10 ⟨rfl, HBE⟩
        go_wp2
        go_ret
        exact ⟨rfl, HBE.out⟩
end Go.Proofs.Ytceaklefdahfkaa
