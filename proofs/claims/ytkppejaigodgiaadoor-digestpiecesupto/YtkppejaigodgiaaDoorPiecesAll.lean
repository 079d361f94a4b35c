import Derived.Test.YtkppejaigodgiaaDoorZero
namespace Go.Proofs.YtkppejaigodgiaaDoor
open Go.RowKit
set_option maxRecDepth 100000 in
theorem put17n (G : Nat) (s : List Nat) (u0 u1 u2 u3 u4 u5 u6 u7 u8 u9 u10 u11 u12 u13 u14 u15 u16 u17 u18 u19 u20 u21 u22 u23 u24 u25 u26 u27 u28 u29 u30 u31 u32 u33 u34 u35 u36 u37 u38 u39 u40 u41 u42 u43 u44 u45 u46 u47 u48 u49 u50 u51 u52 u53 u54 u55 u56 u57 u58 u59 u60 u61 u62 u63 u64 u65 u66 u67 u68 u69 u70 u71 u72 u73 u74 u75 u76 u77 u78 u79 u80 u81 u82 u83 u84 u85 u86 u87 u88 u89 u90 u91 u92 u93 u94 u95 u96 u97 u98 u99 u100 u101 u102 u103 u104 u105 u106 u107 u108 u109 u110 u111 u112 u113 u114 u115 u116 u117 u118 : Value) : putN reg17 (Vn G s) ⟨#[u0, u1, u2, u3, u4, u5, u6, u7, u8, u9, u10, u11, u12, u13, u14, u15, u16, u17, u18, u19, u20, u21, u22, u23, u24, u25, u26, u27, u28, u29, u30, u31, u32, u33, u34, u35, u36, u37, u38, u39, u40, u41, u42, u43, u44, u45, u46, u47, u48, u49, u50, u51, u52, u53, u54, u55, u56, u57, u58, u59, u60, u61, u62, u63, u64, u65, u66, u67, u68, u69, u70, u71, u72, u73, u74, u75, u76, u77, u78, u79, u80, u81, u82, u83, u84, u85, u86, u87, u88, u89, u90, u91, u92, u93, u94, u95, u96, u97, u98, u99, u100, u101, u102, u103, u104, u105, u106, u107, u108, u109, u110, u111, u112, u113, u114, u115, u116, u117, u118], []⟩ reg17.size = ⟨#[u0, u1, u2, u3, u4, u5, u6, u7, u8, u9, u10, u11, u12, u13, u14, u15, u16, u17, u18, u19, u20, u21, u22, u23, u24, u25, u26, u27, u28, u29, u30, u31, u32, u33, u34, u35, u36, u37, u38, u39, u40, u41, u42, u43, u44, u45, u46, u47, u48, u49, u50, u51, u52, u53, u54, u55, u56, u57, u58, u59, u60, u61, u62, u63, u64, u65, u66, u67, u68, .pointer (some ⟨G, 0, none⟩), .agg (bs s), .agg (bs s), .bool false, .bool false, .pointer (some ⟨G, 0, none⟩), .agg (bs s), .agg (bs s), .bool false, .bool false, .bool false, .pointer none, .bool false, .bool false, undef, undef, undef, undef, undef, undef, undef, undef, undef, undef, undef, .bool false, .bool false, u96, u97, u98, u99, u100, u101, u102, u103, u104, u105, u106, u107, u108, u109, u110, u111, u112, u113, u114, u115, u116, u117, u118], []⟩ := by kernel_rfl
set_option maxRecDepth 100000 in
theorem put17s (G C n : Nat) (all : Value) (s : List Nat) (u0 u1 u2 u3 u4 u5 u6 u7 u8 u9 u10 u11 u12 u13 u14 u15 u16 u17 u18 u19 u20 u21 u22 u23 u24 u25 u26 u27 u28 u29 u30 u31 u32 u33 u34 u35 u36 u37 u38 u39 u40 u41 u42 u43 u44 u45 u46 u47 u48 u49 u50 u51 u52 u53 u54 u55 u56 u57 u58 u59 u60 u61 u62 u63 u64 u65 u66 u67 u68 u69 u70 u71 u72 u73 u74 u75 u76 u77 u78 u79 u80 u81 u82 u83 u84 u85 u86 u87 u88 u89 u90 u91 u92 u93 u94 u95 u96 u97 u98 u99 u100 u101 u102 u103 u104 u105 u106 u107 u108 u109 u110 u111 u112 u113 u114 u115 u116 u117 u118 : Value) : putN reg17 (Vs G C n all s) ⟨#[u0, u1, u2, u3, u4, u5, u6, u7, u8, u9, u10, u11, u12, u13, u14, u15, u16, u17, u18, u19, u20, u21, u22, u23, u24, u25, u26, u27, u28, u29, u30, u31, u32, u33, u34, u35, u36, u37, u38, u39, u40, u41, u42, u43, u44, u45, u46, u47, u48, u49, u50, u51, u52, u53, u54, u55, u56, u57, u58, u59, u60, u61, u62, u63, u64, u65, u66, u67, u68, u69, u70, u71, u72, u73, u74, u75, u76, u77, u78, u79, u80, u81, u82, u83, u84, u85, u86, u87, u88, u89, u90, u91, u92, u93, u94, u95, u96, u97, u98, u99, u100, u101, u102, u103, u104, u105, u106, u107, u108, u109, u110, u111, u112, u113, u114, u115, u116, u117, u118], []⟩ reg17.size = ⟨#[u0, u1, u2, u3, u4, u5, u6, u7, u8, u9, u10, u11, u12, u13, u14, u15, u16, u17, u18, u19, u20, u21, u22, u23, u24, u25, u26, u27, u28, u29, u30, u31, u32, u33, u34, u35, u36, u37, u38, u39, u40, u41, u42, u43, u44, u45, u46, u47, u48, u49, u50, u51, u52, u53, u54, u55, u56, u57, u58, u59, u60, u61, u62, u63, u64, u65, u66, u67, u68, .pointer (some ⟨G, 0, none⟩), .agg (bs s), .agg (bs s), .bool false, .bool false, .pointer (some ⟨G, 0, none⟩), .agg (bs s), .agg (bs s), .bool false, .bool false, .bool false, .pointer (some ⟨C, 0, none⟩), .bool true, .bool true, .pointer (some ⟨C, 0, none⟩), .agg (bs s), .agg (bs s), .bool false, .bool false, .pointer (some ⟨C, 0, none⟩), .int .i64 (n : Int), all, .int .i64 (n : Int), .bool false, .bool false, .bool false, .bool false, u96, u97, u98, u99, u100, u101, u102, u103, u104, u105, u106, u107, u108, u109, u110, u111, u112, u113, u114, u115, u116, u117, u118], []⟩ := by kernel_rfl
attribute [local go_sem ↓] to28s to28l toApp
set_option maxRecDepth 100000 in
set_option maxHeartbeats 6400000 in
theorem pieces_any (ds : List (List Nat)) (at_ : Int) (hdb : ∀ d ∈ ds, Byt d) (hn : ds.flatten.length ≤ 1048576) (hdn : ds.length ≤ 1048576) (pv : Value) (w : World) (ht : Tb w) (hP : Pcz pv ds w) :
    Calls Tryd.prog 7 #[pv, .int .i64 at_] w fun e w' => e = .returned (.bool true) ∧ Below w.heap.size w w' := by
  have hsw := ht.sz
  obtain ⟨po, pc, rfl⟩ := hP.shape
  go_enter Tryd.func7, Tryd.ntmps7
  go_wp2_with fail
  refine (new_any _).mono ?_
  rintro e w0 ⟨rfl, rfl⟩
  have bel1 : Below w.heap.size w (w.alloc (.cells hz 43)) := (Below.refl _ w).alloc (Nat.le_refl _) _
  have tk1 : Took roundN startN [] w.heap.size (w.alloc (.cells hz 43)) := took_zero _ _ _ _ (heap_alloc_new _ _)
  have hz1 : (w.alloc (.cells hz 43)).heap.size = w.heap.size + 1 := by simp
  revert bel1 tk1 hz1
  generalize w.alloc (.cells hz 43) = w1
  intro bel1 tk1 hz1
  have HZ1 : Hid (w1.heap.size = w.heap.size + 1) := hz1
  clear hz1
  go_wp2_with fail
  go_loopw [5, 7, 8] (fun av cv i wr => ∃ k : Nat, i = .int .i64 (k : Int) ∧ k ≤ ds.length ∧ Hid (Took roundN startN (ds.take k).flatten w.heap.size wr) ∧ Hid (wr.ownsRow (w.heap.size + 1) 5 1 av (ds.take k).flatten.length (bs (ds.take k).flatten).toList) ∧ Hid (Cl (ds.take k).flatten w.heap.size av cv wr) ∧ Below w.heap.size w wr) (fun _ _ i _ => ds.length - (intOf i).toNat)
  case atStart =>
    exact ⟨0, rfl, by omega, by rw [List.take_zero]; exact tk1, World.ownsRow_nil _ _ _ _, .inl rfl, bel1⟩
  case round =>
    clear tk1 bel1 HZ1
    obtain ⟨k, rfl, hk, T, hown, hcl, bel⟩ := hrel
    obtain ⟨M, hM⟩ : ∃ x, x = (ds.take k).flatten := ⟨_, rfl⟩
    rw [← hM] at T hown hcl
    have hMl : M.length ≤ 1048576 := by rw [hM]; have := sum_flat_le ds k; omega
    have HM : Hid (M = (ds.take k).flatten) := hM
    clear hM
    have tb : Tb wr := ht.below bel hsw
    have lG : w.heap.size < wr.heap.size := T.out.lt
    by_cases hlt : k < ds.length
    · have hlt' : (k : Int) < (ds.length : Int) := by omega
      have hk0 : (0 : Int) ≤ (k : Int) := by omega
      have hkn : (k : Int).toNat = k := by omega
      rcases hP with ⟨_, h0⟩ | ⟨p, off, cap, vs, h1, hcap, hmax, hpl, hvl, hcells, hbyl⟩
      · rw [h0] at hlt; simp at hlt
      simp only [Value.slice.injEq, true_and] at h1
      obtain ⟨rfl, rfl⟩ := h1
      obtain ⟨v, hv⟩ : ∃ v, v = vs[k]'(by omega) := ⟨_, rfl⟩
      obtain ⟨d, hd⟩ : ∃ d, d = ds[k]'hlt := ⟨_, rfl⟩
      have hby : Byz v d w := by rw [hv, hd]; exact hbyl k (by omega) hlt
      have hcv : w.cell? ⟨p, off + k, none⟩ = some v := by rw [hv]; exact hcells k (by omega)
      have hdd : Byt d := hdb d (by rw [hd]; exact List.getElem_mem hlt)
      have hMd : M ++ d = (ds.take (k + 1)).flatten := by rw [take_flat ds k hlt, ← hd, ← HM.out]
      have hMdl : M.length + d.length ≤ 1048576 := by have := sum_flat_le ds (k + 1); rw [← hMd, List.length_append] at this; omega
      have HMD : Hid (M ++ d = (ds.take (k + 1)).flatten) := hMd
      clear hv hd hMd hcells hbyl
      unfold maxLen at hmax
      have hNbyt : Byt (M ++ d) := by
        rw [HMD.out]
        intro x hx
        obtain ⟨l, hl, hx⟩ := List.mem_flatten.1 hx
        exact hdb l (List.mem_of_mem_take hl) x hx
      by_cases hat : (k : Int) = at_
      · subst hat
        go_wp2_with fail
        refine (clone_tb w.heap.size M wr T.out).mono ?_
        rintro e wc ⟨rfl, tc, bc⟩
        have belc : Below w.heap.size w wc := bel.trans (bc.mono (by omega))
        have Tc : Hid (Took roundN startN M w.heap.size wc) := T.out.keep (bc.block _ lG)
        have ownc : Hid (wc.ownsRow (w.heap.size + 1) 5 1 u5 M.length (bs M).toList) := own_below hown.out bc
        have hne : u5.ownBlock ≠ some wr.heap.size := fun h => by have := (hown.out.lt _ h).2; omega
        have hGC : w.heap.size < wr.heap.size := lG
        have tbc : Tb wc := ht.below belc hsw
        clear bc
        revert tc hne hGC
        generalize wr.heap.size = C
        intro tc hne hGC
        have C1 : Hid (Calls Tryd.prog 10 #[.pointer (some ⟨w.heap.size, 0, none⟩), v] wc fun e w' => e = .returned (.int .i64 0) ∧ Took roundN startN (M ++ d) w.heap.size w' ∧ Touch w.heap.size wc w') := write_tz w.heap.size M d hdd (by omega) v w wc hby (Nat.le_refl _) belc (by omega) tbc Tc.out
        have cvr : wc.cell? ⟨p, off + k, none⟩ = some v := (World.cell?_of_block (w := w) (belc.block p hpl)).trans hcv
        go_wp2_with fail
        refine C1.out.mono ?_
        rintro e w2 ⟨rfl, t2, c2⟩
        have lC : C < wc.heap.size := tc.lt
        have bel2 : Below w.heap.size w w2 := below_touch belc c2 (Nat.le_refl _) (by omega)
        have cv2 : w2.cell? ⟨p, off + k, none⟩ = some v := (World.cell?_of_block (w := w) (bel2.block p hpl)).trans hcv
        have T2 : Hid (Took roundN startN (M ++ d) w.heap.size w2) := t2
        have TC2 : Hid (Took roundN startN M C w2) := tc.keep (c2.block _ lC (by omega))
        have own2 : Hid (w2.ownsRow (w.heap.size + 1) 5 1 u5 M.length (bs M).toList) := own_touch ownc.out c2 (by omega)
        have tb2 : Tb w2 := ht.below bel2 hsw
        clear t2 c2 C1 lC
        have C2 : Hid (Calls Tryd.prog 10 #[.pointer (some ⟨C, 0, none⟩), v] w2 fun e w' => e = .returned (.int .i64 0) ∧ Took roundN startN (M ++ d) C w' ∧ Touch C w2 w') := write_tz C M d hdd (by omega) v w w2 hby (by omega) bel2 (by omega) tb2 TC2.out
        go_wp2_with fail
        refine C2.out.mono ?_
        rintro e w3 ⟨rfl, t3, c3⟩
        have lC : C < w2.heap.size := TC2.out.lt
        have bel3 : Below w.heap.size w w3 := below_touch bel2 c3 (by omega) (by omega)
        have cv3 : w3.cell? ⟨p, off + k, none⟩ = some v := (World.cell?_of_block (w := w) (bel3.block p hpl)).trans hcv
        have T3 : Hid (Took roundN startN (M ++ d) w.heap.size w3) := T2.out.keep (c3.block _ T2.out.lt (by omega))
        have TC3 : Hid (Took roundN startN (M ++ d) C w3) := t3
        have own3 : Hid (w3.ownsRow (w.heap.size + 1) 5 1 u5 M.length (bs M).toList) := own_touch' own2.out c3 hne
        clear t3 c3 C2 lC TC2 T2 tb2
        obtain ⟨v5, w5, hr, ho, hg, hCC⟩ := appz_ext w3 (w.heap.size + 1) M.length 26 u5 v M d own3.out (hby.keep bel3) (by omega) (by have := T3.out.lt; omega)
        have lGx := T3.out.lt
        have nG : some w.heap.size ≠ u5.ownBlock := fun h => by have := (own3.out.lt _ h.symm).1; omega
        have T5 : Hid (Took roundN startN (M ++ d) w.heap.size w5) := T3.out.keep (hg.block _ lGx nG)
        have bel5 : Below w.heap.size w w5 := below_grown bel3 hg (by omega) (fun g h => by have := (own3.out.lt g h).1; omega)
        have own5 : Hid (w5.ownsRow (w.heap.size + 1) 5 1 v5 (M ++ d).length (bs (M ++ d)).toList) := by rw [List.length_append]; exact ho
        have tb5 : Tb w5 := ht.below bel5 hsw
        have TC5 : Hid (Took roundN startN (M ++ d) C w5) := TC3.out.keep (hg.block _ TC3.out.lt (Ne.symm hne))
        have hne5 : v5.ownBlock ≠ some C := hCC C TC3.out.lt hne
        obtain ⟨o5, c5, hv5⟩ := (byl_own own5.out).1.shape
        subst hv5
        have y5 : Hid (Byl (.slice o5 (M ++ d).length c5) (M ++ d) w5) := (byl_own own5.out).1
        clear ho hg hCC lGx nG
        obtain ⟨N, hN⟩ : ∃ x, x = M ++ d := ⟨_, rfl⟩
        have HN : Hid (N = M ++ d) := hN
        have hNb : Byt N := by rw [hN]; exact hNbyt
        have hNl : N.length ≤ 1048576 := by rw [hN, List.length_append]; exact hMdl
        rw [← hN] at T5 own5 y5 hr TC5 hne5
        clear hN
        by_cases h3 : (k : Int) % 3 = 0
        · go_wp2_with fail
          refine (sum_tb w.heap.size N (by omega) w5 tb5 T5.out).mono ?_
          rintro e w6 ⟨rfl, b6⟩
          have bel6 : Below w.heap.size w w6 := bel5.trans (b6.mono bel5.size)
          have tb6 : Tb w6 := ht.below bel6 hsw
          have y6 : Byl (.slice o5 N.length c5) N w6 := y5.out.keep b6.size b6.block
          have T6 : Hid (Took roundN startN N w.heap.size w6) := T5.out.keep (b6.block _ T5.out.lt)
          have own6 : Hid (w6.ownsRow (w.heap.size + 1) 5 1 (.slice o5 N.length c5) N.length (bs N).toList) := own_below own5.out b6
          have TC6 : Hid (Took roundN startN N C w6) := TC5.out.keep (b6.block _ TC5.out.lt)
          clear b6
          go_wp2_with fail
          refine (of_tb N _ (by omega) hNb w6 tb6 y6).mono ?_
          rintro e w7 ⟨rfl, b7⟩
          have bel7 : Below w.heap.size w w7 := bel6.trans (b7.mono bel6.size)
          have T7 : Hid (Took roundN startN N w.heap.size w7) := T6.out.keep (b7.block _ T6.out.lt)
          have own7 : Hid (w7.ownsRow (w.heap.size + 1) 5 1 (.slice o5 N.length c5) N.length (bs N).toList) := own_below own6.out b7
          have TCF : Took roundN startN N C w7 := TC6.out.keep (b7.block _ TC6.out.lt)
          have HTC : Hid (Took roundN startN N C w7) := TCF
          clear TCF
          clear b7
          obtain ⟨s7, hs7⟩ : ∃ x, x = sha N := ⟨_, rfl⟩
          have q7 := nz w7 s7 (by rw [hs7]; exact sha_len _)
          rw [← hs7]
          clear hs7
          go_wp2_with fail
          refine (len_tb w.heap.size N w7 T7.out).mono ?_
          rintro e w8 ⟨rfl, rfl⟩
          go_wp2_with fail
          go_roundw
          case rel =>
            refine ⟨k + 1, by go_num, by omega, ?_, ?_, ?_, bel7⟩
            · rw [← HMD.out, ← HN.out]; exact T7
            · rw [← HMD.out, ← HN.out]; exact own7
            · rw [← HMD.out, ← HN.out]; exact .inr ⟨C, rfl, hGC, hne5, HTC.out⟩
          case measure => simp [intOf]; omega
        · go_wp2_with fail
          refine (len_tb w.heap.size N w5 T5.out).mono ?_
          rintro e w8 ⟨rfl, rfl⟩
          have HTC : Hid (Took roundN startN N C w8) := TC5
          go_wp2_with fail
          go_roundw
          case rel =>
            refine ⟨k + 1, by go_num, by omega, ?_, ?_, ?_, bel5⟩
            · rw [← HMD.out, ← HN.out]; exact T5
            · rw [← HMD.out, ← HN.out]; exact own5
            · rw [← HMD.out, ← HN.out]; exact .inr ⟨C, rfl, hGC, hne5, HTC.out⟩
          case measure => simp [intOf]; omega
      · have hat' : ((k : Int) == at_) = false := by simpa using hat
        rcases hcl.out with rfl | ⟨C, rfl, hGC, hne, TC⟩
        · have C1 : Hid (Calls Tryd.prog 10 #[.pointer (some ⟨w.heap.size, 0, none⟩), v] wr fun e w' => e = .returned (.int .i64 0) ∧ Took roundN startN (M ++ d) w.heap.size w' ∧ Touch w.heap.size wr w') := write_tz w.heap.size M d hdd (by omega) v w wr hby (Nat.le_refl _) bel (by omega) tb T.out
          have cvr : wr.cell? ⟨p, off + k, none⟩ = some v := (World.cell?_of_block (w := w) (bel.block p hpl)).trans hcv
          go_wp2_with fail
          refine C1.out.mono ?_
          rintro e w2 ⟨rfl, t2, c2⟩
          have bel2 : Below w.heap.size w w2 := below_touch bel c2 (Nat.le_refl _) (by omega)
          have cv2 : w2.cell? ⟨p, off + k, none⟩ = some v := (World.cell?_of_block (w := w) (bel2.block p hpl)).trans hcv
          have T2 : Hid (Took roundN startN (M ++ d) w.heap.size w2) := t2
          have own2 : Hid (w2.ownsRow (w.heap.size + 1) 5 1 u5 M.length (bs M).toList) := own_touch hown.out c2 (by omega)
          clear t2 c2 C1
          obtain ⟨v5, w5, hr, ho, hg, hCC⟩ := appz_ext w2 (w.heap.size + 1) M.length 26 u5 v M d own2.out (hby.keep bel2) (by omega) (by have := T2.out.lt; omega)
          have lGx := T2.out.lt
          have nG : some w.heap.size ≠ u5.ownBlock := fun h => by have := (own2.out.lt _ h.symm).1; omega
          have T5 : Hid (Took roundN startN (M ++ d) w.heap.size w5) := T2.out.keep (hg.block _ lGx nG)
          have bel5 : Below w.heap.size w w5 := below_grown bel2 hg (by omega) (fun g h => by have := (own2.out.lt g h).1; omega)
          have own5 : Hid (w5.ownsRow (w.heap.size + 1) 5 1 v5 (M ++ d).length (bs (M ++ d)).toList) := by rw [List.length_append]; exact ho
          have tb5 : Tb w5 := ht.below bel5 hsw
          obtain ⟨o5, c5, hv5⟩ := (byl_own own5.out).1.shape
          subst hv5
          have y5 : Hid (Byl (.slice o5 (M ++ d).length c5) (M ++ d) w5) := (byl_own own5.out).1
          clear ho hg hCC lGx nG
          obtain ⟨N, hN⟩ : ∃ x, x = M ++ d := ⟨_, rfl⟩
          have HN : Hid (N = M ++ d) := hN
          have hNb : Byt N := by rw [hN]; exact hNbyt
          have hNl : N.length ≤ 1048576 := by rw [hN, List.length_append]; exact hMdl
          rw [← hN] at T5 own5 y5 hr
          clear hN
          by_cases h3 : (k : Int) % 3 = 0
          · go_wp2_with fail
            refine (sum_tb w.heap.size N (by omega) w5 tb5 T5.out).mono ?_
            rintro e w6 ⟨rfl, b6⟩
            have bel6 : Below w.heap.size w w6 := bel5.trans (b6.mono bel5.size)
            have tb6 : Tb w6 := ht.below bel6 hsw
            have y6 : Byl (.slice o5 N.length c5) N w6 := y5.out.keep b6.size b6.block
            have T6 : Hid (Took roundN startN N w.heap.size w6) := T5.out.keep (b6.block _ T5.out.lt)
            have own6 : Hid (w6.ownsRow (w.heap.size + 1) 5 1 (.slice o5 N.length c5) N.length (bs N).toList) := own_below own5.out b6
            clear b6
            go_wp2_with fail
            refine (of_tb N _ (by omega) hNb w6 tb6 y6).mono ?_
            rintro e w7 ⟨rfl, b7⟩
            have bel7 : Below w.heap.size w w7 := bel6.trans (b7.mono bel6.size)
            have T7 : Hid (Took roundN startN N w.heap.size w7) := T6.out.keep (b7.block _ T6.out.lt)
            have own7 : Hid (w7.ownsRow (w.heap.size + 1) 5 1 (.slice o5 N.length c5) N.length (bs N).toList) := own_below own6.out b7
            clear b7
            obtain ⟨s7, hs7⟩ : ∃ x, x = sha N := ⟨_, rfl⟩
            have q7 := nz w7 s7 (by rw [hs7]; exact sha_len _)
            rw [← hs7]
            clear hs7
            go_wp2_with fail
            refine (len_tb w.heap.size N w7 T7.out).mono ?_
            rintro e w8 ⟨rfl, rfl⟩
            go_wp2_with fail
            go_roundw
            case rel =>
              refine ⟨k + 1, by go_num, by omega, ?_, ?_, ?_, bel7⟩
              · rw [← HMD.out, ← HN.out]; exact T7
              · rw [← HMD.out, ← HN.out]; exact own7
              · rw [← HMD.out, ← HN.out]; exact .inl rfl
            case measure => simp [intOf]; omega
          · go_wp2_with fail
            refine (len_tb w.heap.size N w5 T5.out).mono ?_
            rintro e w8 ⟨rfl, rfl⟩
            go_wp2_with fail
            go_roundw
            case rel =>
              refine ⟨k + 1, by go_num, by omega, ?_, ?_, ?_, bel5⟩
              · rw [← HMD.out, ← HN.out]; exact T5
              · rw [← HMD.out, ← HN.out]; exact own5
              · rw [← HMD.out, ← HN.out]; exact .inl rfl
            case measure => simp [intOf]; omega
        · have C1 : Hid (Calls Tryd.prog 10 #[.pointer (some ⟨w.heap.size, 0, none⟩), v] wr fun e w' => e = .returned (.int .i64 0) ∧ Took roundN startN (M ++ d) w.heap.size w' ∧ Touch w.heap.size wr w') := write_tz w.heap.size M d hdd (by omega) v w wr hby (Nat.le_refl _) bel (by omega) tb T.out
          have cvr : wr.cell? ⟨p, off + k, none⟩ = some v := (World.cell?_of_block (w := w) (bel.block p hpl)).trans hcv
          go_wp2_with fail
          refine C1.out.mono ?_
          rintro e w2 ⟨rfl, t2, c2⟩
          have lC : C < wr.heap.size := TC.lt
          have bel2 : Below w.heap.size w w2 := below_touch bel c2 (Nat.le_refl _) (by omega)
          have cv2 : w2.cell? ⟨p, off + k, none⟩ = some v := (World.cell?_of_block (w := w) (bel2.block p hpl)).trans hcv
          have T2 : Hid (Took roundN startN (M ++ d) w.heap.size w2) := t2
          have TC2 : Hid (Took roundN startN M C w2) := TC.keep (c2.block _ lC (by omega))
          have own2 : Hid (w2.ownsRow (w.heap.size + 1) 5 1 u5 M.length (bs M).toList) := own_touch hown.out c2 (by omega)
          have tb2 : Tb w2 := ht.below bel2 hsw
          clear t2 c2 C1 lC
          have C2 : Hid (Calls Tryd.prog 10 #[.pointer (some ⟨C, 0, none⟩), v] w2 fun e w' => e = .returned (.int .i64 0) ∧ Took roundN startN (M ++ d) C w' ∧ Touch C w2 w') := write_tz C M d hdd (by omega) v w w2 hby (by omega) bel2 (by omega) tb2 TC2.out
          go_wp2_with fail
          refine C2.out.mono ?_
          rintro e w3 ⟨rfl, t3, c3⟩
          have lC : C < w2.heap.size := TC2.out.lt
          have bel3 : Below w.heap.size w w3 := below_touch bel2 c3 (by omega) (by omega)
          have cv3 : w3.cell? ⟨p, off + k, none⟩ = some v := (World.cell?_of_block (w := w) (bel3.block p hpl)).trans hcv
          have T3 : Hid (Took roundN startN (M ++ d) w.heap.size w3) := T2.out.keep (c3.block _ T2.out.lt (by omega))
          have TC3 : Hid (Took roundN startN (M ++ d) C w3) := t3
          have own3 : Hid (w3.ownsRow (w.heap.size + 1) 5 1 u5 M.length (bs M).toList) := own_touch' own2.out c3 hne
          clear t3 c3 C2 lC TC2 T2 tb2
          obtain ⟨v5, w5, hr, ho, hg, hCC⟩ := appz_ext w3 (w.heap.size + 1) M.length 26 u5 v M d own3.out (hby.keep bel3) (by omega) (by have := T3.out.lt; omega)
          have lGx := T3.out.lt
          have nG : some w.heap.size ≠ u5.ownBlock := fun h => by have := (own3.out.lt _ h.symm).1; omega
          have T5 : Hid (Took roundN startN (M ++ d) w.heap.size w5) := T3.out.keep (hg.block _ lGx nG)
          have bel5 : Below w.heap.size w w5 := below_grown bel3 hg (by omega) (fun g h => by have := (own3.out.lt g h).1; omega)
          have own5 : Hid (w5.ownsRow (w.heap.size + 1) 5 1 v5 (M ++ d).length (bs (M ++ d)).toList) := by rw [List.length_append]; exact ho
          have tb5 : Tb w5 := ht.below bel5 hsw
          have TC5 : Hid (Took roundN startN (M ++ d) C w5) := TC3.out.keep (hg.block _ TC3.out.lt (Ne.symm hne))
          have hne5 : v5.ownBlock ≠ some C := hCC C TC3.out.lt hne
          obtain ⟨o5, c5, hv5⟩ := (byl_own own5.out).1.shape
          subst hv5
          have y5 : Hid (Byl (.slice o5 (M ++ d).length c5) (M ++ d) w5) := (byl_own own5.out).1
          clear ho hg hCC lGx nG
          obtain ⟨N, hN⟩ : ∃ x, x = M ++ d := ⟨_, rfl⟩
          have HN : Hid (N = M ++ d) := hN
          have hNb : Byt N := by rw [hN]; exact hNbyt
          have hNl : N.length ≤ 1048576 := by rw [hN, List.length_append]; exact hMdl
          rw [← hN] at T5 own5 y5 hr TC5 hne5
          clear hN
          by_cases h3 : (k : Int) % 3 = 0
          · go_wp2_with fail
            refine (sum_tb w.heap.size N (by omega) w5 tb5 T5.out).mono ?_
            rintro e w6 ⟨rfl, b6⟩
            have bel6 : Below w.heap.size w w6 := bel5.trans (b6.mono bel5.size)
            have tb6 : Tb w6 := ht.below bel6 hsw
            have y6 : Byl (.slice o5 N.length c5) N w6 := y5.out.keep b6.size b6.block
            have T6 : Hid (Took roundN startN N w.heap.size w6) := T5.out.keep (b6.block _ T5.out.lt)
            have own6 : Hid (w6.ownsRow (w.heap.size + 1) 5 1 (.slice o5 N.length c5) N.length (bs N).toList) := own_below own5.out b6
            have TC6 : Hid (Took roundN startN N C w6) := TC5.out.keep (b6.block _ TC5.out.lt)
            clear b6
            go_wp2_with fail
            refine (of_tb N _ (by omega) hNb w6 tb6 y6).mono ?_
            rintro e w7 ⟨rfl, b7⟩
            have bel7 : Below w.heap.size w w7 := bel6.trans (b7.mono bel6.size)
            have T7 : Hid (Took roundN startN N w.heap.size w7) := T6.out.keep (b7.block _ T6.out.lt)
            have own7 : Hid (w7.ownsRow (w.heap.size + 1) 5 1 (.slice o5 N.length c5) N.length (bs N).toList) := own_below own6.out b7
            have TCF : Took roundN startN N C w7 := TC6.out.keep (b7.block _ TC6.out.lt)
            have HTC : Hid (Took roundN startN N C w7) := TCF
            clear TCF
            clear b7
            obtain ⟨s7, hs7⟩ : ∃ x, x = sha N := ⟨_, rfl⟩
            have q7 := nz w7 s7 (by rw [hs7]; exact sha_len _)
            rw [← hs7]
            clear hs7
            go_wp2_with fail
            refine (len_tb w.heap.size N w7 T7.out).mono ?_
            rintro e w8 ⟨rfl, rfl⟩
            go_wp2_with fail
            go_roundw
            case rel =>
              refine ⟨k + 1, by go_num, by omega, ?_, ?_, ?_, bel7⟩
              · rw [← HMD.out, ← HN.out]; exact T7
              · rw [← HMD.out, ← HN.out]; exact own7
              · rw [← HMD.out, ← HN.out]; exact .inr ⟨C, rfl, hGC, hne5, HTC.out⟩
            case measure => simp [intOf]; omega
          · go_wp2_with fail
            refine (len_tb w.heap.size N w5 T5.out).mono ?_
            rintro e w8 ⟨rfl, rfl⟩
            have HTC : Hid (Took roundN startN N C w8) := TC5
            go_wp2_with fail
            go_roundw
            case rel =>
              refine ⟨k + 1, by go_num, by omega, ?_, ?_, ?_, bel5⟩
              · rw [← HMD.out, ← HN.out]; exact T5
              · rw [← HMD.out, ← HN.out]; exact own5
              · rw [← HMD.out, ← HN.out]; exact .inr ⟨C, rfl, hGC, hne5, HTC.out⟩
            case measure => simp [intOf]; omega
    · have hkk : k = ds.length := by omega
      have hMf : M = ds.flatten := by rw [HM.out, hkk, List.take_length]
      have HMF : Hid (M = ds.flatten) := hMf
      clear hMf
      have hMb : Byt M := by
        rw [HMF.out]
        intro x hx
        obtain ⟨l, hl, hx⟩ := List.mem_flatten.1 hx
        exact hdb l hl x hx
      have hlt' : ¬ (k : Int) < (ds.length : Int) := by omega
      obtain ⟨o5, c5, hv5⟩ := (byl_own hown.out).1.shape
      subst hv5
      have y5 : BylF (w.heap.size + 1) (.slice o5 M.length c5) M wr := bylF_own hown.out
      clear hkk
      go_wp2_with fail
      refine (of_tb M _ (by omega) hMb wr tb y5.1).mono ?_
      obtain ⟨s, hs⟩ : ∃ x, x = sha M := ⟨_, rfl⟩
      have sl : s.length = 32 := by rw [hs]; exact sha_len _
      have HS : Hid (s = sha M) := hs
      rw [← hs]
      clear hs
      rintro e w2 ⟨rfl, b2⟩
      have z2 := b2.size
      have bel2 : Below w.heap.size w w2 := bel.trans (b2.mono (by omega))
      have y2 : BylF (w.heap.size + 1) (.slice o5 M.length c5) M w2 := y5.below b2
      have lR : Hid (w.heap.size < w2.heap.size) := by show _ < _; omega
      have T2 : Hid (Took roundN startN M w.heap.size w2) := T.out.keep (b2.block _ lG)
      have hcl2 : Hid (u7 = .pointer none ∨ ∃ C, u7 = .pointer (some ⟨C, 0, none⟩) ∧ w.heap.size < C ∧ Took roundN startN M C w2) := by
        rcases hcl.out with h | ⟨C, h, hGC, _, TC⟩
        · exact .inl h
        · exact .inr ⟨C, h, hGC, TC.keep (b2.block _ TC.lt)⟩
      clear b2 hcl hown T y5 bel tb
      go_wp2_with (refine wpList_store_row rfl 28 _ _ rfl _ _ rfl rfl 28 _ (by exact heap_alloc_new _ _) (by rw [size28, bs_size, sl]) (by rw [bs_size, sl]; rfl) (bs_one _) ?_)
      generalize hW3 : (w2.alloc (Obj.cells _ 28)).setRow w2.heap.size (bs s) = w3
      have r3 : Hid (w3.heap[w2.heap.size]? = some (.cells (bs s) 28 (0, 0))) := by rw [← hW3]; exact setRow_heap _ _ _ _ _ _ (heap_alloc_new _ _)
      have old3 : Hid (∀ j, j < w2.heap.size → w3.heap[j]? = w2.heap[j]?) := fun j hj => by rw [← hW3]; exact (setRow_other _ _ _ _ (by omega)).trans (heap_alloc_old _ _ (h := hj))
      have z3 : Hid (w2.heap.size < w3.heap.size) := by show _ < _; rw [← hW3]; simp
      have bel3 : Below w.heap.size w w3 := by rw [← hW3]; exact below_setRow (bel2.alloc (by omega) _) (by omega) _
      clear hW3
      have y3 : BylF (w.heap.size + 1) (.slice o5 M.length c5) M w3 := y2.keep (Nat.le_of_lt z3.out) (fun j _ hj => old3.out j hj)
      have T3 : Hid (Took roundN startN M w.heap.size w3) := T2.out.keep (old3.out _ T2.out.lt)
      have hcl3 : Hid (u7 = .pointer none ∨ ∃ C, u7 = .pointer (some ⟨C, 0, none⟩) ∧ w.heap.size < C ∧ Took roundN startN M C w3) := by
        rcases hcl2.out with h | ⟨C, h, hGC, TC⟩
        · exact .inl h
        · exact .inr ⟨C, h, hGC, TC.keep (old3.out _ TC.lt)⟩
      have tb3 : Tb w3 := ht.below bel3 hsw
      clear old3 hcl2 T2 y2 bel2
      revert lR r3 z3
      generalize w2.heap.size = R
      intro lR r3 z3
      rcases hcl3.out with rfl | ⟨C, rfl, hGC, TC⟩
      · have K11 : Hid (∀ W, Kn M s w R (.slice o5 M.length c5) [] W → Calls Tryd.prog 11 #[.pointer (some ⟨w.heap.size, 0, none⟩)] W fun e w' => e = .returned (.agg (bs s)) ∧ Kn M s w R (.slice o5 M.length c5) [] w') := fun W h => kn_sum HS.out (by omega) h
        have J3 : Kn M s w R (.slice o5 M.length c5) [] w3 := ⟨⟨tb3, T3.out, r3.out, bel3, run_loadR28 w3 R s r3.out sl, nz w3 s sl⟩, y3, fun C hC => by cases hC⟩
        have hJ' : Kn M s w R (.slice o5 M.length c5) [] w3.drew := J3.below (Below.refl _ w3).drew sl
        have ld3d := hJ'.j.ld
        have eq3d := hJ'.j.eq
        rename_i Q1 K3 K2 K1 h2 K0 h1 Q0 h0
        have HT : Hid (∀ a w', Code.wp Tryd.prog tail7 Q1 a w' → K1 a w') := h2
        clear h2 h0 J3 T3 y3 tb3 hcl3
        have HK : Hid (∀ a w', Code.wp Tryd.prog (Code.cond (Operand.tmp 95) ((Code.region 18 ((Tryd.f7.body.bind (findR 18)).getD #[]) false).seq Code.ret) Code.skip) (Exit.then K1 Q1) a w' → K0 a w') := h1
        clear h1
        rw [put_none']
        refine wp_region_vals (ops := reg17) (V := Vn w.heap.size s) (S := fun W => Kn M s w R (.slice o5 M.length c5) [] W) (by kernel_rfl) (fun i o ho => (okR_at okR17 ho).1) (fun i j o oj d ho hj q1 q2 => (okR_at okR17 ho).2.2 j oj d hj q1 q2) (fun i o d ho q => (okR_at okR17 ho).2.1 d q) (step17n _ w.heap.size R s _ _ rfl rfl rfl K11.out (fun W hW => hW.j.ld) (fun W hW => hW.j.eq)) hJ' (fun w' hS => ?_)
        show K0 _ w'
        rw [put17n]
        refine HK.out _ _ ?_
        go_wp2_with fail
        refine HT.out _ _ ?_
        exact pieces_end M s HS.out hMl hMb R _ _ _ _ _ _ _ _ _ _ _ _ _ _ _ _ _ _ _ _ _ _ _ _ _ _ _ _ _ _ _ _ _ _ _ _ _ _ _ _ _ _ _ _ _ _ _ _ _ _ _ _ _ _ _ _ _ _ _ _ _ _ _ _ _ _ _ _ _ _ _ _ _ _ _ _ _ _ _ _ _ _ _ _ _ _ _ _ _ _ _ _ _ _ _ _ _ _ _ _ _ _ _ _ _ _ _ _ _ _ _ _ _ _ _ _ _ w _ lR.out ht hS.j.t hS.y hS.j.r hS.j.b
      · have K11 : Hid (∀ W, Kn M s w R (.slice o5 M.length c5) [C] W → Calls Tryd.prog 11 #[.pointer (some ⟨w.heap.size, 0, none⟩)] W fun e w' => e = .returned (.agg (bs s)) ∧ Kn M s w R (.slice o5 M.length c5) [C] w') := fun W h => kn_sum HS.out (by omega) h
        have C11 : Hid (∀ W, Kn M s w R (.slice o5 M.length c5) [C] W → Calls Tryd.prog 11 #[.pointer (some ⟨C, 0, none⟩)] W fun e w' => e = .returned (.agg (bs s)) ∧ Kn M s w R (.slice o5 M.length c5) [C] w') := fun W h => kn_sumC HS.out (by omega) h
        have C12 : Hid (∀ W, Kn M s w R (.slice o5 M.length c5) [C] W → Calls Tryd.prog 12 #[.pointer (some ⟨C, 0, none⟩)] W fun e w' => e = .returned (.int .i64 (M.length : Int)) ∧ Kn M s w R (.slice o5 M.length c5) [C] w') := fun W h => (kn_len h).mono fun e w' ⟨q1, q2⟩ => ⟨q1, by rw [q2]; exact h⟩
        have J3 : Kn M s w R (.slice o5 M.length c5) [C] w3 := ⟨⟨tb3, T3.out, r3.out, bel3, run_loadR28 w3 R s r3.out sl, nz w3 s sl⟩, y3, fun C1 hC => by rw [List.mem_singleton.1 hC]; exact TC⟩
        have hJ' : Kn M s w R (.slice o5 M.length c5) [C] w3.drew := J3.below (Below.refl _ w3).drew sl
        have ld3d := hJ'.j.ld
        have eq3d := hJ'.j.eq
        rename_i Q1 K3 K2 K1 h2 K0 h1 Q0 h0
        have HT : Hid (∀ a w', Code.wp Tryd.prog tail7 Q1 a w' → K1 a w') := h2
        clear h2 h0 J3 T3 y3 tb3 hcl3
        have HK : Hid (∀ a w', Code.wp Tryd.prog (Code.cond (Operand.tmp 95) ((Code.region 18 ((Tryd.f7.body.bind (findR 18)).getD #[]) false).seq Code.ret) Code.skip) (Exit.then K1 Q1) a w' → K0 a w') := h1
        clear h1
        rw [put_none']
        refine wp_region_vals (ops := reg17) (V := Vs w.heap.size C M.length (.slice o5 M.length c5) s) (S := fun W => Kn M s w R (.slice o5 M.length c5) [C] W) (by kernel_rfl) (fun i o ho => (okR_at okR17 ho).1) (fun i j o oj d ho hj q1 q2 => (okR_at okR17 ho).2.2 j oj d hj q1 q2) (fun i o d ho q => (okR_at okR17 ho).2.1 d q) (step17s _ w.heap.size R s _ _ C M.length o5 c5 C11.out C12.out rfl rfl rfl rfl K11.out (fun W hW => hW.j.ld) (fun W hW => hW.j.eq)) hJ' (fun w' hS => ?_)
        show K0 _ w'
        rw [put17s]
        refine HK.out _ _ ?_
        go_wp2_with fail
        refine HT.out _ _ ?_
        exact pieces_end M s HS.out hMl hMb R _ _ _ _ _ _ _ _ _ _ _ _ _ _ _ _ _ _ _ _ _ _ _ _ _ _ _ _ _ _ _ _ _ _ _ _ _ _ _ _ _ _ _ _ _ _ _ _ _ _ _ _ _ _ _ _ _ _ _ _ _ _ _ _ _ _ _ _ _ _ _ _ _ _ _ _ _ _ _ _ _ _ _ _ _ _ _ _ _ _ _ _ _ _ _ _ _ _ _ _ _ _ _ _ _ _ _ _ _ _ _ _ _ _ _ _ _ w _ lR.out ht hS.j.t hS.y hS.j.r hS.j.b
end Go.Proofs.YtkppejaigodgiaaDoor
