/- SieveBack: the walk. -/
import Derived.Test.YtceaklefdahfkaaBk1
import Derived.Test.YtceaklefdahfkaaFn6
namespace Go.Proofs.Ytceaklefdahfkaa
open Go.RowKit
/-- Bytes that were turned, up to a place. -/
def xk (u : Nat) (l : List Nat) (k : Nat) : List Nat := xr u (l.take k) ++ l.drop k
theorem xk_len (u : Nat) (l : List Nat) (k : Nat) : (xk u l k).length = l.length := by simp [xk, xr]; omega
theorem xk_get (u : Nat) (l : List Nat) (k : Nat) (h : k < l.length) : (xk u l k).getD k 0 = l.getD k 0 := by
  have h1 : (xr u (l.take k)).length = k := by rw [xr_len, List.length_take]; omega
  rw [xk, List.getD, List.getElem?_append_right (by omega), h1, Nat.sub_self, List.getElem?_drop, Nat.add_zero, ← List.getD]
theorem xk_succ (u : Nat) (l : List Nat) (k : Nat) (h : k < l.length) : (xk u l k).set k (l.getD k 0 ^^^ u) = xk u l (k + 1) := by
  have h1 : (xr u (l.take k)).length = k := by rw [xr_len, List.length_take]; omega
  have h2 : l.drop k = l[k] :: l.drop (k + 1) := List.drop_eq_getElem_cons h
  have h3 : l.getD k 0 = l[k] := by simp [List.getD, h]
  rw [xk, List.set_append_right _ _ (by omega), h1, Nat.sub_self, h2, List.set_cons_zero, xk, List.take_succ_eq_append_getElem h, h3]
  simp only [xr, List.map_append, List.map_cons, List.map_nil, List.append_assoc, List.singleton_append]
theorem xk_all (u : Nat) (l : List Nat) : xk u l l.length = xr u l := by simp [xk]
/-- Bytes in a row that a conversion made. -/
def Bw (G S : Nat) (l : List Nat) (w : World) : Prop := ∃ cs : Array Value, w.heap[G]? = some (.cells cs 5 (S, S + 1)) ∧ cs.size = S ∧ l.length ≤ S ∧ ∀ j, j < l.length → cs[j]? = some (.int .u8 ((l.getD j 0 : Nat) : Int))
theorem Bw.cell {G S : Nat} {l : List Nat} {w : World} (h : Bw G S l w) (j : Nat) (hj : j < l.length) : w.cell? ⟨G, j, none⟩ = some (.int .u8 ((l.getD j 0 : Nat) : Int)) ∧ w.frozen? ⟨G, j, none⟩ = false := by
  obtain ⟨cs, h1, h2, h3, h4⟩ := h
  refine ⟨?_, ?_⟩
  · simp [World.cell?, h1]; exact h4 j hj
  · simp only [World.frozen?, h1]
    simp; omega
theorem Bw.set {G S : Nat} {l : List Nat} {w : World} (h : Bw G S l w) (k x : Nat) (hk : k < l.length) : Bw G S (l.set k x) (w.setCell ⟨G, k, none⟩ (.int .u8 (x : Int))) := by
  obtain ⟨cs, h1, h2, h3, h4⟩ := h
  refine ⟨cs.setIfInBounds k (.int .u8 (x : Int)), by simp [World.setCell, Array.getElem?_modify, h1], by simp [h2], by simpa using h3, fun j hj => ?_⟩
  rw [List.length_set] at hj
  by_cases e : k = j
  · subst e
    rw [Array.getElem?_setIfInBounds_self, if_pos (by omega)]
    simp [List.getD, hk]
  · rw [Array.getElem?_setIfInBounds_ne e, h4 j hj]
    simp [List.getD, List.getElem?_set_ne e]
theorem Bw.si {G S : Nat} {l : List Nat} {w : World} (h : Bw G S l w) (c : Nat) (hc : l.length ≤ c) (hm : c ≤ maxLen) : Si .u8 (.slice (some ⟨G, 0, none⟩) l.length c) l w := by
  obtain ⟨cs, h1, h2, h3, h4⟩ := h
  exact .inr ⟨G, 0, c, rfl, hc, hm, (Array.getElem?_eq_some_iff.1 h1).1, fun j hj => by rw [Nat.zero_add]; simp [World.cell?, h1]; exact h4 j hj⟩
theorem conv_bw (w : World) (s : ByteArray) (hs : s.size ≤ 1073741824) : ∃ c S w', (convert 9 27 (.string s)).run Try.prog w = .ok (.slice (some ⟨w.heap.size, 0, none⟩) s.size c) w' ∧ Bw w.heap.size S (tl s) w' ∧ s.size ≤ c ∧ c ≤ maxLen ∧ Below w.heap.size w w' := by
  refine ⟨_, (Lib.bytesCells w 5 s).size, _, Lib.run_convert_string_bytes (P := Try.prog) w 9 27 5 s Try.underlying9 Try.underlying27 Try.underlying5, ⟨_, Lib.bytesWorld_at_new w 5 s, rfl, ?_, fun j hj => ?_⟩, grownCap_ge _ _ _ _, grownCap_le_maxLen _ _ _ _ (by unfold maxLen; omega), ⟨rfl, rfl, rfl, by rw [Lib.bytesWorld_size]; omega, fun k hk => Lib.bytesWorld_at_old w 5 s k hk⟩⟩
  · rw [tl_len]
    simp [Lib.bytesCells]
  · rw [tl_len] at hj
    have h2 : j < s.data.size := hj
    have : (tl s).getD j 0 = (s.data.toList.getD j 0).toNat := by
      unfold tl
      simp only [List.getD, List.getElem?_map, Array.getElem?_toList, Array.getElem?_eq_getElem h2]
      rfl
    rw [this]
    simp [Lib.bytesCells, Array.getElem?_append, List.getD, hj]
theorem tos_row (u : Nat) (ws : List ByteArray) (i : Nat) (hi : i < ws.length) : (tos u (ws.take i) ++ List.replicate (ws.length - i) (⟨#[]⟩ : ByteArray)).set i (bst (xr u (tl (txt ws i)))) = tos u (ws.take (i + 1)) ++ List.replicate (ws.length - (i + 1)) (⟨#[]⟩ : ByteArray) := by
  have h1 : (tos u (ws.take i)).length = i := by rw [tos_len, List.length_take]; omega
  have h2 : List.replicate (ws.length - i) (⟨#[]⟩ : ByteArray) = ⟨#[]⟩ :: List.replicate (ws.length - (i + 1)) ⟨#[]⟩ := by rw [← List.replicate_succ]; congr 1; omega
  rw [List.set_append_right _ _ (by omega), h1, Nat.sub_self, h2, List.set_cons_zero, List.take_succ_eq_append_getElem hi, txt_eq hi]
  simp only [tos, List.map_append, List.map_cons, List.map_nil, List.append_assoc, List.singleton_append]
theorem puts_byt {T : List ByteArray} {st : Nat} : ∀ (H : List (Int × Int)) (t : List Nat), Byt t → Byt (puts T st t H)
  | [], _, h => h
  | x :: H, t, h => puts_byt H (ovr t (tl (txt T x.2.toNat)) (x.1.toNat - st)) (ovr_byt h (tl_byt _) _)
attribute [local go_sem ↓] toApS toApT toMkS
set_option maxRecDepth 100000 in
set_option maxHeartbeats 3200000 in
theorem back_any (l0 : List ByteArray) (hl0 : l0.length ≤ 1048576) (z : Int) (d : List Nat) (hdl : d.length ≤ 1073741824) (hdb : Byt d) (at' : List Nat) (hal : at'.length ≤ 1073741824) (ha : ∀ j, at'.getD j 0 < 65536) (u : Nat) (hu : u < 256) (v0 v2 v3 : Value) (w : World) (h0 : St v0 l0 w) (h2 : Si .u8 v2 d w) (h3 : Si .u16 v3 at' w) :
    Calls Try.prog 5 #[v0, .int .i64 z, v2, v3, .int .u8 (u : Int)] w fun e w' => e = .returned (.bool true) ∧ Below w.heap.size w w' := by
  obtain ⟨o, c, rfl, hc1, hc2, _⟩ := h0.form
  obtain ⟨v', w1, r1, hs1, hb1⟩ := run_apA w 26 o c l0 ⟨#[97, 98]⟩ h0 (by omega)
  have hl1 : (l0 ++ [(⟨#[97, 98]⟩ : ByteArray)]).length = l0.length + 1 := by simp
  have CW : Hid _ := words_any (l0 ++ [⟨#[97, 98]⟩]) (by rw [hl1]; omega) z v' w1 hs1
  generalize hL : l0 ++ [(⟨#[97, 98]⟩ : ByteArray)] = l1 at *
  have HB1 : Hid (Below w.heap.size w w1) := hb1
  have H2 : Hid (Si .u8 v2 d w1) := h2.below hb1
  have H3 : Hid (Si .u16 v3 at' w1) := h3.below hb1
  obtain ⟨n, hn⟩ : ∃ n, n = min 24 l1.length := ⟨_, rfl⟩
  rw [← hn] at CW
  have hn0 : 0 < n := by omega
  have hn24 : n ≤ 24 := by omega
  clear hL hn h0 h2 h3 hs1 hb1
  go_enter Try.func5, Try.ntmps5
  go_wp2_with fail
  refine Calls.mono CW.out ?_
  rintro e w2 ⟨m, uv, rfl, hm2, hm17, ho2, hb2⟩
  clear CW
  obtain ⟨ws, hPt, hok, hnd, hwl, hst2⟩ : ∃ ws : List ByteArray, Pt ws m ∧ (∀ (e : Ending) (w' : World), NewP ws e w' → ∃ ns, NewOk ws ns ∧ ∃ g gt, e = .returned (.tuple #[.pointer (some ⟨g, 0, none⟩), .int .i64 0]) ∧ Sve g gt w' ∧ TabK w'.heap.size gt (ftT ((wdS ws ns).map tl) ns m) w') ∧ (ws.map tl).Nodup ∧ ws.length = n ∧ St uv ws w2 :=
    ⟨wds l1 m n, wds_pt l1 m n hn0 hn24 hm2 hm17, wds_ok l1 m n hn0 hn24 hm2 hm17, wds_nodup l1 m n hn24 hm2, wds_len l1 m n, own_st ho2 (wds_len l1 m n).symm⟩
  have HB2 : Hid (Below w.heap.size w w2) := HB1.out.trans (hb2.mono HB1.out.size)
  obtain ⟨D, hDl, hDb, CP⟩ : ∃ D : List Nat, D.length = d.length ∧ Byt D ∧ Hid (Calls Try.prog 13 #[v2, uv, v3] w2 fun e w' => ∃ g, e = .returned (.slice (some ⟨g, 0, none⟩) D.length D.length) ∧ w2.heap.size ≤ g ∧ w'.heap[g]? = some (.cells (ik .u8 D) 5 (0, 0)) ∧ Below w2.heap.size w2 w') :=
    ⟨pltD d ws at', pltD_len d ws at', pltD_byt d hdb ws at', by rw [pltD_len]; exact planted_any d hdl ws (by omega) (by omega) at' hal ha v2 uv v3 w2 (H2.out.below hb2) hst2 (H3.out.below hb2)⟩
  rw [← hDl] at hdl
  have HU2 : Hid (St uv ws w2) := hst2
  obtain ⟨ou, cu, rfl, _, _, _⟩ := hst2.form
  have hwl0 : 0 < ws.length := by omega
  have hwl24 : ws.length ≤ 24 := by omega
  have HPT : Hid _ := hPt
  have HOK : Hid _ := hok
  have HND : Hid _ := hnd
  have HDB : Hid _ := hDb
  clear H2 H3 HB1 ho2 hb2 hst2 hDl ha hdb hPt hok hnd hDb hwl hn0 hn24 hl1 hc1 hc2 r1
  go_wp2_with fail
  refine Calls.mono CP.out ?_
  rintro e w3 ⟨gd, rfl, hgd, hR3, hb3⟩
  clear CP
  have hS3 : St (.slice ou ws.length cu) ws w3 := HU2.out.below hb3
  have HB3 : Hid (Below w.heap.size w w3) := HB2.out.trans (hb3.mono HB2.out.size)
  have HR3 : Hid (w3.heap[gd]? = some (.cells (ik .u8 D) 5 (0, 0))) := hR3
  have CN : Hid _ := new_any ws (by omega) (fun s hs => by rw [HPT.out.sz s hs]; omega) (fun v w h => byText_any ws h v w) _ w3 hS3
  have HS3 : Hid (St (.slice ou ws.length cu) ws w3) := hS3
  clear hS3 hb3 hR3 hgd HB2 HU2
  go_wp2_with fail
  refine Calls.mono CN.out ?_
  rintro e w4 ⟨hP4, hb4⟩
  obtain ⟨ns, hok4, g, gt, rfl, hS4, hT4⟩ := HOK.out e w4 hP4
  clear CN hP4
  have HB4 : Hid (Below w.heap.size w w4) := HB3.out.trans (hb4.mono HB3.out.size)
  have HU4 : Hid (St (.slice ou ws.length cu) ws w4) := HS3.out.below hb4
  have gdz : gd < w3.heap.size := (Array.getElem?_eq_some_iff.1 HR3.out).1
  have HR4 : Hid (w4.heap[gd]? = some (.cells (ik .u8 D) 5 (0, 0))) := (hb4.block gd gdz).trans HR3.out
  obtain ⟨W5, r5, R5, b5⟩ := run_mkS w4 ws.length (by omega)
  have HT : Hid (W5.heap[w4.heap.size]? = some (.cells (sk (tos u (ws.take 0) ++ List.replicate (ws.length - 0) (⟨#[]⟩ : ByteArray))) 9 (0, 0)) ∧ Below w4.heap.size w4 W5) := ⟨by rw [R5]; simp [sk, tos], b5⟩
  have HOK4 : Hid (NewOk ws ns ∧ Sve g gt w4 ∧ TabK w4.heap.size gt (ftT ((wdS ws ns).map tl) ns m) w4) := ⟨hok4, hS4, hT4⟩
  clear R5 b5 hok4 hS4 hT4 hb4 HB3 HR3 HS3 gdz HOK
  obtain ⟨ou', cu', huo, _, _, huf⟩ := HU4.out.form
  cases huo
  obtain ⟨bu, offu, hou, hbu, hcu⟩ := huf hwl0
  subst hou
  have HCU : Hid (∀ (j : Nat) s, ws[j]? = some s → w4.cell? ⟨bu, offu + j, none⟩ = some (.string s)) := hcu
  clear hcu huf
  obtain ⟨gT, hgT⟩ : ∃ gT, gT = w4.heap.size := ⟨_, rfl⟩
  have HGT : Hid (gT = w4.heap.size) := hgT
  rw [← hgT] at HT r5
  have HSZ : Hid (∀ i, i < ws.length → (txt ws i).size = m) := fun i hi => HPT.out.sz _ (by rw [txt_eq hi]; exact List.getElem_mem hi)
  clear hgT
  go_wp2_with fail
  go_loopw [16] (fun iv wr => ∃ i : Nat, iv = .int .i64 (i : Int) ∧ i ≤ ws.length ∧ Hid (wr.heap[gT]? = some (.cells (sk (tos u (ws.take i) ++ List.replicate (ws.length - i) (⟨#[]⟩ : ByteArray))) 9 (0, 0)) ∧ Below gT w4 wr)) (fun iv _ => ws.length - (intOf iv).toNat)
  case atStart => exact ⟨0, rfl, by omega, HT.out.1, by rw [HGT.out]; have := HT.out.2; rw [HGT.out] at this; exact this⟩
  case round =>
    clear HT r5
    obtain ⟨i, rfl, hi, HT⟩ := hrel
    obtain ⟨wo, rfl⟩ : ∃ wo, wo = wr := ⟨_, rfl⟩
    by_cases hlt : i < ws.length
    · have hi0 : (0 : Int) ≤ (i : Int) := by omega
      have hi1 : (i : Int) < (ws.length : Int) := by omega
      have hsz := HSZ.out i hlt
      have cs : wo.cell? ⟨bu, offu + i, none⟩ = some (.string (txt ws i)) := (World.cell?_of_block (w := w4) (HT.out.2.block bu (by rw [HGT.out]; exact hbu))).trans (HCU.out i _ (txt_get hlt))
      obtain ⟨cp, S, W1, rc, hB1, hc1, hc2, b1⟩ := conv_bw wo (txt ws i) (by omega)
      have HLL : Hid ((tl (txt ws i)).length = m) := by show _ = _; rw [tl_len]; exact hsz
      rw [hsz] at rc hc1
      obtain ⟨G, hG⟩ : ∃ G, G = wo.heap.size := ⟨_, rfl⟩
      have HG : Hid (G = wo.heap.size) := hG
      rw [← hG] at rc hB1
      have HI0 : Hid (Bw G S (xk u (tl (txt ws i)) 0) W1 ∧ Below wo.heap.size wo W1) := ⟨by simpa [xk, xr] using hB1, b1⟩
      have HCP : Hid (m ≤ cp ∧ cp ≤ maxLen) := ⟨hc1, hc2⟩
      have gTz : gT < wo.heap.size := (Array.getElem?_eq_some_iff.1 HT.out.1).1
      have HROW : Hid (∀ W v, Below wo.heap.size wo W → W.cell? ⟨gT, i, none⟩ = some (.string ⟨#[]⟩) ∧ W.frozen? ⟨gT, i, none⟩ = false ∧ (v = bst (xr u (tl (txt ws i))) → (W.setCell ⟨gT, i, none⟩ (.string v)).heap[gT]? = some (.cells (sk (tos u (ws.take (i + 1)) ++ List.replicate (ws.length - (i + 1)) (⟨#[]⟩ : ByteArray))) 9 (0, 0)) ∧ Below gT w4 (W.setCell ⟨gT, i, none⟩ (.string v)))) := fun W v hb => by
        have hr := (hb.block gT gTz).trans HT.out.1
        have hlen : i < (tos u (ws.take i) ++ List.replicate (ws.length - i) (⟨#[]⟩ : ByteArray)).length := by rw [List.length_append, tos_len, List.length_take, List.length_replicate]; omega
        refine ⟨?_, frozen_of_row W _ _ _ _ hr, fun hv => ⟨?_, ?_⟩⟩
        · rw [cell_of_row W _ _ _ _ _ hr, sk_get _ _ hlen]
          have h1 : (tos u (ws.take i)).length = i := by rw [tos_len, List.length_take]; omega
          have h5 : txt (tos u (ws.take i) ++ List.replicate (ws.length - i) (⟨#[]⟩ : ByteArray)) i = ⟨#[]⟩ := by
            rw [txt_eq hlen, List.getElem_append_right (by omega)]
            simp
          rw [h5]
        · rw [← tos_row u ws i hlt, ← hv, ← sk_set]
          exact heap_setCell_same _ _ _ _ _ _ hr
        · exact (HT.out.2.trans (hb.mono (by omega))).setCell (Nat.le_refl _) _
      clear hB1 hc1 hc2 b1 hG hsz HT
      generalize txt ws i = s at *
      go_wp2_with fail
      go_loopw [18] (fun kv wr => ∃ k : Nat, kv = .int .i64 (k : Int) ∧ k ≤ m ∧ Hid (Bw G S (xk u (tl s) k) wr ∧ Below wo.heap.size wo wr)) (fun kv _ => m - (intOf kv).toNat)
      case atStart => exact ⟨0, rfl, by omega, HI0⟩
      case round =>
        clear HI0 rc
        obtain ⟨k, rfl, hk, HI⟩ := hrel
        by_cases hkm : k < m
        · have hk0 : (0 : Int) ≤ (k : Int) := by omega
          have hk1 : (k : Int) < (m : Int) := by omega
          have hkl : k < (tl s).length := by rw [HLL.out]; exact hkm
          obtain ⟨cc, ff⟩ := HI.out.1.cell k (by rw [xk_len]; exact hkl)
          rw [xk_get u _ k hkl] at cc
          have hxb : (tl s).getD k 0 < 256 := by
            have : (tl s).getD k 0 = (tl s)[k] := by simp [List.getD, hkl]
            rw [this]; exact tl_byt s _ (List.getElem_mem hkl)
          have hx := u8_xor_nat _ u hxb hu
          have HI2 : Hid (Bw G S (xk u (tl s) (k + 1)) (wr.setCell ⟨G, k, none⟩ (.int .u8 (((tl s).getD k 0 ^^^ u : Nat) : Int))) ∧ Below wo.heap.size wo (wr.setCell ⟨G, k, none⟩ (.int .u8 (((tl s).getD k 0 ^^^ u : Nat) : Int)))) := by
            rw [← xk_succ u _ k hkl]
            exact ⟨HI.out.1.set k _ (by rw [xk_len]; exact hkl), HI.out.2.setCell (by rw [HG.out]; exact Nat.le_refl _) _⟩
          generalize (tl s).getD k 0 = a at *
          generalize a ^^^ u = x at *
          clear HI hkl
          go_wp2
          exact ⟨⟨k + 1, by rfl, by omega, HI2⟩, by simp only [intOf]; omega⟩
        · have hk1 : ¬ ((k : Int) < (m : Int)) := by omega
          have hke : k = m := by omega
          have hB : Bw G S (xr u (tl s)) wr := by have := HI.out.1; rw [hke, ← HLL.out, xk_all] at this; exact this
          have hSi := hB.si cp (by rw [xr_len, HLL.out]; exact HCP.out.1) HCP.out.2
          rw [xr_len, HLL.out] at hSi
          have cv := conv_si hSi
          obtain ⟨q1, q2, q3⟩ := HROW.out wr (bst (xr u (tl s))) HI.out.2
          have HQ : Hid _ := q3 rfl
          clear hB hSi q3 HI HROW HLL hke
          generalize bst (xr u (tl s)) = sv at *
          go_wp2
          exact ⟨⟨i + 1, by rfl, by omega, HQ⟩, by simp only [intOf]; omega⟩
    · have hi1 : ¬ ((i : Int) < (ws.length : Int)) := by omega
      have hie : i = ws.length := by omega
      have HTO : Hid (St (.slice (some ⟨gT, 0, none⟩) ws.length ws.length) (tos u ws) wo ∧ Below gT w4 wo) := by
        obtain ⟨h1, h2⟩ := HT.out
        rw [hie, List.take_length, Nat.sub_self, List.replicate_zero, List.append_nil] at h1
        refine ⟨.inr ⟨gT, 0, ws.length, by rw [tos_len], by rw [tos_len]; exact Nat.le_refl _, by unfold maxLen; omega, (Array.getElem?_eq_some_iff.1 h1).1, fun j s hj => ?_⟩, h2⟩
        have hjl : j < (tos u ws).length := (List.getElem?_eq_some_iff.1 hj).1
        rw [Nat.zero_add, cell_of_row wo _ _ _ _ _ h1, sk_get _ _ hjl, txt_eq hjl]
        rw [List.getElem?_eq_getElem hjl] at hj
        rw [Option.some.inj hj]
      clear HT hie
      obtain ⟨T, hT⟩ : ∃ T, T = tos u ws := ⟨_, rfl⟩
      rw [← hT] at HTO
      have HPT2 : Hid (Pt T m ∧ (T.map tl).Nodup ∧ T.length = ws.length) := by rw [hT]; exact ⟨tos_pt HPT.out, tos_nodup hu HND.out, tos_len _ _⟩
      have h04 : Below gT w4 wo := HTO.out.2
      have CN2 : Hid (Calls Try.prog 14 #[.slice (some ⟨gT, 0, none⟩) ws.length ws.length] wo fun e w' => NewP T e w' ∧ Below wo.heap.size wo w') := by
        have hTL := HPT2.out.2.2
        exact new_any T (by omega) (fun s hs => by rw [HPT2.out.1.sz s hs]; omega) (fun v w h => byText_any T h v w) _ wo HTO.out.1
      clear hT HSZ HCU
      go_wp2_with fail
      refine Calls.mono CN2.out ?_
      rintro e w6 ⟨hP6, b6⟩
      clear CN2
      obtain ⟨ns2, hok2, g2, gt2, rfl, hS6, hT6⟩ := nwp_ok T m HPT2.out.1 HPT2.out.2.1 _ _ hP6
      clear hP6
      have gTo : gT ≤ wo.heap.size := by rw [HGT.out]; have := h04.size; omega
      have B46 : Hid (Below w4.heap.size w4 w6) := by rw [← HGT.out]; exact h04.trans (b6.mono gTo)
      have HD : Hid (∀ W, Below w4.heap.size w4 W → Si .u8 (.slice (some ⟨gd, 0, none⟩) D.length D.length) D W) := fun W hb => Si.below (.inr ⟨gd, 0, _, rfl, Nat.le_refl _, by unfold maxLen; omega, (Array.getElem?_eq_some_iff.1 HR4.out).1, fun j hj => by rw [Nat.zero_add]; exact (cell_of_row w4 _ _ _ _ _ HR4.out).trans (ik_get _ _ _ hj)⟩) hb
      obtain ⟨H, hH⟩ : ∃ H, H = hts (ws.map tl) m D := ⟨_, rfl⟩
      have SC1 : Hid (∀ W, Below w4.heap.size w4 W → Calls Try.prog 16 #[.pointer (some ⟨g, 0, none⟩), .slice (some ⟨gd, 0, none⟩) D.length D.length] W fun e w' => ∃ v, e = .returned v ∧ Hl v H w' ∧ Below W.heap.size W w') := fun W hb => by
        obtain ⟨k1, k2, k3⟩ := HOK4.out
        have hS : Sve g gt W := (hb.block g (Array.getElem?_eq_some_iff.1 k2).1).trans k2
        have hTb : TabK W.heap.size gt (ftT ((wdS ws ns).map tl) ns m) W := (k3.mono hb.size).keep hb.size fun j _ hj => hb.block j hj
        rw [hH]
        exact (scan_hts ws m HPT.out ns k1 g gt D HDB.out (by omega) _ W hS hTb (HD.out W hb)).mono fun e w' ⟨v, he, ho, hbb⟩ => ⟨v, he, (hl_own ho).1, hbb⟩
      have SC2 : Hid (∀ W pv X, Below w6.heap.size w6 W → Si .u8 pv X W → Byt X → X.length ≤ 1073741824 → Calls Try.prog 16 #[.pointer (some ⟨g2, 0, none⟩), pv] W fun e w' => ∃ v, e = .returned v ∧ Hl v (hts (T.map tl) m X) w' ∧ Below W.heap.size W w') := fun W pv X hb hX hXb hXl => by
        have hS : Sve g2 gt2 W := (hb.block g2 (Array.getElem?_eq_some_iff.1 hS6).1).trans hS6
        have hTb : TabK W.heap.size gt2 (ftT ((wdS T ns2).map tl) ns2 m) W := (hT6.mono hb.size).keep hb.size fun j _ hj => hb.block j hj
        exact (scan_hts T m HPT2.out.1 ns2 hok2 g2 gt2 X hXb (by omega) _ W hS hTb hX).mono fun e w' ⟨v, he, ho, hbb⟩ => ⟨v, he, (hl_own ho).1, hbb⟩
      have RW1 : Hid (Calls Try.prog 20 #[.pointer (some ⟨g, 0, none⟩), .slice (some ⟨gd, 0, none⟩) D.length D.length, .slice (some ⟨gT, 0, none⟩) ws.length ws.length] w6 fun e w' => Below w6.heap.size w6 w' ∧ RwP m ws.length T D H w6.heap.size e w') := by
        obtain ⟨k1, k2, k3⟩ := HOK4.out
        have hb := B46.out
        have hS : Sve g gt w6 := (hb.block g (Array.getElem?_eq_some_iff.1 k2).1).trans k2
        have hTb : TabK w6.heap.size gt (ftT ((wdS ws ns).map tl) ns m) w6 := (k3.mono hb.size).keep hb.size fun j _ hj => hb.block j hj
        rw [hH]
        exact rewrite_hts ws m HPT.out ns k1 g gt T (by rw [HPT2.out.2.2]; omega) _ _ D HDB.out hdl w6 hS hTb (HTO.out.1.below b6) (HD.out w6 hb)
      have RW2 : Hid (∀ W pv X, Below w6.heap.size w6 W → Si .u8 pv X W → Byt X → X.length ≤ 1073741824 → Calls Try.prog 20 #[.pointer (some ⟨g2, 0, none⟩), pv, .slice (some ⟨bu, offu, none⟩) ws.length cu] W fun e w' => Below W.heap.size W w' ∧ RwP m T.length ws X (hts (T.map tl) m X) W.heap.size e w') := fun W pv X hb hX hXb hXl => by
        have hS : Sve g2 gt2 W := (hb.block g2 (Array.getElem?_eq_some_iff.1 hS6).1).trans hS6
        have hTb : TabK W.heap.size gt2 (ftT ((wdS T ns2).map tl) ns2 m) W := (hT6.mono hb.size).keep hb.size fun j _ hj => hb.block j hj
        exact rewrite_hts T m HPT2.out.1 ns2 hok2 g2 gt2 ws (by omega) _ _ X hXb hXl W hS hTb (HU4.out.below (B46.out.trans (hb.mono B46.out.size))) hX
      have c60 : Hid (∀ W, Below w6.heap.size w6 W → W.cell? ⟨bu, offu, none⟩ = some (.string (txt ws 0))) := fun W hb => by
        have hbb := B46.out.trans (hb.mono B46.out.size)
        rcases HU4.out with ⟨h, _⟩ | ⟨b', off', c', h, _, _, h4, h5⟩
        · cases h
        · cases h
          exact (World.cell?_of_block (w := w4) (hbb.block bu hbu)).trans (h5 0 _ (txt_get hwl0))
      have HB6 : Hid (Below w.heap.size w w6) := HB4.out.trans (B46.out.mono HB4.out.size)
      have hsz0 : (txt ws 0).size = m := HPT.out.sz _ (by rw [txt_eq hwl0]; exact List.getElem_mem hwl0)
      have HRG : Hid (Rg H ∧ ∀ i ∈ H, Hin 0 D.length m T.length i) := by
        rw [hH]
        exact ⟨hts_rg _ (by rw [List.length_map]; omega) m D (by omega), hts_hin _ _ _ _ (by rw [List.length_map, HPT2.out.2.2])⟩
      have HHH : Hid (H = hts (ws.map tl) m D) := hH
      have HOV : Hid (ovP 0 m H = if 0 < ov H (m : Int) then ((H.getD (ov H (m : Int)).toNat (0, 0)).1, true) else (0, false)) := by rw [hH]; exact ovP_hts _ _ _
      clear hS6 hT6 hok2 HOK4 hH HTO h04 gTo b6 HGT
      go_wp2_with fail
      refine Calls.mono RW1.out ?_
      rintro e w7 ⟨b7, hP7⟩
      clear RW1
      rcases hP7 with ⟨y1, -⟩ | ⟨-, y1, -⟩ | ⟨-, -, y1, rfl⟩ | ⟨-, -, y1, v, rfl, y2⟩
      · exact absurd HPT2.out.2.2 y1
      · rw [pt_all HPT2.out.1] at y1; cases y1
      · have hov : 0 < ov H (m : Int) := by
          rw [HOV.out] at y1
          by_cases h : 0 < ov H (m : Int)
          · exact h
          · rw [if_neg h] at y1; cases y1
        have CS : Hid (∀ W, Below w7.heap.size w7 W → Calls Try.prog 16 #[.pointer (some ⟨g, 0, none⟩), .slice (some ⟨gd, 0, none⟩) D.length D.length] W fun e w' => ∃ v, e = .returned v ∧ w'.cell? ⟨bu, offu, none⟩ = some (.string (txt ws 0)) ∧ Hid (Hl v H w' ∧ Below w7.heap.size w7 w')) := fun W hb => by
          have h46 := B46.out.trans ((b7.trans (hb.mono b7.size)).mono B46.out.size)
          refine (SC1.out W h46).mono fun e w' ⟨v, h1, h2, h3⟩ => ⟨v, h1, ?_, h2, hb.trans (h3.mono hb.size)⟩
          exact c60.out w' (b7.trans ((hb.trans (h3.mono hb.size)).mono b7.size))
        have CO : Hid (∀ W v, Hl v H W ∧ Below w7.heap.size w7 W → Calls Try.prog 9 #[v, .int .i64 (m : Int)] W fun e w' => e = .returned (.int .i64 (ov H (m : Int))) ∧ Hid (Below w.heap.size w w')) := fun W v ⟨h1, h2⟩ => by
          refine (overlap_any H HRG.out.1 (m : Int) (by unfold I64; omega) v W h1).mono fun e w' ⟨h3, h4⟩ => ⟨h3, ?_⟩
          have h5 : Below w7.heap.size w7 w' := h2.trans (h4.mono h2.size)
          exact HB6.out.trans ((b7.trans (h5.mono b7.size)).mono HB6.out.size)
        have c7 : w7.cell? ⟨bu, offu, none⟩ = some (.string (txt ws 0)) := c60.out w7 b7
        have c7d : w7.drew.cell? ⟨bu, offu, none⟩ = some (.string (txt ws 0)) := c7
        have hwi : (0 : Int) < (ws.length : Int) := by omega
        generalize ov H (m : Int) = y at *
        generalize txt ws 0 = t0 at *
        have hsz1 : (t0.size : Int) = (m : Int) := by omega
        clear SC1 SC2 RW2 c60 b7 HHH HRG HOV y1 hsz0 HD B46 HB4 HB6 HPT HPT2 HND HDB HU4 HR4
        go_wp2_with fail
        go_region_with (first | (go_at_call 16; refine Calls.mono (CS.out _ ?_) ?_; exact Below.drewN' (Below.refl _ _) 1; rintro e W8 ⟨hv, rfl, k0, HK⟩) | (go_at_call 9; refine Calls.mono (CO.out _ _ HK.out) ?_; rintro e W9 ⟨rfl, HB9⟩))
        all_goals
          clear CS CO HK
          go_wp2
          go_ret
          exact ⟨rfl, HB9.out⟩
      · obtain ⟨ox, cx, hvx⟩ := own_size y2
        subst hvx
        obtain ⟨X, hX⟩ : ∃ X, X = puts T 0 D H := ⟨_, rfl⟩
        rw [← hX] at y2
        have hXl : X.length = D.length := by rw [hX]; exact puts_len (m := m) HPT2.out.1.sz H D HRG.out.2
        have hXb : Byt X := by rw [hX]; exact puts_byt _ _ HDB.out
        have hSX : Si .u8 (.slice ox D.length cx) X w7 := own_si y2 hXl.symm
        have HBK : Hid (puts ws 0 X H = D) := by show _ = _; rw [hX, HHH.out]; exact back_id ws T m HPT.out.sz HPT2.out.1.sz HPT2.out.2.2 D
        have H47 : Hid (Below w4.heap.size w4 w7) := B46.out.trans (b7.mono B46.out.size)
        have S2 : Hid (Calls Try.prog 16 #[.pointer (some ⟨g2, 0, none⟩), .slice ox D.length cx] w7 fun e w' => ∃ v, e = .returned v ∧ Hl v (hts (T.map tl) m X) w' ∧ Below w7.heap.size w7 w') := SC2.out w7 _ X b7 hSX hXb (by omega)
        have HX : Hid (Si .u8 (.slice ox D.length cx) X w7 ∧ Byt X ∧ X.length ≤ 1073741824 ∧ X.length = D.length) := ⟨hSX, hXb, by omega, hXl⟩
        have HB7 : Hid (Below w6.heap.size w6 w7) := b7
        have HY1 : Hid ((ovP 0 m H).2 = false) := y1
        clear hX hXl hXb hSX y2 y1 b7 HHH SC2 HRG HOV c60
        go_wp2_with fail
        refine Calls.mono S2.out ?_
        rintro e w8 ⟨hv2, rfl, hl2, b8⟩
        clear S2
        have S1 : Hid (Calls Try.prog 16 #[.pointer (some ⟨g, 0, none⟩), .slice (some ⟨gd, 0, none⟩) D.length D.length] w8 fun e w' => ∃ v, e = .returned v ∧ Hl v H w' ∧ Below w8.heap.size w8 w') := SC1.out w8 (H47.out.trans (b8.mono H47.out.size))
        have HL2 : Hid (Hl hv2 (hts (T.map tl) m X) w8) := hl2
        have HB8 : Hid (Below w7.heap.size w7 w8) := b8
        clear hl2 b8 SC1
        go_wp2_with fail
        refine Calls.mono S1.out ?_
        rintro e w9 ⟨hv1, rfl, hl1, b9⟩
        clear S1
        have SG : Hid (Calls Try.prog 11 #[hv2, hv1] w9 fun e w' => e = .returned (.bool (decide (hts (T.map tl) m X = H))) ∧ Below w9.heap.size w9 w') := same_gen _ _ hv2 hv1 w9 (HL2.out.below b9) hl1
        have HB9 : Hid (Below w7.heap.size w7 w9) := HB8.out.trans (b9.mono HB8.out.size)
        clear hl1 b9 HL2 HB8
        by_cases hsame : hts (T.map tl) m X = H
        · rw [decide_eq_true hsame] at SG
          have HSM : Hid (hts (T.map tl) m X = H) := hsame
          clear hsame
          go_wp2_with fail
          refine Calls.mono SG.out ?_
          rintro e w10 ⟨rfl, b10⟩
          clear SG
          have h710 : Below w7.heap.size w7 w10 := HB9.out.trans (b10.mono HB9.out.size)
          have h610 : Below w6.heap.size w6 w10 := HB7.out.trans (h710.mono HB7.out.size)
          have R2 : Hid _ := RW2.out w10 _ X h610 (HX.out.1.below h710) HX.out.2.1 HX.out.2.2.1
          have H610 : Hid (Below w6.heap.size w6 w10) := h610
          clear h710 h610 b10 RW2 HB9
          go_wp2_with fail
          refine Calls.mono R2.out ?_
          rintro e w11 ⟨b11, hP⟩
          clear R2
          rcases hP with ⟨z1, -⟩ | ⟨-, z1, -⟩ | ⟨-, -, z1, -⟩ | ⟨-, -, -, yv, rfl, z2⟩
          · exact absurd HPT2.out.2.2.symm z1
          · rw [pt_all HPT.out] at z1; cases z1
          · rw [HSM.out, HY1.out] at z1; cases z1
          · rw [HSM.out, HBK.out, HX.out.2.2.2] at z2
            have cy := conv_si (own_si z2 rfl)
            have h611 : Below w6.heap.size w6 w11 := H610.out.trans (b11.mono H610.out.size)
            have cd := conv_si (HD.out w11 (B46.out.trans (h611.mono B46.out.size)))
            have HE : Hid (Below w.heap.size w w11) := HB6.out.trans (h611.mono HB6.out.size)
            obtain ⟨oy, cyc, hyv⟩ := own_size z2
            subst hyv
            clear z2 h611 b11 HD HBK HX HSM HY1 H610
            generalize bst D = sD at *
            go_wp2
            go_ret
            exact ⟨rfl, HE.out⟩
        · rw [decide_eq_false hsame] at SG
          clear hsame
          go_wp2_with fail
          refine Calls.mono SG.out ?_
          rintro e w10 ⟨rfl, b10⟩
          clear SG
          have HE : Hid (Below w.heap.size w w10) := by
            have h710 : Below w7.heap.size w7 w10 := HB9.out.trans (b10.mono HB9.out.size)
            exact HB6.out.trans ((HB7.out.trans (h710.mono HB7.out.size)).mono HB6.out.size)
          clear b10 RW2 HD HX
          go_wp2
          go_ret
          exact ⟨rfl, HE.out⟩
end Go.Proofs.Ytceaklefdahfkaa
