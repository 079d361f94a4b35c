/- LabelWays' walk, where the label has a text: forty steps at most. -/
import Derived.Test.YtmfkhpledgnipaaDoorWays
namespace Go.Proofs.YtmfkhpledgnipaaDoor
open Go.RowKit
attribute [local go_sem ↓] to25s to25l toEq toBuild toIdx38
attribute [local go_sem] zero25
set_option maxRecDepth 100000 in
set_option maxHeartbeats 3200000 in
theorem ways_le (h : List Nat) (hb : Byt h) (hl : h.length = 20) (nm : ByteArray) (hok : okN nm = 0) (st : Value) (L : List (List UInt8)) (hgt : L.length ≤ 40) (hLs : ∀ t ∈ L, t.length ≤ 9223372036854775807) (bad : Int) (w : World) (ht : Tx w) (hst : Stl st L w) :
    Calls Tryd.prog 4 #[.agg (lab h nm), st, .int .i64 bad] w fun e w' => e = .returned (.bool true) ∧ Below w.heap.size w w' := by
  have bel0 : Below w.heap.size w (w.alloc (.cells (lab h nm) 25)) := (Below.refl _ w).alloc (Nat.le_refl _) _
  have l0 := run_loadR25 (w.alloc (.cells (lab h nm) 25)) w.heap.size h nm (heap_alloc_new _ _) hl
  have HT : Hid (∀ W, Below w.heap.size w W → Tx W) := fun W hW => ht.below hW ht.sz
  have CP := fun W (hW : Tx W) => printC_any h hb hl nm W hW
  have CR : Hid (∀ W, Calls Tryd.prog 9 #[.string nm] W fun e w' => e = .returned (.bool (decide (okN nm = 0))) ∧ w' = W) := fun W => right_any nm W
  have HZ0 : Hid ((w.alloc (.cells (lab h nm) 25)).heap.size = w.heap.size + 1) := by show _ = _; simp
  have HB0 : Hid (Below w.heap.size w (w.alloc (.cells (lab h nm) 25))) := bel0
  clear bel0 ht
  obtain ⟨S, hS⟩ : ∃ S, S = store ++ baseS h nm := ⟨_, rfl⟩
  have P1 : Hid (∀ W, Tx W → Calls Tryd.prog 7 #[.agg (lab h nm)] W fun e w' => e = .returned (.tuple #[.string S, .int .i64 0]) ∧ Below W.heap.size W w') := fun W hW => by
    have := CP W hW
    unfold printV at this
    rw [if_pos hok, ← hS] at this
    exact this
  have CR' : Hid (∀ W, Calls Tryd.prog 9 #[.string nm] W fun e w' => e = .returned (.bool true) ∧ w' = W) := fun W => by
    have := CR.out W
    rw [decide_eq_true hok] at this
    exact this
  have hns := okN_size nm hok
  have hSz : S.data.toList.length = 46 + nm.size := by
    rw [hS, app_list, List.length_append, Array.length_toList, Array.length_toList]
    have := baseS_size h nm hl
    show 13 + (baseS h nm).size = _
    omega
  have CS : Hid (∀ W : List UInt8, hd47 W → W.length ≤ 10240 → ∀ V, Tx V → Calls Tryd.prog 14 #[.string (ofL (S.data.toList ++ W))] V (SpPost h nm W V)) := fun W hW hWl V hV => by
    rw [hS]; exact split_any h hb hl nm hok W hW (by omega) V hV
  obtain ⟨n0, hn0⟩ : ∃ n0, n0 = 46 + nm.size := ⟨_, rfl⟩
  have HSz : Hid (S.data.toList.length = n0 ∧ n0 ≤ 257 ∧ n0 = 46 + nm.size) := ⟨by rw [hn0]; exact hSz, by omega, hn0⟩
  clear CP CR hok hS hns hSz hn0
  obtain ⟨bt, hbt⟩ : ∃ bt, bt = btN bad := ⟨_, rfl⟩
  have HBT : Hid (Bad bt) := by rw [hbt]; exact btN_bad bad
  have hi38 : ∀ W : World, (idx38 (.agg #[.string ⟨#[]⟩, .string ⟨#[46]⟩, .string ⟨#[46, 46]⟩, .string ⟨#[97, 0]⟩]) (.int .i64 (bad % 4))).run Tryd.prog W = .ok (.string (ofL bt)) W := fun W => by rw [hbt]; exact run_idx38 bad W
  have hand := i64_and3 bad
  clear hbt
  go_enter Tryd.func4, Tryd.ntmps4
  go_wp2_with fail
  refine (P1.out _ (HT.out _ HB0.out)).mono ?_
  rintro e W1 ⟨rfl, b1⟩
  have HR1 : Hid (W1.heap[w.heap.size]? = some (.cells (lab h nm) 25 (0, 0))) := (b1.block _ (by rw [HZ0.out]; omega)).trans (heap_alloc_new _ _)
  have bel1 : Below w.heap.size w W1 := HB0.out.trans (b1.mono (by rw [HZ0.out]; omega))
  have c1 : W1.cell? ⟨w.heap.size, 20, none⟩ = some (.string nm) := by rw [cell_of_row _ _ _ _ _ _ HR1.out, lab_name h nm hl]
  clear b1 l0
  go_wp2_with fail
  refine (CR'.out _).mono ?_
  rintro e w' ⟨rfl, hw'⟩
  have hw2 := hw'.symm
  subst hw2
  clear c1
  have hst1 : Stl st L W1 := hst.below bel1
  obtain ⟨o, c, rfl, hc1, hc2, h3⟩ := hst1
  have HLs : Hid (∀ t ∈ L, t.length ≤ 9223372036854775807) := hLs
  have H3 : Hid (Stl (.slice o L.length c) L W1) := ⟨o, c, rfl, hc1, hc2, h3⟩
  clear h3 hst hLs
  have hgt' : ¬ (40 : Int) < (L.length : Int) := by omega
  go_wp2_with fail
  have HV : ∃ L1 : List (List UInt8), Stl (.slice o L.length c) L1 W1 ∧ L1.length ≤ 40 ∧ Hid (∀ t ∈ L1, t.length ≤ 9223372036854775807) := ⟨L, H3.out, hgt, HLs⟩
  generalize hv : Value.slice o L.length c = v1 at HV ⊢
  clear hgt'
  obtain ⟨L1, hst1, hn40, HLs1⟩ := HV
  clear hv H3 HLs hgt hc1 hc2
  obtain ⟨n1, hn1⟩ : ∃ n, n = L1.length := ⟨_, rfl⟩
  have HS1 : Hid (Stl v1 L1 W1) := hst1
  obtain ⟨o1, c1, rfl, x1, x2, x3⟩ := hst1
  rw [← hn1] at hn40 x3 x1 ⊢
  have X3 : Hid (0 < n1 → ∃ b off, o1 = some ⟨b, off, none⟩ ∧ b < W1.heap.size ∧ ∀ j, j < n1 → W1.cell? ⟨b, off + j, none⟩ = some (.string (ofL (L1.getD j [])))) := x3
  have HN1 : Hid (n1 = L1.length) := hn1
  clear x3 hn1
  go_loopw [7, 9, 10] (fun s p i wr => ∃ (k : Nat) (pz : Int), s = .string (ofL (S.data.toList ++ way bt (L1.take k))) ∧ p = .int .i64 pz ∧ i = .int .i64 (k : Int) ∧ k ≤ n1 ∧ Hid (Plc n0 bt (L1.take k) pz) ∧ wr = W1) (fun _ _ i _ => n1 - (intOf i).toNat)
  case atStart => exact ⟨0, -1, by simp [way, ofL_data], rfl, rfl, by omega, Plc.nil _ _, rfl⟩
  case round =>
    obtain ⟨k, pz, rfl, rfl, rfl, hk, HP, rfl⟩ := hrel
    by_cases hlt : k < n1
    · have hk0 : (0 : Int) ≤ (k : Int) := by omega
      have hk1 : (k : Int) < (n1 : Int) := by omega
      obtain ⟨b, off, rfl, hbl, hcl⟩ := X3.out (by omega)
      obtain ⟨t, htt⟩ : ∃ t, t = L1.getD k [] := ⟨_, rfl⟩
      have cx : wr.cell? ⟨b, off + k, none⟩ = some (.string (ofL t)) := by rw [htt]; exact hcl k hlt
      have hmem : t ∈ L1 := by rw [htt]; have := HN1.out; simp [List.getD, show k < L1.length by omega]
      have htl := HLs1.out t hmem
      have HTK : Hid (L1.take (k + 1) = L1.take k ++ [t]) := by
        show _ = _
        rw [htt, List.take_add_one]; have := HN1.out; simp [List.getD, show k < L1.length by omega]
      obtain ⟨X, hX⟩ : ∃ X, X = ofL (S.data.toList ++ way bt (L1.take k)) := ⟨_, rfl⟩
      obtain ⟨Y, hY⟩ : ∃ Y, Y = ofL (S.data.toList ++ way bt (L1.take k) ++ [47]) := ⟨_, rfl⟩
      rw [← hX]
      have hXY : X ++ (⟨#[47]⟩ : ByteArray) = Y := by
        rw [hX, hY]; apply ByteArray.ext; apply Array.ext'; rw [app_list, ofL_list, ofL_list]
      have hw1 : (way bt (L1.take k)).length ≤ 10240 := by
        have := way_len HBT.out (L1.take k); have : (L1.take k).length ≤ 40 := by simp; omega
        omega
      have hXs : X.size ≤ 10497 := by rw [hX, ofL_size, List.length_append]; have := HSz.out; omega
      have hXs' : ¬ (9223372036854775807 < X.size + 1) := by omega
      have hYs : Hid (Y.size = n0 + (way bt (L1.take k)).length + 1) := by
        show _ = _
        rw [hY, ofL_size, List.length_append, List.length_append, List.length_singleton]; have := HSz.out; omega
      have HY : Hid (Y = ofL (S.data.toList ++ way bt (L1.take k) ++ [47])) := hY
      clear htt hcl hmem hX hY HN1 HLs1 HS1 X3
      obtain ⟨tb, htb⟩ : ∃ tb, tb = ofL t := ⟨_, rfl⟩
      have htz : tb.size = t.length := by rw [htb, ofL_size]
      have htL : tb.toList = t := by rw [htb, ByteArray.toList_eq, ofL_list]
      have HTB : Hid (tb = ofL t ∧ tb.size = t.length ∧ t.length ≤ 9223372036854775807) := ⟨htb, htz, htl⟩
      rw [← htb] at cx
      clear htb htl
      rcases Nat.lt_or_ge 0 t.length with p1 | p1
      case' inr =>
        have q1 : ¬ ((0 : Int) < (tb.size : Int)) := by omega
        have HO : Hid (false = okH t) := by show _ = _; unfold okH; rw [decide_eq_false (by omega)]; rfl
        clear htz htL p1
        go_wp2_with fail
      case' inl =>
        have q1 : (0 : Int) < (tb.size : Int) := by omega
        rcases Nat.lt_or_ge t.length 256 with p2 | p2
        case' inr =>
          have q2 : ¬ ((tb.size : Int) < 256) := by omega
          have HO : Hid (false = okH t) := by show _ = _; unfold okH; rw [decide_eq_true p1, decide_eq_false (by omega)]; rfl
          clear htz htL p1 p2
          go_wp2_with fail
        case' inl =>
          have q2 : (tb.size : Int) < 256 := by omega
          rcases Classical.em (t = [46]) with p3 | p3
          case' inl =>
            have q3 : (tb.toList == [46]) = true := by rw [htL, p3]; rfl
            have HO : Hid (false = okH t) := by show _ = _; rw [p3]; rfl
            clear htz htL p1 p2 p3
            go_wp2_with fail
          case' inr =>
            have q3 : (tb.toList == [46]) = false := by rw [htL]; exact beq_off p3
            have HO : Hid ((!(tb.toList == [46, 46])) = okH t) := by show _ = _; unfold okH; rw [decide_eq_true p1, decide_eq_true p2, htL, beq_off p3]; rfl
            clear htz htL p1 p2 p3
            go_wp2_with fail
      all_goals as_aux_lemma =>
        go_loopw [12, 13] (fun ov i wq => ∃ j : Nat, ov = .bool (okH t && okB (t.take j)) ∧ i = .int .i64 (j : Int) ∧ j ≤ tb.size ∧ wq = wr) (fun _ i _ => tb.size - (intOf i).toNat)
        case atStart => exact ⟨0, by rw [← HO.out]; simp [okB], rfl, by omega, rfl⟩
        case round =>
          obtain ⟨j, rfl, rfl, hj, rfl⟩ := hrel
          by_cases hjl : j < tb.size
          · have hj0 : (0 : Int) ≤ (j : Int) := by omega
            have hj1 : (j : Int) < (tb.size : Int) := by omega
            obtain ⟨y, hy⟩ : ∃ y, t[j]? = some y := ⟨_, List.getElem?_eq_getElem (by have := HTB.out; omega)⟩
            have hyb : byt tb j = y.toNat := by
              rw [← byt_at tb j hjl]
              have e1 := idx_byt tb j hjl
              have e2 : tb.data.toList = t := by rw [HTB.out.1, ofL_list]
              rw [e2, hy] at e1
              rw [Option.some.inj e1]
            obtain ⟨cN, hcN⟩ : ∃ c, c = y.toNat := ⟨_, rfl⟩
            have ix : ∀ W : World, (Instr.index 9 (.string tb) (.int .i64 (j : Int))).run Tryd.prog W = .ok (.int .u8 (cN : Int)) W := fun W => by
              rw [hcN, ← hyb]; exact idx9 W tb j hjl
            have hj2 : IntKind.i64.wrap ((j : Int) + 1) = (j : Int) + 1 := by rw [IntKind.wrap_i64]; have := HTB.out; omega
            obtain ⟨g, hg⟩ : ∃ g, g = (okH t && okB (t.take j)) := ⟨_, rfl⟩
            have hst := ok_step t j y hy
            rw [← hg] at hst ⊢
            have HG : Hid ((okH t && okB (t.take (j + 1))) = (g && (y != 0 && y != 47))) := hst
            have HC : Hid (cN = y.toNat) := hcN
            clear hst hg hcN hyb hy
            cases g with
            | false =>
              go_wp2_with fail
              exact ⟨⟨j + 1, by rw [HG.out]; rfl, by simp, by omega, trivial⟩, by simp only [intOf]; omega⟩
            | true =>
              by_cases hy0 : y = 0
              · have hc0 : cN = 0 := by rw [HC.out, hy0]; rfl
                subst hc0
                go_wp2_with fail
                exact ⟨⟨j + 1, by rw [HG.out, hy0]; rfl, by simp, by omega, trivial⟩, by simp only [intOf]; omega⟩
              · have hc0 : ((cN : Int) != 0) = true := by
                  have : cN ≠ 0 := by rw [HC.out]; intro e; exact hy0 (UInt8.toNat_inj.1 e)
                  simp; omega
                have h47 : ((cN : Int) != 47) = (y != 47) := by
                  rw [HC.out]
                  by_cases e : y = 47
                  · rw [e]; rfl
                  · have e2 : y.toNat ≠ 47 := fun e2 => e (UInt8.toNat_inj.1 e2)
                    have e3 : (y != 47) = true := by simpa using e
                    rw [e3]; simp; omega
                go_wp2_with fail
                exact ⟨⟨j + 1, by rw [HG.out]; simp [hy0], by simp, by omega, trivial⟩, by simp only [intOf]; omega⟩
          · have hje : j = tb.size := by omega
            subst hje
            have hj1 : ¬ ((tb.size : Int) < (tb.size : Int)) := by omega
            have htk : (okH t && okB (t.take tb.size)) = okT t := by rw [HTB.out.2.1, List.take_length]; rfl
            rw [htk]
            clear htk hjl
            cases hokt : okT t with
            | true =>
              obtain ⟨k1, k2, k3⟩ := okT_parts hokt
              obtain ⟨Z, hZ⟩ : ∃ Z, Z = Y ++ tb := ⟨_, rfl⟩
              have hYZ : Y ++ tb = Z := hZ.symm
              have hYt : ¬ (9223372036854775807 < Y.size + tb.size) := by have := HTB.out; have := hYs.out; have := HSz.out; omega
              have HZ : Hid (Z = ofL (S.data.toList ++ way bt (L1.take (k + 1)))) := by
                show _ = _
                rw [hZ, HY.out, HTB.out.1, HTK.out, way_snoc, txB, if_pos hokt]
                apply ByteArray.ext; apply Array.ext'; rw [app_list, ofL_list, ofL_list, ofL_list]; simp
              have HP2 : Hid (Plc n0 bt (L1.take (k + 1)) pz) := by show Plc _ _ _ _; rw [HTK.out]; exact HP.out.ok hokt
              clear hZ hokt k1 k2 k3
              go_wp2_with fail
              exact ⟨⟨k + 1, pz, by rw [HZ.out], rfl, by simp, by omega, HP2, trivial⟩, by simp only [intOf]; omega⟩
            | false =>
              obtain ⟨bb, hbb⟩ : ∃ bb, bb = ofL bt := ⟨_, rfl⟩
              have hbs : bb.size ≤ 2 := by rw [hbb, ofL_size]; exact HBT.out.2.2
              obtain ⟨Z, hZ⟩ : ∃ Z, Z = Y ++ bb := ⟨_, rfl⟩
              have hYZ : Y ++ bb = Z := hZ.symm
              have hYt : ¬ (9223372036854775807 < Y.size + bb.size) := by have := hYs.out; have := HSz.out; omega
              have HZ : Hid (Z = ofL (S.data.toList ++ way bt (L1.take (k + 1)))) := by
                show _ = _
                rw [hZ, HY.out, hbb, HTK.out, way_snoc, txB, if_neg (by rw [hokt]; decide)]
                apply ByteArray.ext; apply Array.ext'; rw [app_list, ofL_list, ofL_list, ofL_list]; simp
              rw [← hbb] at hi38
              by_cases hpz : pz < 0
              · have HP2 : Hid (Plc n0 bt (L1.take (k + 1)) (Y.size : Int)) := by show Plc _ _ _ _; rw [HTK.out, hYs.out]; exact HP.out.bad hpz hokt
                clear hZ hokt hbb
                go_wp2_with fail
                exact ⟨⟨k + 1, _, by rw [HZ.out], rfl, by simp, by omega, HP2, trivial⟩, by simp only [intOf]; omega⟩
              · have HP2 : Hid (Plc n0 bt (L1.take (k + 1)) pz) := by show Plc _ _ _ _; rw [HTK.out]; exact HP.out.more hpz t
                clear hZ hokt hbb
                go_wp2_with fail
                exact ⟨⟨k + 1, pz, by rw [HZ.out], rfl, by simp, by omega, HP2, trivial⟩, by simp only [intOf]; omega⟩
    · as_aux_lemma =>
        have hk1 : ¬ ((k : Int) < (n1 : Int)) := by omega
        have hke : k = L1.length := by have := HN1.out; omega
        have htk : L1.take k = L1 := by rw [hke, List.take_length]
        rw [htk] at HP ⊢
        have hw1 : (way bt L1).length ≤ 10240 := by
          have := way_len HBT.out L1; have := HN1.out; omega
        obtain ⟨X, hX⟩ : ∃ X, X = ofL (S.data.toList ++ way bt L1) := ⟨_, rfl⟩
        have hXs : X.size = n0 + (way bt L1).length := by rw [hX, ofL_size, List.length_append, HSz.out.1]
        have hX1 : ¬ ((16384 : Int) < (X.size : Int)) := by have := HSz.out; omega
        have C1 : Hid (∀ V, Tx V → Calls Tryd.prog 14 #[.string X] V (SpPost h nm (way bt L1) V)) := fun V hV => by rw [hX]; exact CS.out _ (way_hd bt L1) hw1 V hV
        rw [← hX]
        have HL1 : Hid (n1 = L1.length) := HN1
        clear hXs hX hke htk HN1 HLs1 X3 CS
        go_wp2_with fail
        refine (C1.out _ (HT.out _ bel1)).mono ?_
        rintro e W2 ⟨b2, hif⟩
        have zw : w.heap.size < wr.heap.size := (Array.getElem?_eq_some_iff.1 HR1.out).1
        have r2 : Hid (W2.heap[w.heap.size]? = some (.cells (lab h nm) 25 (0, 0))) := (b2.block _ zw).trans HR1.out
        have z2 : w.heap.size < W2.heap.size := (Array.getElem?_eq_some_iff.1 r2.out).1
        have bel2 : Below w.heap.size w W2 := bel1.trans (b2.mono (by omega))
        have HS2 : Hid (Stl (.slice o1 L1.length c1) L1 W2) := HS1.out.below b2
        clear b2 HS1
        rcases HP.out.spl HBT.out with ⟨rfl, hs⟩ | ⟨acc, m, rfl, hm, hs⟩
        · rw [hs] at hif
          obtain ⟨v, rfl, hown⟩ := hif
          have HV : Hid (Stl v L1 W2) := stl_own hown
          have s2 : (storeR 25 (.pointer (some ⟨W2.heap.size, 0, none⟩)) (.agg (lab h nm))).run Tryd.prog (W2.alloc (.cells #[.int .u8 0, .int .u8 0, .int .u8 0, .int .u8 0, .int .u8 0, .int .u8 0, .int .u8 0, .int .u8 0, .int .u8 0, .int .u8 0, .int .u8 0, .int .u8 0, .int .u8 0, .int .u8 0, .int .u8 0, .int .u8 0, .int .u8 0, .int .u8 0, .int .u8 0, .int .u8 0, .string ⟨#[]⟩] 25)) = .ok () ((W2.alloc (.cells none25 25)).setRow W2.heap.size (lab h nm)) := run_storeR25 (W2.alloc (.cells none25 25)) W2.heap.size z20 h ⟨#[]⟩ nm (heap_alloc_new _ _) rfl hl
          obtain ⟨W3, hW3⟩ : ∃ W, W = (W2.alloc (.cells none25 25)).setRow W2.heap.size (lab h nm) := ⟨_, rfl⟩
          have r3 : W3.heap[W2.heap.size]? = some (.cells (lab h nm) 25 (0, 0)) := by rw [hW3]; exact setRow_heap _ _ _ _ _ _ (heap_alloc_new _ _)
          have r3' : W3.heap[w.heap.size]? = some (.cells (lab h nm) 25 (0, 0)) := by rw [hW3]; exact (setRow_other _ _ _ _ (by omega)).trans ((heap_alloc_old _ _ (h := z2)).trans r2.out)
          have b3 : Below W2.heap.size W2 W3 := by rw [hW3]; exact below_setRow ((Below.refl _ W2).alloc (Nat.le_refl _) _) (Nat.le_refl _) _
          have bel3 : Below w.heap.size w W3 := bel2.trans (b3.mono (by omega))
          rw [← hW3] at s2
          have l3 := run_loadR25 W3 W2.heap.size h nm r3 hl
          have l3' := run_loadR25 W3 w.heap.size h nm r3' hl
          have heq : (eqR (.agg (lab h nm)) (.agg (lab h nm))).run Tryd.prog W3 = .ok true W3 := by
            have := run_eqR W3 h h nm nm hl hl
            rw [decide_eq_true ⟨rfl, rfl⟩] at this
            exact this
          have CT : Hid (Calls Tryd.prog 15 #[v, .slice o1 n1 c1] W3 fun e w' => e = .returned (.bool true) ∧ Below W3.heap.size W3 w') := by
            have := same_any v (.slice o1 L1.length c1) L1 W3 (HV.out.below b3) (HS2.out.below b3) (by have := HL1.out; omega)
            rw [← HL1.out] at this
            exact this
          have Bel3 : Hid (Below w.heap.size w W3) := bel3
          clear hW3 r3 r3' b3 bel3 hs hown
          go_wp2_with fail
          refine CT.out.mono ?_
          rintro e W4 ⟨rfl, b4⟩
          have bel4 : Below w.heap.size w W4 := Bel3.out.trans (b4.mono Bel3.out.size)
          go_wp2_with fail
          go_ret
          exact ⟨rfl, bel4⟩
        · rw [hs] at hif
          replace hif : e = .returned (.tuple #[.agg none25, .slice none 0 0, .int .i64 32, .int .i64 ((46 + nm.size + m : Nat) : Int)]) := hif
          rw [← HSz.out.2.2] at hif
          subst hif
          obtain ⟨pp, hpp⟩ : ∃ pp, pp = n0 + m := ⟨_, rfl⟩
          rw [← hpp]
          have hp0 : (0 : Int) ≤ (pp : Int) := by omega
          have s2 : (storeR 25 (.pointer (some ⟨W2.heap.size, 0, none⟩)) (.agg none25)).run Tryd.prog (W2.alloc (.cells #[.int .u8 0, .int .u8 0, .int .u8 0, .int .u8 0, .int .u8 0, .int .u8 0, .int .u8 0, .int .u8 0, .int .u8 0, .int .u8 0, .int .u8 0, .int .u8 0, .int .u8 0, .int .u8 0, .int .u8 0, .int .u8 0, .int .u8 0, .int .u8 0, .int .u8 0, .int .u8 0, .string ⟨#[]⟩] 25)) = .ok () ((W2.alloc (.cells none25 25)).setRow W2.heap.size none25) := run_storeR25 (W2.alloc (.cells none25 25)) W2.heap.size z20 z20 ⟨#[]⟩ ⟨#[]⟩ (heap_alloc_new _ _) rfl rfl
          obtain ⟨W3, hW3⟩ : ∃ W, W = (W2.alloc (.cells none25 25)).setRow W2.heap.size none25 := ⟨_, rfl⟩
          have r3 : W3.heap[W2.heap.size]? = some (.cells none25 25 (0, 0)) := by rw [hW3]; exact setRow_heap _ _ _ _ _ _ (heap_alloc_new _ _)
          have b3 : Below W2.heap.size W2 W3 := by rw [hW3]; exact below_setRow ((Below.refl _ W2).alloc (Nat.le_refl _) _) (Nat.le_refl _) _
          have bel3 : Below w.heap.size w W3 := bel2.trans (b3.mono (by omega))
          rw [← hW3] at s2
          have l3 : (loadR 25 (.pointer (some ⟨W2.heap.size, 0, none⟩))).run Tryd.prog W3 = .ok (.agg none25) W3 := run_loadR25 W3 W2.heap.size z20 ⟨#[]⟩ r3 rfl
          have b0 := run_build0
          have heq : (eqR (.agg none25) (.agg none25)).run Tryd.prog W3 = .ok true W3 := by
            have := run_eqR W3 z20 z20 ⟨#[]⟩ ⟨#[]⟩ rfl rfl
            rw [decide_eq_true ⟨rfl, rfl⟩] at this
            exact this
          have Bel3 : Hid (Below w.heap.size w W3) := bel3
          clear hW3 r3 b3 bel3 hs hpp
          go_wp2_with fail
          go_ret
          exact ⟨rfl, Bel3.out⟩
end Go.Proofs.YtmfkhpledgnipaaDoor
